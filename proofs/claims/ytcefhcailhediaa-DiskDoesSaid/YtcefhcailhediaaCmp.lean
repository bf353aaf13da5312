/- THE WALKS OVER strings.Compare. -/
import Derived.Test.YtcefhcailhediaaChk2
import Derived.Lib.Strings
import Derived.Lib.Bytealg
import Derived.Deep.LoopGhost
namespace Go.Proofs.Ytcefhcailhediaa
open Go.RowKit
set_option linter.unusedVariables false
set_option linter.unusedSimpArgs false
attribute [local irreducible] lt

def cb (a b : ByteArray) : Int := Lib.compareBytes a.data.toList b.data.toList
theorem cbl : ∀ x y : List UInt8, (Op.bytesLess x y = true → Lib.compareBytes x y = -1) ∧ (x = y → Lib.compareBytes x y = 0) ∧ (¬ Op.bytesLess x y = true → x ≠ y → Lib.compareBytes x y = 1)
  | [], [] => ⟨fun h => by simp [Op.bytesLess] at h, fun _ => rfl, fun _ h => absurd rfl h⟩
  | [], _ :: _ => ⟨fun _ => rfl, (fun h => by cases h), fun h _ => absurd rfl h⟩
  | _ :: _, [] => ⟨fun h => by simp [Op.bytesLess] at h, (fun h => by cases h), fun _ _ => rfl⟩
  | a :: x, b :: y => by
    obtain ⟨h1, h2, h3⟩ := cbl x y
    simp only [bl_cons, Lib.compareBytes, UInt8.lt_iff_toNat_lt]
    refine ⟨fun h => ?_, fun h => ?_, fun h h' => ?_⟩
    · rcases h with h | ⟨e, h⟩
      · rw [if_pos h]
      · rw [if_neg (by omega), if_neg (by omega)]; exact h1 h
    · injection h with e1 e2; subst e1 e2
      rw [if_neg (by omega), if_neg (by omega)]; exact h2 rfl
    · by_cases hab : b.toNat < a.toNat
      · rw [if_neg (by omega), if_pos hab]
      · have e : a.toNat = b.toNat := by have : ¬ a.toNat < b.toNat := fun q => h (.inl q); omega
        have e' : a = b := UInt8.toNat_inj.1 e
        subst e'
        rw [if_neg (by omega), if_neg (by omega)]
        exact h3 (fun q => h (.inr ⟨rfl, q⟩)) (fun q => h' (by rw [q]))
theorem cb_lt {a b : ByteArray} (h : lt a b = true) : cb a b = -1 := by
  unfold lt at h; rw [Go.ByteArray.toList_eq, Go.ByteArray.toList_eq] at h; exact (cbl _ _).1 h
theorem cb_eq {a b : ByteArray} (h : a = b) : cb a b = 0 := (cbl _ _).2.1 (by rw [h])
theorem cb_gt {a b : ByteArray} (h : ¬ lt a b = true) (h' : a ≠ b) : cb a b = 1 := by
  unfold lt at h; rw [Go.ByteArray.toList_eq, Go.ByteArray.toList_eq] at h; exact (cbl _ _).2.2 h (fun e => h' (ByteArray.ext (Array.toList_inj.1 e)))

set_option maxHeartbeats 1000000 in
set_option maxRecDepth 100000 in
theorem CompareString_any (a b : ByteArray) (w : World) : Calls Try.prog 58 #[.string a, .string b] w fun e w' => e = .returned (.int .i64 (cb a b)) ∧ w = w' := by
  go_enter Try.func58, Try.ntmps58
  go_wp2
  rw [run_callFunc_extern Try.func59 (by kernel_rfl) (by kernel_rfl) (by kernel_rfl) (e := Extern.BytealgCompare.compare) (by kernel_rfl), Lib.run_compareString]
  simp only [Result.andThen]
  rw [Oper.upon_value]
  go_wp2
  go_ret
  exact ⟨rfl, rfl⟩
theorem Compare_any (a b : ByteArray) (w : World) : Calls Try.prog 57 #[.string a, .string b] w fun e w' => e = .returned (.int .i64 (cb a b)) ∧ w = w' := by
  go_enter Try.func57, Try.ntmps57
  go_wp2_with (go_at_call 58; refine (CompareString_any _ _ _).mono ?_; rintro e w' ⟨rfl, rfl⟩)
  go_ret
  exact ⟨rfl, rfl⟩
theorem cmpf_any (n d : ByteArray) (s : Int) (b : ByteArray) (w : World) : Calls Try.prog 56 #[.agg (fcells n d s), .string b] w fun e w' => e = .returned (.int .i64 (cb n b)) ∧ Below w.heap.size w w' := by
  go_enter Try.func56, Try.ntmps56
  go_wp2_with (go_at_call 57; refine (Compare_any _ _ _).mono ?_; rintro e w' ⟨rfl, rfl⟩)
  go_ret
  exact ⟨rfl, (Below.refl _ _).alloc (Nat.le_refl _) _⟩

end Go.Proofs.Ytcefhcailhediaa
