/- THE WALKS OVER value.Hash, AND value.Compare AT THE NUMBERS OF lives. -/
import Derived.Test.YtnnnnlcpmocnfaaDoorVal3
namespace Go.Proofs.YtnnnnlcpmocnfaaDoor
open Go.RowKit
set_option linter.unusedVariables false
set_option linter.unusedSimpArgs false

/-- one byte more of a hash -/
def hstep (h c : Int) : Int := IntKind.u64.wrap (bits .xor .u64 h c * 1099511628211)
def hashI (l : List UInt8) : Int := l.foldl (fun h b => hstep h (b.toNat : Int)) 14695981039346656037
theorem hashI_snoc (l : List UInt8) (b : UInt8) : hashI (l ++ [b]) = hstep (hashI l) (b.toNat : Int) := by unfold hashI; rw [List.foldl_append]; rfl
theorem hstep_bd (h c : Int) : 0 ≤ hstep h c ∧ hstep h c ≤ 18446744073709551615 := by unfold hstep; rw [IntKind.wrap_u64]; omega
theorem hashI_bd (l : List UInt8) : 0 ≤ hashI l ∧ hashI l ≤ 18446744073709551615 := by
  rcases List.eq_nil_or_concat l with h | ⟨m, b, h⟩
  · subst h; unfold hashI; simp
  · rw [h, List.concat_eq_append, hashI_snoc]; exact hstep_bd _ _
theorem index_str {P : Program} {T : TypeId} (hT : P.underlying T = some .string) (l : List UInt8) (k : Nat) (h : k < l.length) (c : Int) (hc : c = (l[k].toNat : Int)) (W : World) :
    (Instr.index T (.string ⟨l.toArray⟩) (.int .i64 (k : Int))).run P W = .ok (.int .u8 c) W := by
  rw [run_index_string _ _ _ _ _ hT, dif_pos ⟨by omega, by simp [ByteArray.size]; omega⟩, hc]
  rfl

set_option maxHeartbeats 1000000 in
theorem hash_any (l : List UInt8) (w : World) (hl : l.length ≤ 9223372036854775807) :
    Calls Tryd.prog 31 #[.string ⟨l.toArray⟩] w fun e w' => e = .returned (.int .u64 (hashI l)) ∧ w = w' := by
  go_enter Tryd.func31, Tryd.ntmps31
  go_wp2
  go_loop [3, 7] (fun h i => ∃ (k : Nat) (x : Int), k ≤ l.length ∧ i = .int .i64 (k : Int) ∧ h = .int .u64 x ∧ x = hashI (l.take k)) (fun _ i => l.length - (intOf i).toNat)
  case atStart => exact ⟨0, 14695981039346656037, by omega, rfl, rfl, rfl⟩
  case round =>
    obtain ⟨k, x, hk, rfl, rfl, hx⟩ := hrel
    by_cases hlt : k < l.length
    · obtain ⟨c, hc⟩ : ∃ c : Int, c = (l[k].toNat : Int) := ⟨_, rfl⟩
      have hc0 : 0 ≤ c := by omega
      have hc1 : c ≤ 255 := by have := l[k].toNat_lt; omega
      have hix := fun W => index_str (P := Tryd.prog) Tryd.underlying9 l k hlt c hc W
      have hn : hstep x c = hashI (l.take (k + 1)) := by rw [List.take_succ_eq_append_getElem hlt, hashI_snoc, ← hx, hc]
      have Hn := Lib.hid hn
      clear hx hc hn
      go_wp2
      go_round
      case rel => exact ⟨k + 1, hstep x c, by omega, by go_num, rfl, Hn.out⟩
      case measure => simp [intOf]; omega
    · have hf : x = hashI l := by rw [hx, List.take_of_length_le (by omega)]
      have Hf := Lib.hid hf
      clear hx hf
      go_wp2
      go_ret
      exact ⟨by rw [Hf.out]; rfl, rfl⟩
end Go.Proofs.YtnnnnlcpmocnfaaDoor
