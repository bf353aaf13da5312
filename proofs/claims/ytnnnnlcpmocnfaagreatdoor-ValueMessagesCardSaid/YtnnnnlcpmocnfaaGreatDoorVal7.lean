/- THE WALKS OVER value.Compare AT ANY TWO VALUES. -/
import Derived.Test.YtnnnnlcpmocnfaaGreatDoorVal6
import Derived.Test.YtnnnnlcpmocnfaaGreatDoorOrdm
import Derived.Laws.Tables
import Derived.Deep.WholeRow
namespace Go.Proofs.YtnnnnlcpmocnfaaGreatDoor
open Go.RowKit
set_option linter.unusedVariables false
set_option linter.unusedSimpArgs false
attribute [local go_sem] run_store_float

abbrev gv (k : Int) (s : ByteArray) (b : Bool) (n : Int) (f : Nat) (p q : Value) : Array Value := #[.int .u8 k, .string s, .bool b, .int .i64 n, .float .f64 f, p, q]
/-- the order of two texts, as -1, 0, 1 -/
def ordS (x y : ByteArray) : Int := if Op.bytesLess x.toList y.toList then -1 else if x.toList == y.toList then 0 else 1
theorem cmpS_any (x y : ByteArray) (w : World) : Calls Tryz.prog 71 #[.string x, .string y] w fun e w' => e = .returned (.int .i64 (ordS x y)) ∧ w = w' := by
  unfold ordS
  cases h : Op.bytesLess x.toList y.toList <;> cases h' : (x.toList == y.toList)
  all_goals
    go_enter Tryz.func71, Tryz.ntmps71
    go_wp2
    go_ret
    exact ⟨rfl, rfl⟩
theorem cmpI_any (x y : Int) (o : Ordering) (ho : compare x y = o) (w : World) : Calls Tryz.prog 75 #[.int .i64 x, .int .i64 y] w fun e w' => e = .returned (.int .i64 (ordI o)) ∧ w = w' := by
  rcases Int.lt_trichotomy x y with h | h | h
  · obtain rfl : o = .lt := ho.symm.trans (F.cmp_lt h)
    go_enter Tryz.func75, Tryz.ntmps75
    go_wp2
    go_ret
    exact ⟨rfl, rfl⟩
  · subst h
    obtain rfl : o = .eq := ho.symm.trans (F.cmp_eq x)
    go_enter Tryz.func75, Tryz.ntmps75
    go_wp2
    go_ret
    exact ⟨rfl, rfl⟩
  · obtain rfl : o = .gt := ho.symm.trans (F.cmp_gt h)
    have h1 : ¬ x < y := by omega
    go_enter Tryz.func75, Tryz.ntmps75
    go_wp2
    go_ret
    exact ⟨rfl, rfl⟩

theorem ordered_any (k : Int) (s : ByteArray) (b : Bool) (n : Int) (f : Nat) (p q : Value) (r : Bool) (w : World)
    (h : (k == 3) = true ∧ r = true ∨ (k == 3) = false ∧ (k == 4) = false ∧ r = false ∨ (k == 3) = false ∧ (k == 4) = true ∧ (FloatKind.f64.format.order f f != some .eq) = !r) :
    Calls Tryz.prog 72 #[.agg (gv k s b n f p q)] w fun e w' => e = .returned (.bool r) ∧ w.alloc (.cells (gv k s b n f p q) 27) = w' := by
  rcases h with ⟨h, rfl⟩ | ⟨h, h', rfl⟩ | ⟨h, h', h''⟩
  · go_enter Tryz.func72, Tryz.ntmps72
    go_wp2
    go_ret
    exact ⟨rfl, rfl⟩
  · go_enter Tryz.func72, Tryz.ntmps72
    go_wp2
    go_ret
    exact ⟨rfl, rfl⟩
  · have hn := fun W => isNaN_any f W (!r) h''
    have Hn := Lib.hid hn
    clear hn h''
    cases r
    all_goals
      go_enter Tryz.func72, Tryz.ntmps72
      go_wp2_with (go_at_call 87; refine (Hn.out _).mono ?_; rintro e w' ⟨rfl, rfl⟩)
      go_ret
      exact ⟨rfl, rfl⟩

/-- what a float reads as -/
abbrev dec (f : Nat) : Ieee.Datum := FloatKind.f64.format.read f
theorem dec_rd (f : Nat) : F.Rd (dec f) := F.read_rd f
theorem fo_val (a b : Nat) (ha : (dec a).isNaN = false) (hb : (dec b).isNaN = false) : FloatKind.f64.format.order a b = some (compare (F.val (dec a)) (F.val (dec b))) := F.order_rd (dec_rd a) (dec_rd b) ha hb
theorem fo_nan (a : Nat) (ha : (dec a).isNaN = true) : FloatKind.f64.format.order a a = none := by
  show (dec a).order (dec a) = none
  cases h : dec a with
  | nan => rfl
  | number => rw [h] at ha; cases ha
  | infinity => rw [h] at ha; cases ha
theorem fo_refl (a : Nat) (ha : (dec a).isNaN = false) : FloatKind.f64.format.order a a = some .eq := by rw [fo_val a a ha ha, F.cmp_eq]
theorem dec_hi : dec 4890909195324358656 = F.hiD := by kernel_rfl
theorem dec_lo : dec 14114281232179134464 = F.loD := by kernel_rfl

/-- an int and a float that is no NaN -/
theorem mixed_any (n : Int) (f : Nat) (o : Ordering) (hn : -9223372036854775808 ≤ n ∧ n ≤ 9223372036854775807) (nn : (dec f).isNaN = false) (ho : compare (n * (F.P : Int)) (F.val (dec f)) = o) (w : World) :
    Calls Tryz.prog 74 #[.int .i64 n, .float .f64 f] w fun e w' => e = .returned (.int .i64 (ordI o)) ∧ w = w' := by
  have hP := F.P_pos
  have h1 : FloatKind.f64.format.order f 4890909195324358656 = some (compare (F.val (dec f)) (F.T63 * (F.P : Int))) := by
    have := fo_val f 4890909195324358656 nn (by rw [dec_hi]; rfl)
    rwa [dec_hi, F.val_hi] at this
  have h2 : FloatKind.f64.format.order f 14114281232179134464 = some (compare (F.val (dec f)) (-F.T63 * (F.P : Int))) := by
    have := fo_val f 14114281232179134464 nn (by rw [dec_lo]; rfl)
    rwa [dec_lo, F.val_lo] at this
  have lt_top : n * (F.P : Int) < F.T63 * (F.P : Int) := Int.mul_lt_mul_of_pos_right (by unfold F.T63; omega) hP
  have bot_le : -F.T63 * (F.P : Int) ≤ n * (F.P : Int) := Int.mul_le_mul_of_nonneg_right (by unfold F.T63; omega) (Int.le_of_lt hP)
  by_cases c1 : F.T63 * (F.P : Int) ≤ F.val (dec f)
  · obtain rfl : o = .lt := ho.symm.trans (F.cmp_lt (by omega))
    have h1' : (FloatKind.f64.format.order f 4890909195324358656 == some .gt || FloatKind.f64.format.order f 4890909195324358656 == some .eq) = true := by
      rw [h1]
      rcases Int.lt_trichotomy (F.val (dec f)) (F.T63 * (F.P : Int)) with h | h | h
      · omega
      · rw [h, F.cmp_eq]; rfl
      · rw [F.cmp_gt h]; rfl
    clear h1 h2 ho lt_top bot_le c1
    go_enter Tryz.func74, Tryz.ntmps74
    go_wp2
    go_ret
    exact ⟨rfl, rfl⟩
  · have h1' : FloatKind.f64.format.order f 4890909195324358656 = some .lt := by rw [h1, F.cmp_lt (by omega)]
    by_cases c2 : F.val (dec f) < -F.T63 * (F.P : Int)
    · obtain rfl : o = .gt := ho.symm.trans (F.cmp_gt (by omega))
      have h2' : FloatKind.f64.format.order f 14114281232179134464 = some .lt := by rw [h2, F.cmp_lt c2]
      clear h1 h2 ho lt_top bot_le c1 c2
      go_enter Tryz.func74, Tryz.ntmps74
      go_wp2
      go_ret
      exact ⟨rfl, rfl⟩
    · have h2' : (FloatKind.f64.format.order f 14114281232179134464 == some .lt) = false := by
        rw [h2]
        rcases Int.lt_trichotomy (F.val (dec f)) (-F.T63 * (F.P : Int)) with h | h | h
        · omega
        · rw [h, F.cmp_eq]; rfl
        · rw [F.cmp_gt h]; rfl
      obtain ⟨s, m, i, hd, hi, hi', wlo, whi⟩ := F.between (dec_rd f) nn (by omega) (by omega)
      have hcv : ∀ W, (convert 23 2 (.float .f64 f)).run Tryz.prog W = .ok (.int .i64 (F.whole (dec f))) W := fun W => by
        have ht : (FloatKind.f64.decode f).toInt .zero = some (F.whole (dec f)) := F.toInt_some s m i hd
        simp [convert, run_underlying Tryz.underlying23, run_underlying Tryz.underlying2, Conv.floatToInt, ht, IntKind.min, IntKind.max, IntKind.signed, IntKind.bits, wlo, whi]
      by_cases e : n = F.whole (dec f)
      · have hback : ∀ W, (convert 2 23 (.int .i64 (F.whole (dec f)))).run Tryz.prog W = .ok (.float .f64 (FloatKind.f64.nearest (F.whole (dec f)))) W := fun W => by
          simp [convert, run_underlying Tryz.underlying23, run_underlying Tryz.underlying2, Conv.intToFloat]
        obtain ⟨x, x1, x2, x3, x4⟩ : ∃ x, dec (FloatKind.f64.nearest (F.whole (dec f))) = x ∧ F.Rd x ∧ x.isNaN = false ∧ F.val x = F.whole (dec f) * (F.P : Int) := by
          have := F.same_whole (hd ▸ dec_rd f) hi
          rw [← hd] at this
          exact this
        have ho' : FloatKind.f64.format.order (FloatKind.f64.nearest (F.whole (dec f))) f = some o := by
          rw [fo_val _ f (by rw [x1]; exact x3) nn, x1, x4, ← e, ho]
        have hs1 := fo_refl (FloatKind.f64.nearest (F.whole (dec f))) (by rw [x1]; exact x3)
        have hs2 := fo_refl f nn
        have hc := fun W => cmpF_any _ f o W hs1 hs2 ho'
        have Hc := Lib.hid hc
        clear hc h1 h2 ho ho' lt_top bot_le c1 c2 hd x1 x2 x3 x4 hs1 hs2
        generalize hg : FloatKind.f64.nearest (F.whole (dec f)) = g at *
        clear hg
        generalize F.whole (dec f) = q at *
        subst e
        have hne : (n == n) = true := beq_self_eq_true n
        go_enter Tryz.func74, Tryz.ntmps74
        go_wp2_with (go_at_call 73; refine (Hc.out _).mono ?_; rintro e w' ⟨rfl, rfl⟩)
        go_ret
        exact ⟨rfl, rfl⟩
      · have ho' : compare n (F.whole (dec f)) = o := by
          rw [hd] at e ho ⊢
          rw [F.cmp_whole hi' n e]
          exact ho
        have hne : (n == F.whole (dec f)) = false := beq_eq_false_iff_ne.2 e
        have hc := fun W => cmpI_any n (F.whole (dec f)) o ho' W
        have Hc := Lib.hid hc
        clear hc h1 h2 ho ho' lt_top bot_le c1 c2 hd
        generalize F.whole (dec f) = q at *
        go_enter Tryz.func74, Tryz.ntmps74
        go_wp2_with (go_at_call 75; refine (Hc.out _).mono ?_; rintro e w' ⟨rfl, rfl⟩)
        go_ret
        exact ⟨rfl, rfl⟩
end Go.Proofs.YtnnnnlcpmocnfaaGreatDoor
