/- THE LAW ValueHeld: the document's mixed, WALKED. -/
import Derived.Test.YtnnnnlcpmocnfaaDoorVal8
import Derived.Test.YtnnnnlcpmocnfaaDoorOrdm2
import Derived.Laws.Tables
import Derived.Deep.WholeRow
import Derived.Outline
import Derived.WalkLawsBesides
import Derived.Deep.QuietTactic
import Derived.BigQuiet
import Derived.Test.YtnnnnlcpmocnfaaDoorVal9
namespace Go.Proofs.YtnnnnlcpmocnfaaDoor
open Go.RowKit
set_option linter.unusedVariables false
set_option linter.unusedSimpArgs false
attribute [local go_sem] run_store_float

theorem Tryd.arch111 (f : Nat) {s : Bool} {m : Nat} {i : Int} (hd : dec f = .number s m i) (w : World) :
    (callFunc 111 #[.float .f64 f]).run Tryd.prog w = .ok (.value (.float .f64 (FloatKind.f64.encode ((Ieee.Datum.number s m i).integral .zero)))) w := by
  have h := run_callFunc_extern (e := Extern.MathFloor.toIntegral "math.archTrunc" .zero) Tryd.func111 (by kernel_rfl) (by kernel_rfl) (by kernel_rfl) (by kernel_rfl) #[.float .f64 f] w
  rw [h]
  have hd' : FloatKind.decode .f64 f = .number s m i := hd
  have key : Extern.MathFloor.toIntegral "math.archTrunc" .zero #[.float .f64 f] = pure (.float .f64 (FloatKind.f64.encode ((Ieee.Datum.number s m i).integral .zero))) := by
    delta Extern.MathFloor.toIntegral
    generalize FloatKind.decode = D at hd' ⊢
    conv => lhs; whnf
    rw [hd']
  rw [key]
  rfl
theorem trunc_any (f g : Nat) {s : Bool} {m : Nat} {i : Int} (hd : dec f = .number s m i) (hg : FloatKind.f64.encode ((Ieee.Datum.number s m i).integral .zero) = g) (w : World) :
    Calls Tryd.prog 82 #[.float .f64 f] w fun e w' => e = .returned (.float .f64 g) ∧ w = w' := by
  have h := fun W => Tryd.arch111 f hd W
  rw [hg] at h
  clear hg hd
  go_enter Tryd.func82, Tryd.ntmps82
  go_wp2
  go_ret
  exact ⟨rfl, rfl⟩

/-- the document's: an int and a float that is no NaN -/
theorem dmixed_any (n : Int) (f : Nat) (o : Ordering) (hn : -9223372036854775808 ≤ n ∧ n ≤ 9223372036854775807) (nn : (dec f).isNaN = false) (ho : compare (n * (F.P : Int)) (F.val (dec f)) = o) (w : World) :
    Calls Tryd.prog 47 #[.int .i64 n, .float .f64 f] w fun e w' => e = .returned (.int .i64 (ordI o)) ∧ w = w' := by
  have hP := F.P_pos
  have h1 : FloatKind.f64.format.order f 4890909195324358656 = some (compare (F.val (dec f)) (F.T63 * (F.P : Int))) := by
    have := fo_val f 4890909195324358656 nn (by rw [dec_hi]; rfl)
    rwa [dec_hi, F.val_hi] at this
  have h2 : FloatKind.f64.format.order f 14114281232179134464 = some (compare (F.val (dec f)) (-F.T63 * (F.P : Int))) := by
    have := fo_val f 14114281232179134464 nn (by rw [dec_lo]; rfl)
    rwa [dec_lo, F.val_lo] at this
  have lt_top : n * (F.P : Int) < F.T63 * (F.P : Int) := Int.mul_lt_mul_of_pos_right (by unfold F.T63; omega) hP
  have bot_le : -F.T63 * (F.P : Int) ≤ n * (F.P : Int) := Int.mul_le_mul_of_nonneg_right (by unfold F.T63; omega) (Int.le_of_lt hP)
  by_cases c1 : F.T63 * (F.P : Int) ≤ F.val (dec f)
  · obtain rfl : o = .lt := ho.symm.trans (F.cmp_lt (by omega))
    have h1' : (FloatKind.f64.format.order f 4890909195324358656 == some .gt || FloatKind.f64.format.order f 4890909195324358656 == some .eq) = true := by
      rw [h1]
      rcases Int.lt_trichotomy (F.val (dec f)) (F.T63 * (F.P : Int)) with h | h | h
      · omega
      · rw [h, F.cmp_eq]; rfl
      · rw [F.cmp_gt h]; rfl
    clear h1 h2 ho lt_top bot_le c1
    go_enter Tryd.func47, Tryd.ntmps47
    go_wp2
    go_ret
    exact ⟨rfl, rfl⟩
  · have h1' : FloatKind.f64.format.order f 4890909195324358656 = some .lt := by rw [h1, F.cmp_lt (by omega)]
    by_cases c2 : F.val (dec f) < -F.T63 * (F.P : Int)
    · obtain rfl : o = .gt := ho.symm.trans (F.cmp_gt (by omega))
      have h2' : FloatKind.f64.format.order f 14114281232179134464 = some .lt := by rw [h2, F.cmp_lt c2]
      clear h1 h2 ho lt_top bot_le c1 c2
      go_enter Tryd.func47, Tryd.ntmps47
      go_wp2
      go_ret
      exact ⟨rfl, rfl⟩
    · have h2' : (FloatKind.f64.format.order f 14114281232179134464 == some .lt) = false := by
        rw [h2]
        rcases Int.lt_trichotomy (F.val (dec f)) (-F.T63 * (F.P : Int)) with h | h | h
        · omega
        · rw [h, F.cmp_eq]; rfl
        · rw [F.cmp_gt h]; rfl
      obtain ⟨s, m, i, hd, hi, hi', wlo, whi⟩ := F.between (dec_rd f) nn (by omega) (by omega)
      obtain ⟨g, hg⟩ : ∃ g, FloatKind.f64.encode ((Ieee.Datum.number s m i).integral .zero) = g := ⟨_, rfl⟩
      have ht := fun W => trunc_any f g hd hg W
      have HTr := Lib.hid ht
      clear ht
      obtain ⟨t, m', i', e1, e2, e3, e4⟩ := F.trunc_back (hd ▸ dec_rd f) hi
      have dg : dec g = .number t m' i' := by rw [← hg]; exact e1
      rw [← hd] at e4
      have hw : F.whole (.number t m' i') = F.whole (dec f) := F.whole_val e3 _ e4
      have hcv : ∀ W, (convert 23 2 (.float .f64 g)).run Tryd.prog W = .ok (.int .i64 (F.whole (dec f))) W := fun W => by
        have ht : (FloatKind.f64.decode g).toInt .zero = some (F.whole (dec f)) := by rw [← hw, ← dg]; exact F.toInt_some t m' i' dg
        simp [convert, run_underlying Tryd.underlying23, run_underlying Tryd.underlying2, Conv.floatToInt, ht, IntKind.min, IntKind.max, IntKind.signed, IntKind.bits, wlo, whi]
      have nng : (dec g).isNaN = false := by rw [dg]; rfl
      have hgf : FloatKind.f64.format.order g f = some (compare (F.whole (dec f) * (F.P : Int)) (F.val (dec f))) := by
        rw [fo_val g f nng nn, dg, e4]
      by_cases e : n = F.whole (dec f)
      · rw [← e, ho] at hgf
        clear h1 h2 ho lt_top bot_le c1 c2 hd e1 e2 e3 e4 dg nng hw hg hn
        generalize F.whole (dec f) = q at *
        subst e
        have hlt : ¬ n < n := by omega
        cases o
        all_goals
          go_enter Tryd.func47, Tryd.ntmps47
          go_wp2_with (go_at_call 82; refine (HTr.out _).mono ?_; rintro e w' ⟨rfl, rfl⟩)
          go_ret
          exact ⟨rfl, rfl⟩
      · have ho' : compare n (F.whole (dec f)) = o := by
          rw [hd] at e ho ⊢
          rw [F.cmp_whole hi' n e]
          exact ho
        clear h1 h2 ho lt_top bot_le c1 c2 hd e1 e2 e3 e4 dg nng hw hg hgf
        generalize F.whole (dec f) = q at *
        rcases Int.lt_trichotomy n q with h | h | h
        · obtain rfl : o = .lt := ho'.symm.trans (F.cmp_lt h)
          go_enter Tryd.func47, Tryd.ntmps47
          go_wp2_with (go_at_call 82; refine (HTr.out _).mono ?_; rintro e w' ⟨rfl, rfl⟩)
          go_ret
          exact ⟨rfl, rfl⟩
        · exact absurd h e
        · obtain rfl : o = .gt := ho'.symm.trans (F.cmp_gt h)
          have hlt : ¬ n < q := by omega
          go_enter Tryd.func47, Tryd.ntmps47
          go_wp2_with (go_at_call 82; refine (HTr.out _).mono ?_; rintro e w' ⟨rfl, rfl⟩)
          go_ret
          exact ⟨rfl, rfl⟩
end Go.Proofs.YtnnnnlcpmocnfaaDoor

/- THE LAW ValueHeld: the document's Compare, of a NaN, WALKED. -/
namespace Go.Proofs.YtnnnnlcpmocnfaaDoor
open Go.RowKit
set_option linter.unusedVariables false
set_option linter.unusedSimpArgs false
attribute [local go_sem] run_store_float
section
variable (ka : Int) (sa : ByteArray) (ba : Bool) (na : Int) (fa : Nat) (pa qa : Value) (kb : Int) (sb : ByteArray) (bb : Bool) (nb : Int) (fb : Nat) (pb qb : Value) (w : World)
set_option maxRecDepth 100000 in
set_option maxHeartbeats 1000000 in
theorem d_N1 (han : (FloatKind.f64.format.order fa fa != some .eq) = true)  :
    Calls Tryd.prog 14 #[.agg (gv 4 sa ba na fa pa qa), .agg (gv 1 sb bb nb fb pb qb)] w fun e w' => e = .returned (.tuple #[.int .i64 (0), .bool false]) ∧ Below w.heap.size w w' := by
  go_enter Tryd.func14, Tryd.ntmps14
  go_wp2
  go_ret2
  refine ⟨rfl, ?_⟩
  first | go_grown | exact Below.trans (b := (w.alloc (.cells (gv 4 sa ba na fa pa qa) 27)).alloc (.cells (gv 1 sb bb nb fb pb qb) 27)) (by go_grown) ⟨rfl, rfl, rfl, Nat.le_refl _, fun _ _ => rfl⟩
set_option maxRecDepth 100000 in
set_option maxHeartbeats 1000000 in
theorem d_N3 (han : (FloatKind.f64.format.order fa fa != some .eq) = true)  :
    Calls Tryd.prog 14 #[.agg (gv 4 sa ba na fa pa qa), .agg (gv 3 sb bb nb fb pb qb)] w fun e w' => e = .returned (.tuple #[.int .i64 (0), .bool false]) ∧ Below w.heap.size w w' := by
  go_enter Tryd.func14, Tryd.ntmps14
  go_wp2
  go_ret2
  refine ⟨rfl, ?_⟩
  first | go_grown | exact Below.trans (b := (w.alloc (.cells (gv 4 sa ba na fa pa qa) 27)).alloc (.cells (gv 3 sb bb nb fb pb qb) 27)) (by go_grown) ⟨rfl, rfl, rfl, Nat.le_refl _, fun _ _ => rfl⟩
set_option maxRecDepth 100000 in
set_option maxHeartbeats 1000000 in
theorem d_NF (han : (FloatKind.f64.format.order fa fa != some .eq) = true) (hbn : (FloatKind.f64.format.order fb fb != some .eq) = false)  :
    Calls Tryd.prog 14 #[.agg (gv 4 sa ba na fa pa qa), .agg (gv 4 sb bb nb fb pb qb)] w fun e w' => e = .returned (.tuple #[.int .i64 (0), .bool false]) ∧ Below w.heap.size w w' := by
  go_enter Tryd.func14, Tryd.ntmps14
  go_wp2
  go_ret2
  refine ⟨rfl, ?_⟩
  first | go_grown | exact Below.trans (b := (w.alloc (.cells (gv 4 sa ba na fa pa qa) 27)).alloc (.cells (gv 4 sb bb nb fb pb qb) 27)) (by go_grown) ⟨rfl, rfl, rfl, Nat.le_refl _, fun _ _ => rfl⟩
set_option maxRecDepth 100000 in
set_option maxHeartbeats 1000000 in
theorem d_NN (han : (FloatKind.f64.format.order fa fa != some .eq) = true) (hbn : (FloatKind.f64.format.order fb fb != some .eq) = true)  :
    Calls Tryd.prog 14 #[.agg (gv 4 sa ba na fa pa qa), .agg (gv 4 sb bb nb fb pb qb)] w fun e w' => e = .returned (.tuple #[.int .i64 (0), .bool false]) ∧ Below w.heap.size w w' := by
  go_enter Tryd.func14, Tryd.ntmps14
  go_wp2
  go_ret2
  refine ⟨rfl, ?_⟩
  first | go_grown | exact Below.trans (b := (w.alloc (.cells (gv 4 sa ba na fa pa qa) 27)).alloc (.cells (gv 4 sb bb nb fb pb qb) 27)) (by go_grown) ⟨rfl, rfl, rfl, Nat.le_refl _, fun _ _ => rfl⟩
set_option maxRecDepth 100000 in
set_option maxHeartbeats 1000000 in
theorem d_NO (han : (FloatKind.f64.format.order fa fa != some .eq) = true) (hb1 : (kb == 1) = false) (hb3 : (kb == 3) = false) (hb4 : (kb == 4) = false)  :
    Calls Tryd.prog 14 #[.agg (gv 4 sa ba na fa pa qa), .agg (gv kb sb bb nb fb pb qb)] w fun e w' => e = .returned (.tuple #[.int .i64 (0), .bool false]) ∧ Below w.heap.size w w' := by
  go_enter Tryd.func14, Tryd.ntmps14
  go_wp2
  go_ret2
  refine ⟨rfl, ?_⟩
  first | go_grown | exact Below.trans (b := (w.alloc (.cells (gv 4 sa ba na fa pa qa) 27)).alloc (.cells (gv kb sb bb nb fb pb qb) 27)) (by go_grown) ⟨rfl, rfl, rfl, Nat.le_refl _, fun _ _ => rfl⟩
set_option maxRecDepth 100000 in
set_option maxHeartbeats 1000000 in
theorem d_1N (hbn : (FloatKind.f64.format.order fb fb != some .eq) = true)  :
    Calls Tryd.prog 14 #[.agg (gv 1 sa ba na fa pa qa), .agg (gv 4 sb bb nb fb pb qb)] w fun e w' => e = .returned (.tuple #[.int .i64 (0), .bool false]) ∧ Below w.heap.size w w' := by
  go_enter Tryd.func14, Tryd.ntmps14
  go_wp2
  go_ret2
  refine ⟨rfl, ?_⟩
  first | go_grown | exact Below.trans (b := (w.alloc (.cells (gv 1 sa ba na fa pa qa) 27)).alloc (.cells (gv 4 sb bb nb fb pb qb) 27)) (by go_grown) ⟨rfl, rfl, rfl, Nat.le_refl _, fun _ _ => rfl⟩
set_option maxRecDepth 100000 in
set_option maxHeartbeats 1000000 in
theorem d_3N (hbn : (FloatKind.f64.format.order fb fb != some .eq) = true)  :
    Calls Tryd.prog 14 #[.agg (gv 3 sa ba na fa pa qa), .agg (gv 4 sb bb nb fb pb qb)] w fun e w' => e = .returned (.tuple #[.int .i64 (0), .bool false]) ∧ Below w.heap.size w w' := by
  go_enter Tryd.func14, Tryd.ntmps14
  go_wp2
  go_ret2
  refine ⟨rfl, ?_⟩
  first | go_grown | exact Below.trans (b := (w.alloc (.cells (gv 3 sa ba na fa pa qa) 27)).alloc (.cells (gv 4 sb bb nb fb pb qb) 27)) (by go_grown) ⟨rfl, rfl, rfl, Nat.le_refl _, fun _ _ => rfl⟩
set_option maxRecDepth 100000 in
set_option maxHeartbeats 1000000 in
theorem d_FN (han : (FloatKind.f64.format.order fa fa != some .eq) = false) (hbn : (FloatKind.f64.format.order fb fb != some .eq) = true)  :
    Calls Tryd.prog 14 #[.agg (gv 4 sa ba na fa pa qa), .agg (gv 4 sb bb nb fb pb qb)] w fun e w' => e = .returned (.tuple #[.int .i64 (0), .bool false]) ∧ Below w.heap.size w w' := by
  go_enter Tryd.func14, Tryd.ntmps14
  go_wp2
  go_ret2
  refine ⟨rfl, ?_⟩
  first | go_grown | exact Below.trans (b := (w.alloc (.cells (gv 4 sa ba na fa pa qa) 27)).alloc (.cells (gv 4 sb bb nb fb pb qb) 27)) (by go_grown) ⟨rfl, rfl, rfl, Nat.le_refl _, fun _ _ => rfl⟩
set_option maxRecDepth 100000 in
set_option maxHeartbeats 1000000 in
theorem d_ON (ha1 : (ka == 1) = false) (ha3 : (ka == 3) = false) (ha4 : (ka == 4) = false) (hbn : (FloatKind.f64.format.order fb fb != some .eq) = true)  :
    Calls Tryd.prog 14 #[.agg (gv ka sa ba na fa pa qa), .agg (gv 4 sb bb nb fb pb qb)] w fun e w' => e = .returned (.tuple #[.int .i64 (0), .bool false]) ∧ Below w.heap.size w w' := by
  go_enter Tryd.func14, Tryd.ntmps14
  go_wp2
  go_ret2
  refine ⟨rfl, ?_⟩
  first | go_grown | exact Below.trans (b := (w.alloc (.cells (gv ka sa ba na fa pa qa) 27)).alloc (.cells (gv 4 sb bb nb fb pb qb) 27)) (by go_grown) ⟨rfl, rfl, rfl, Nat.le_refl _, fun _ _ => rfl⟩
end
end Go.Proofs.YtnnnnlcpmocnfaaDoor

/- THE LAW ValueHeld: the document's Compare, of what has no order, WALKED. -/
namespace Go.Proofs.YtnnnnlcpmocnfaaDoor
open Go.RowKit
set_option linter.unusedVariables false
set_option linter.unusedSimpArgs false
attribute [local go_sem] run_store_float
section
variable (ka : Int) (sa : ByteArray) (ba : Bool) (na : Int) (fa : Nat) (pa qa : Value) (kb : Int) (sb : ByteArray) (bb : Bool) (nb : Int) (fb : Nat) (pb qb : Value) (w : World)
set_option maxRecDepth 100000 in
set_option maxHeartbeats 1000000 in
theorem d_13   :
    Calls Tryd.prog 14 #[.agg (gv 1 sa ba na fa pa qa), .agg (gv 3 sb bb nb fb pb qb)] w fun e w' => e = .returned (.tuple #[.int .i64 (0), .bool false]) ∧ Below w.heap.size w w' := by
  go_enter Tryd.func14, Tryd.ntmps14
  go_wp2
  go_ret2
  refine ⟨rfl, ?_⟩
  first | go_grown | exact Below.trans (b := (w.alloc (.cells (gv 1 sa ba na fa pa qa) 27)).alloc (.cells (gv 3 sb bb nb fb pb qb) 27)) (by go_grown) ⟨rfl, rfl, rfl, Nat.le_refl _, fun _ _ => rfl⟩
set_option maxRecDepth 100000 in
set_option maxHeartbeats 1000000 in
theorem d_1F (hbn : (FloatKind.f64.format.order fb fb != some .eq) = false)  :
    Calls Tryd.prog 14 #[.agg (gv 1 sa ba na fa pa qa), .agg (gv 4 sb bb nb fb pb qb)] w fun e w' => e = .returned (.tuple #[.int .i64 (0), .bool false]) ∧ Below w.heap.size w w' := by
  go_enter Tryd.func14, Tryd.ntmps14
  go_wp2
  go_ret2
  refine ⟨rfl, ?_⟩
  first | go_grown | exact Below.trans (b := (w.alloc (.cells (gv 1 sa ba na fa pa qa) 27)).alloc (.cells (gv 4 sb bb nb fb pb qb) 27)) (by go_grown) ⟨rfl, rfl, rfl, Nat.le_refl _, fun _ _ => rfl⟩
set_option maxRecDepth 100000 in
set_option maxHeartbeats 1000000 in
theorem d_1O (hb1 : (kb == 1) = false) (hb3 : (kb == 3) = false) (hb4 : (kb == 4) = false)  :
    Calls Tryd.prog 14 #[.agg (gv 1 sa ba na fa pa qa), .agg (gv kb sb bb nb fb pb qb)] w fun e w' => e = .returned (.tuple #[.int .i64 (0), .bool false]) ∧ Below w.heap.size w w' := by
  go_enter Tryd.func14, Tryd.ntmps14
  go_wp2
  go_ret2
  refine ⟨rfl, ?_⟩
  first | go_grown | exact Below.trans (b := (w.alloc (.cells (gv 1 sa ba na fa pa qa) 27)).alloc (.cells (gv kb sb bb nb fb pb qb) 27)) (by go_grown) ⟨rfl, rfl, rfl, Nat.le_refl _, fun _ _ => rfl⟩
set_option maxRecDepth 100000 in
set_option maxHeartbeats 1000000 in
theorem d_31   :
    Calls Tryd.prog 14 #[.agg (gv 3 sa ba na fa pa qa), .agg (gv 1 sb bb nb fb pb qb)] w fun e w' => e = .returned (.tuple #[.int .i64 (0), .bool false]) ∧ Below w.heap.size w w' := by
  go_enter Tryd.func14, Tryd.ntmps14
  go_wp2
  go_ret2
  refine ⟨rfl, ?_⟩
  first | go_grown | exact Below.trans (b := (w.alloc (.cells (gv 3 sa ba na fa pa qa) 27)).alloc (.cells (gv 1 sb bb nb fb pb qb) 27)) (by go_grown) ⟨rfl, rfl, rfl, Nat.le_refl _, fun _ _ => rfl⟩
set_option maxRecDepth 100000 in
set_option maxHeartbeats 1000000 in
theorem d_3O (hb1 : (kb == 1) = false) (hb3 : (kb == 3) = false) (hb4 : (kb == 4) = false)  :
    Calls Tryd.prog 14 #[.agg (gv 3 sa ba na fa pa qa), .agg (gv kb sb bb nb fb pb qb)] w fun e w' => e = .returned (.tuple #[.int .i64 (0), .bool false]) ∧ Below w.heap.size w w' := by
  go_enter Tryd.func14, Tryd.ntmps14
  go_wp2
  go_ret2
  refine ⟨rfl, ?_⟩
  first | go_grown | exact Below.trans (b := (w.alloc (.cells (gv 3 sa ba na fa pa qa) 27)).alloc (.cells (gv kb sb bb nb fb pb qb) 27)) (by go_grown) ⟨rfl, rfl, rfl, Nat.le_refl _, fun _ _ => rfl⟩
set_option maxRecDepth 100000 in
set_option maxHeartbeats 1000000 in
theorem d_F1 (han : (FloatKind.f64.format.order fa fa != some .eq) = false)  :
    Calls Tryd.prog 14 #[.agg (gv 4 sa ba na fa pa qa), .agg (gv 1 sb bb nb fb pb qb)] w fun e w' => e = .returned (.tuple #[.int .i64 (0), .bool false]) ∧ Below w.heap.size w w' := by
  go_enter Tryd.func14, Tryd.ntmps14
  go_wp2
  go_ret2
  refine ⟨rfl, ?_⟩
  first | go_grown | exact Below.trans (b := (w.alloc (.cells (gv 4 sa ba na fa pa qa) 27)).alloc (.cells (gv 1 sb bb nb fb pb qb) 27)) (by go_grown) ⟨rfl, rfl, rfl, Nat.le_refl _, fun _ _ => rfl⟩
set_option maxRecDepth 100000 in
set_option maxHeartbeats 1000000 in
theorem d_FO (han : (FloatKind.f64.format.order fa fa != some .eq) = false) (hb1 : (kb == 1) = false) (hb3 : (kb == 3) = false) (hb4 : (kb == 4) = false)  :
    Calls Tryd.prog 14 #[.agg (gv 4 sa ba na fa pa qa), .agg (gv kb sb bb nb fb pb qb)] w fun e w' => e = .returned (.tuple #[.int .i64 (0), .bool false]) ∧ Below w.heap.size w w' := by
  go_enter Tryd.func14, Tryd.ntmps14
  go_wp2
  go_ret2
  refine ⟨rfl, ?_⟩
  first | go_grown | exact Below.trans (b := (w.alloc (.cells (gv 4 sa ba na fa pa qa) 27)).alloc (.cells (gv kb sb bb nb fb pb qb) 27)) (by go_grown) ⟨rfl, rfl, rfl, Nat.le_refl _, fun _ _ => rfl⟩
set_option maxRecDepth 100000 in
set_option maxHeartbeats 1000000 in
theorem d_O1 (ha1 : (ka == 1) = false) (ha3 : (ka == 3) = false) (ha4 : (ka == 4) = false)  :
    Calls Tryd.prog 14 #[.agg (gv ka sa ba na fa pa qa), .agg (gv 1 sb bb nb fb pb qb)] w fun e w' => e = .returned (.tuple #[.int .i64 (0), .bool false]) ∧ Below w.heap.size w w' := by
  go_enter Tryd.func14, Tryd.ntmps14
  go_wp2
  go_ret2
  refine ⟨rfl, ?_⟩
  first | go_grown | exact Below.trans (b := (w.alloc (.cells (gv ka sa ba na fa pa qa) 27)).alloc (.cells (gv 1 sb bb nb fb pb qb) 27)) (by go_grown) ⟨rfl, rfl, rfl, Nat.le_refl _, fun _ _ => rfl⟩
set_option maxRecDepth 100000 in
set_option maxHeartbeats 1000000 in
theorem d_O3 (ha1 : (ka == 1) = false) (ha3 : (ka == 3) = false) (ha4 : (ka == 4) = false)  :
    Calls Tryd.prog 14 #[.agg (gv ka sa ba na fa pa qa), .agg (gv 3 sb bb nb fb pb qb)] w fun e w' => e = .returned (.tuple #[.int .i64 (0), .bool false]) ∧ Below w.heap.size w w' := by
  go_enter Tryd.func14, Tryd.ntmps14
  go_wp2
  go_ret2
  refine ⟨rfl, ?_⟩
  first | go_grown | exact Below.trans (b := (w.alloc (.cells (gv ka sa ba na fa pa qa) 27)).alloc (.cells (gv 3 sb bb nb fb pb qb) 27)) (by go_grown) ⟨rfl, rfl, rfl, Nat.le_refl _, fun _ _ => rfl⟩
set_option maxRecDepth 100000 in
set_option maxHeartbeats 1000000 in
theorem d_OF (ha1 : (ka == 1) = false) (ha3 : (ka == 3) = false) (ha4 : (ka == 4) = false) (hbn : (FloatKind.f64.format.order fb fb != some .eq) = false)  :
    Calls Tryd.prog 14 #[.agg (gv ka sa ba na fa pa qa), .agg (gv 4 sb bb nb fb pb qb)] w fun e w' => e = .returned (.tuple #[.int .i64 (0), .bool false]) ∧ Below w.heap.size w w' := by
  go_enter Tryd.func14, Tryd.ntmps14
  go_wp2
  go_ret2
  refine ⟨rfl, ?_⟩
  first | go_grown | exact Below.trans (b := (w.alloc (.cells (gv ka sa ba na fa pa qa) 27)).alloc (.cells (gv 4 sb bb nb fb pb qb) 27)) (by go_grown) ⟨rfl, rfl, rfl, Nat.le_refl _, fun _ _ => rfl⟩
set_option maxRecDepth 100000 in
set_option maxHeartbeats 1000000 in
theorem d_OO (ha1 : (ka == 1) = false) (ha3 : (ka == 3) = false) (ha4 : (ka == 4) = false) (hb1 : (kb == 1) = false) (hb3 : (kb == 3) = false) (hb4 : (kb == 4) = false)  :
    Calls Tryd.prog 14 #[.agg (gv ka sa ba na fa pa qa), .agg (gv kb sb bb nb fb pb qb)] w fun e w' => e = .returned (.tuple #[.int .i64 (0), .bool false]) ∧ Below w.heap.size w w' := by
  go_enter Tryd.func14, Tryd.ntmps14
  go_wp2
  go_ret2
  refine ⟨rfl, ?_⟩
  first | go_grown | exact Below.trans (b := (w.alloc (.cells (gv ka sa ba na fa pa qa) 27)).alloc (.cells (gv kb sb bb nb fb pb qb) 27)) (by go_grown) ⟨rfl, rfl, rfl, Nat.le_refl _, fun _ _ => rfl⟩
end
end Go.Proofs.YtnnnnlcpmocnfaaDoor

/- THE LAW ValueHeld: the document's Compare, of two of one kind, WALKED. -/
namespace Go.Proofs.YtnnnnlcpmocnfaaDoor
open Go.RowKit
set_option linter.unusedVariables false
set_option linter.unusedSimpArgs false
attribute [local go_sem] run_store_float
section
variable (ka : Int) (sa : ByteArray) (ba : Bool) (na : Int) (fa : Nat) (pa qa : Value) (kb : Int) (sb : ByteArray) (bb : Bool) (nb : Int) (fb : Nat) (pb qb : Value) (w : World)
set_option maxRecDepth 100000 in
set_option maxHeartbeats 1000000 in
theorem d_t1  (h1 : Op.bytesLess sa.toList sb.toList = true) (h2 : (sa.toList == sb.toList) = false) :
    Calls Tryd.prog 14 #[.agg (gv 1 sa ba na fa pa qa), .agg (gv 1 sb bb nb fb pb qb)] w fun e w' => e = .returned (.tuple #[.int .i64 (-1), .bool true]) ∧ Below w.heap.size w w' := by
  go_enter Tryd.func14, Tryd.ntmps14
  go_wp2
  go_quiet (fail)
  go_wp2
  go_ret2
  refine ⟨rfl, ?_⟩
  exact Below.trans (b := (w.alloc (.cells (gv 1 sa ba na fa pa qa) 27)).alloc (.cells (gv 1 sb bb nb fb pb qb) 27)) (by go_grown) ⟨rfl, rfl, rfl, Nat.le_refl _, fun _ _ => rfl⟩
set_option maxRecDepth 100000 in
set_option maxHeartbeats 1000000 in
theorem d_t2  (h1 : Op.bytesLess sa.toList sb.toList = false) (h2 : (sa.toList == sb.toList) = false) :
    Calls Tryd.prog 14 #[.agg (gv 1 sa ba na fa pa qa), .agg (gv 1 sb bb nb fb pb qb)] w fun e w' => e = .returned (.tuple #[.int .i64 (1), .bool true]) ∧ Below w.heap.size w w' := by
  go_enter Tryd.func14, Tryd.ntmps14
  go_wp2
  go_quiet (fail)
  go_wp2
  go_ret2
  refine ⟨rfl, ?_⟩
  exact Below.trans (b := (w.alloc (.cells (gv 1 sa ba na fa pa qa) 27)).alloc (.cells (gv 1 sb bb nb fb pb qb) 27)) (by go_grown) ⟨rfl, rfl, rfl, Nat.le_refl _, fun _ _ => rfl⟩
set_option maxRecDepth 100000 in
set_option maxHeartbeats 1000000 in
theorem d_t3  (h1 : Op.bytesLess sa.toList sb.toList = false) (h2 : (sa.toList == sb.toList) = true) :
    Calls Tryd.prog 14 #[.agg (gv 1 sa ba na fa pa qa), .agg (gv 1 sb bb nb fb pb qb)] w fun e w' => e = .returned (.tuple #[.int .i64 (0), .bool true]) ∧ Below w.heap.size w w' := by
  go_enter Tryd.func14, Tryd.ntmps14
  go_wp2
  go_quiet (fail)
  go_wp2
  go_ret2
  refine ⟨rfl, ?_⟩
  exact Below.trans (b := (w.alloc (.cells (gv 1 sa ba na fa pa qa) 27)).alloc (.cells (gv 1 sb bb nb fb pb qb) 27)) (by go_grown) ⟨rfl, rfl, rfl, Nat.le_refl _, fun _ _ => rfl⟩
set_option maxRecDepth 100000 in
set_option maxHeartbeats 1000000 in
theorem d_i1  (h1 : na < nb) (h2 : ¬ nb < na) :
    Calls Tryd.prog 14 #[.agg (gv 3 sa ba na fa pa qa), .agg (gv 3 sb bb nb fb pb qb)] w fun e w' => e = .returned (.tuple #[.int .i64 (-1), .bool true]) ∧ Below w.heap.size w w' := by
  go_enter Tryd.func14, Tryd.ntmps14
  go_wp2
  go_quiet (fail)
  go_wp2
  go_ret2
  refine ⟨rfl, ?_⟩
  exact Below.trans (b := (w.alloc (.cells (gv 3 sa ba na fa pa qa) 27)).alloc (.cells (gv 3 sb bb nb fb pb qb) 27)) (by go_grown) ⟨rfl, rfl, rfl, Nat.le_refl _, fun _ _ => rfl⟩
set_option maxRecDepth 100000 in
set_option maxHeartbeats 1000000 in
theorem d_i2  (h1 : ¬ na < nb) (h2 : nb < na) :
    Calls Tryd.prog 14 #[.agg (gv 3 sa ba na fa pa qa), .agg (gv 3 sb bb nb fb pb qb)] w fun e w' => e = .returned (.tuple #[.int .i64 (1), .bool true]) ∧ Below w.heap.size w w' := by
  go_enter Tryd.func14, Tryd.ntmps14
  go_wp2
  go_quiet (fail)
  go_wp2
  go_ret2
  refine ⟨rfl, ?_⟩
  exact Below.trans (b := (w.alloc (.cells (gv 3 sa ba na fa pa qa) 27)).alloc (.cells (gv 3 sb bb nb fb pb qb) 27)) (by go_grown) ⟨rfl, rfl, rfl, Nat.le_refl _, fun _ _ => rfl⟩
set_option maxRecDepth 100000 in
set_option maxHeartbeats 1000000 in
theorem d_i3  (h1 : ¬ na < nb) (h2 : ¬ nb < na) :
    Calls Tryd.prog 14 #[.agg (gv 3 sa ba na fa pa qa), .agg (gv 3 sb bb nb fb pb qb)] w fun e w' => e = .returned (.tuple #[.int .i64 (0), .bool true]) ∧ Below w.heap.size w w' := by
  go_enter Tryd.func14, Tryd.ntmps14
  go_wp2
  go_quiet (fail)
  go_wp2
  go_ret2
  refine ⟨rfl, ?_⟩
  exact Below.trans (b := (w.alloc (.cells (gv 3 sa ba na fa pa qa) 27)).alloc (.cells (gv 3 sb bb nb fb pb qb) 27)) (by go_grown) ⟨rfl, rfl, rfl, Nat.le_refl _, fun _ _ => rfl⟩
set_option maxRecDepth 100000 in
set_option maxHeartbeats 1000000 in
theorem d_f1 (han : (FloatKind.f64.format.order fa fa != some .eq) = false) (hbn : (FloatKind.f64.format.order fb fb != some .eq) = false) (h1 : FloatKind.f64.format.order fa fb = some .lt) :
    Calls Tryd.prog 14 #[.agg (gv 4 sa ba na fa pa qa), .agg (gv 4 sb bb nb fb pb qb)] w fun e w' => e = .returned (.tuple #[.int .i64 (-1), .bool true]) ∧ Below w.heap.size w w' := by
  go_enter Tryd.func14, Tryd.ntmps14
  go_wp2
  go_quiet (fail)
  go_wp2
  go_ret2
  refine ⟨rfl, ?_⟩
  exact Below.trans (b := (w.alloc (.cells (gv 4 sa ba na fa pa qa) 27)).alloc (.cells (gv 4 sb bb nb fb pb qb) 27)) (by go_grown) ⟨rfl, rfl, rfl, Nat.le_refl _, fun _ _ => rfl⟩
set_option maxRecDepth 100000 in
set_option maxHeartbeats 1000000 in
theorem d_f2 (han : (FloatKind.f64.format.order fa fa != some .eq) = false) (hbn : (FloatKind.f64.format.order fb fb != some .eq) = false) (h1 : FloatKind.f64.format.order fa fb = some .gt) :
    Calls Tryd.prog 14 #[.agg (gv 4 sa ba na fa pa qa), .agg (gv 4 sb bb nb fb pb qb)] w fun e w' => e = .returned (.tuple #[.int .i64 (1), .bool true]) ∧ Below w.heap.size w w' := by
  go_enter Tryd.func14, Tryd.ntmps14
  go_wp2
  go_quiet (fail)
  go_wp2
  go_ret2
  refine ⟨rfl, ?_⟩
  exact Below.trans (b := (w.alloc (.cells (gv 4 sa ba na fa pa qa) 27)).alloc (.cells (gv 4 sb bb nb fb pb qb) 27)) (by go_grown) ⟨rfl, rfl, rfl, Nat.le_refl _, fun _ _ => rfl⟩
set_option maxRecDepth 100000 in
set_option maxHeartbeats 1000000 in
theorem d_f3 (han : (FloatKind.f64.format.order fa fa != some .eq) = false) (hbn : (FloatKind.f64.format.order fb fb != some .eq) = false) (h1 : FloatKind.f64.format.order fa fb = some .eq) :
    Calls Tryd.prog 14 #[.agg (gv 4 sa ba na fa pa qa), .agg (gv 4 sb bb nb fb pb qb)] w fun e w' => e = .returned (.tuple #[.int .i64 (0), .bool true]) ∧ Below w.heap.size w w' := by
  go_enter Tryd.func14, Tryd.ntmps14
  go_wp2
  go_quiet (fail)
  go_wp2
  go_ret2
  refine ⟨rfl, ?_⟩
  exact Below.trans (b := (w.alloc (.cells (gv 4 sa ba na fa pa qa) 27)).alloc (.cells (gv 4 sb bb nb fb pb qb) 27)) (by go_grown) ⟨rfl, rfl, rfl, Nat.le_refl _, fun _ _ => rfl⟩
end
end Go.Proofs.YtnnnnlcpmocnfaaDoor

/- THE LAW ValueHeld: the document's Compare, of an int and a float, WALKED. -/
namespace Go.Proofs.YtnnnnlcpmocnfaaDoor
open Go.RowKit
set_option linter.unusedVariables false
set_option linter.unusedSimpArgs false
attribute [local go_sem] run_store_float
section
variable (ka : Int) (sa : ByteArray) (ba : Bool) (na : Int) (fa : Nat) (pa qa : Value) (kb : Int) (sb : ByteArray) (bb : Bool) (nb : Int) (fb : Nat) (pb qb : Value) (w : World)
set_option maxRecDepth 100000 in
set_option maxHeartbeats 1000000 in
theorem d_3F (hbn : (FloatKind.f64.format.order fb fb != some .eq) = false) (o : Ordering) (h3 : ∀ W, Calls Tryd.prog 47 #[.int .i64 na, .float .f64 fb] W fun e w' => e = .returned (.int .i64 (ordI o)) ∧ W = w') :
    Calls Tryd.prog 14 #[.agg (gv 3 sa ba na fa pa qa), .agg (gv 4 sb bb nb fb pb qb)] w fun e w' => e = .returned (.tuple #[.int .i64 (ordI o), .bool true]) ∧ Below w.heap.size w w' := by
  have H3 := Lib.hid h3
  clear h3
  go_enter Tryd.func14, Tryd.ntmps14
  go_wp2_with fail
  refine (H3.out _).mono ?_
  rintro e w' ⟨rfl, rfl⟩
  go_wp2
  go_ret2
  refine ⟨rfl, ?_⟩
  first | go_grown | exact Below.trans (b := (w.alloc (.cells (gv 3 sa ba na fa pa qa) 27)).alloc (.cells (gv 4 sb bb nb fb pb qb) 27)) (by go_grown) ⟨rfl, rfl, rfl, Nat.le_refl _, fun _ _ => rfl⟩
set_option maxRecDepth 100000 in
set_option maxHeartbeats 1000000 in
theorem d_F3 (han : (FloatKind.f64.format.order fa fa != some .eq) = false) (o : Ordering) (h3 : ∀ W, Calls Tryd.prog 47 #[.int .i64 nb, .float .f64 fa] W fun e w' => e = .returned (.int .i64 (ordI o)) ∧ W = w') :
    Calls Tryd.prog 14 #[.agg (gv 4 sa ba na fa pa qa), .agg (gv 3 sb bb nb fb pb qb)] w fun e w' => e = .returned (.tuple #[.int .i64 (ordI o.swap), .bool true]) ∧ Below w.heap.size w w' := by
  have H3 := Lib.hid h3
  clear h3
  go_enter Tryd.func14, Tryd.ntmps14
  go_wp2_with fail
  refine (H3.out _).mono ?_
  rintro e w' ⟨rfl, rfl⟩
  go_wp2
  go_ret2
  refine ⟨congrArg (fun z => Ending.returned (Value.tuple #[Value.int .i64 z, Value.bool true])) (wsw o), ?_⟩
  first | go_grown | exact Below.trans (b := (w.alloc (.cells (gv 4 sa ba na fa pa qa) 27)).alloc (.cells (gv 3 sb bb nb fb pb qb) 27)) (by go_grown) ⟨rfl, rfl, rfl, Nat.le_refl _, fun _ _ => rfl⟩
end
end Go.Proofs.YtnnnnlcpmocnfaaDoor

/- THE LAW ValueHeld: the document's Compare, at any two values, WALKED. -/
namespace Go.Proofs.YtnnnnlcpmocnfaaDoor
open Go.RowKit
set_option linter.unusedVariables false
set_option linter.unusedSimpArgs false
attribute [local go_sem] run_store_float

theorem cls (k : Int) (f : Nat) : k = 1 ∨ k = 3 ∨ (k = 4 ∧ (FloatKind.f64.format.order f f != some .eq) = true ∧ num k 0 f = none ∧ (dec f).isNaN = true) ∨ (k = 4 ∧ (FloatKind.f64.format.order f f != some .eq) = false ∧ (dec f).isNaN = false) ∨ ((k == 1) = false ∧ (k == 3) = false ∧ (k == 4) = false) := by
  by_cases h1 : k = 1
  · exact .inl h1
  by_cases h3 : k = 3
  · exact .inr (.inl h3)
  by_cases h4 : k = 4
  · cases hn : (dec f).isNaN
    · exact .inr (.inr (.inr (.inl ⟨h4, by rw [fo_refl f hn]; rfl, rfl⟩)))
    · exact .inr (.inr (.inl ⟨h4, by rw [fo_nan f hn]; rfl, by rw [h4]; unfold num; simp [hn], rfl⟩))
  · exact .inr (.inr (.inr (.inr ⟨beq_eq_false_iff_ne.2 h1, beq_eq_false_iff_ne.2 h3, beq_eq_false_iff_ne.2 h4⟩)))
theorem num1 (n : Int) (f : Nat) : num 1 n f = none := rfl
theorem num3 (n : Int) (f : Nat) : num 3 n f = some (n * (F.P : Int)) := rfl
theorem numN (n : Int) (f : Nat) (h : (dec f).isNaN = true) : num 4 n f = none := by unfold num; simp [h]
theorem numF (n : Int) (f : Nat) (h : (dec f).isNaN = false) : num 4 n f = some (F.val (dec f)) := by unfold num; simp [h]
theorem numO (k n : Int) (f : Nat) (h3 : (k == 3) = false) (h4 : (k == 4) = false) : num k n f = none := by unfold num; simp only [h3, h4]; rfl
theorem cmpV_n {ka kb : Int} {sa sb : ByteArray} {na nb : Int} {fa fb : Nat} (h : (ka == 1 && kb == 1) = false) (h2 : num ka na fa = none ∨ num kb nb fb = none) : cmpV ka sa na fa kb sb nb fb = (0, false) := by
  unfold cmpV
  rw [h, if_neg (by simp)]
  rcases h2 with h2 | h2
  · rw [h2]; rfl
  · rw [h2]; cases num ka na fa <;> rfl
theorem cmpV_s {ka kb : Int} {sa sb : ByteArray} {na nb : Int} {fa fb : Nat} {x y : Int} (h : (ka == 1 && kb == 1) = false) (h1 : num ka na fa = some x) (h2 : num kb nb fb = some y) : cmpV ka sa na fa kb sb nb fb = (ordI (compare x y), true) := by
  unfold cmpV
  rw [h, if_neg (by simp), h1, h2]
  rfl
theorem and1 {x y : Bool} (h : x = false) : (x && y) = false := by rw [h]; rfl
theorem and2 {x y : Bool} (h : y = false) : (x && y) = false := by rw [h]; cases x <;> rfl

theorem dcompare_any (ka : Int) (sa : ByteArray) (ba : Bool) (na : Int) (fa : Nat) (pa qa : Value) (kb : Int) (sb : ByteArray) (bb : Bool) (nb : Int) (fb : Nat) (pb qb : Value)
    (hna : -9223372036854775808 ≤ na ∧ na ≤ 9223372036854775807) (hnb : -9223372036854775808 ≤ nb ∧ nb ≤ 9223372036854775807) (w : World) :
    Calls Tryd.prog 14 #[.agg (gv ka sa ba na fa pa qa), .agg (gv kb sb bb nb fb pb qb)] w fun e w' =>
      e = .returned (.tuple #[.int .i64 (cmpV ka sa na fa kb sb nb fb).1, .bool (cmpV ka sa na fa kb sb nb fb).2]) ∧ Below w.heap.size w w' := by
  rcases cls ka fa with rfl | rfl | ⟨rfl, an, _, ax⟩ | ⟨rfl, an, ax⟩ | ⟨a1, a3, a4⟩
  · rcases cls kb fb with rfl | rfl | ⟨rfl, bn, _, bx⟩ | ⟨rfl, bn, bx⟩ | ⟨b1, b3, b4⟩
    · have hv : cmpV 1 sa na fa 1 sb nb fb = (ordS sa sb, true) := rfl
      rw [hv]
      unfold ordS
      by_cases h : Op.bytesLess sa.toList sb.toList = true
      · rw [if_pos h]
        have h2 : (sa.toList == sb.toList) = false := beq_eq_false_iff_ne.2 fun e => by rw [e] at h; exact bl_irrefl _ h
        exact d_t1 sa ba na fa pa qa sb bb nb fb pb qb w h h2
      · rw [if_neg h]
        have h' : Op.bytesLess sa.toList sb.toList = false := by simpa using h
        cases h2 : (sa.toList == sb.toList)
        · exact d_t2 sa ba na fa pa qa sb bb nb fb pb qb w h' h2
        · exact d_t3 sa ba na fa pa qa sb bb nb fb pb qb w h' h2
    · rw [cmpV_n (rfl) (.inl (num1 _ _))]
      exact d_13 sa ba na fa pa qa sb bb nb fb pb qb w  
    · rw [cmpV_n (rfl) (.inl (num1 _ _))]
      exact d_1N sa ba na fa pa qa sb bb nb fb pb qb w  bn
    · rw [cmpV_n (rfl) (.inl (num1 _ _))]
      exact d_1F sa ba na fa pa qa sb bb nb fb pb qb w  bn
    · rw [cmpV_n (and2 b1) (.inl (num1 _ _))]
      exact d_1O sa ba na fa pa qa kb sb bb nb fb pb qb w  b1 b3 b4
  · rcases cls kb fb with rfl | rfl | ⟨rfl, bn, _, bx⟩ | ⟨rfl, bn, bx⟩ | ⟨b1, b3, b4⟩
    · rw [cmpV_n (rfl) (.inr (num1 _ _))]
      exact d_31 sa ba na fa pa qa sb bb nb fb pb qb w  
    · rw [cmpV_s rfl (num3 _ _) (num3 _ _), F.cmp_mul F.P_pos]
      rcases Int.lt_trichotomy na nb with h | h | h
      · rw [F.cmp_lt h]; exact d_i1 sa ba na fa pa qa sb bb nb fb pb qb w h (by omega)
      · subst h; rw [F.cmp_eq]; exact d_i3 sa ba na fa pa qa sb bb na fb pb qb w (by omega) (by omega)
      · rw [F.cmp_gt h]; exact d_i2 sa ba na fa pa qa sb bb nb fb pb qb w (by omega) h
    · rw [cmpV_n (rfl) (.inr (numN _ _ bx))]
      exact d_3N sa ba na fa pa qa sb bb nb fb pb qb w  bn
    · rw [cmpV_s rfl (num3 _ _) (numF _ _ bx)]
      exact d_3F sa ba na fa pa qa sb bb nb fb pb qb w bn _ fun W => dmixed_any na fb _ hna bx rfl W
    · rw [cmpV_n (rfl) (.inr (numO _ _ _ b3 b4))]
      exact d_3O sa ba na fa pa qa kb sb bb nb fb pb qb w  b1 b3 b4
  · rcases cls kb fb with rfl | rfl | ⟨rfl, bn, _, bx⟩ | ⟨rfl, bn, bx⟩ | ⟨b1, b3, b4⟩
    · rw [cmpV_n (rfl) (.inl (numN _ _ ax))]
      exact d_N1 sa ba na fa pa qa sb bb nb fb pb qb w an 
    · rw [cmpV_n (rfl) (.inl (numN _ _ ax))]
      exact d_N3 sa ba na fa pa qa sb bb nb fb pb qb w an 
    · rw [cmpV_n (rfl) (.inl (numN _ _ ax))]
      exact d_NN sa ba na fa pa qa sb bb nb fb pb qb w an bn
    · rw [cmpV_n (rfl) (.inl (numN _ _ ax))]
      exact d_NF sa ba na fa pa qa sb bb nb fb pb qb w an bn
    · rw [cmpV_n (rfl) (.inl (numN _ _ ax))]
      exact d_NO sa ba na fa pa qa kb sb bb nb fb pb qb w an b1 b3 b4
  · rcases cls kb fb with rfl | rfl | ⟨rfl, bn, _, bx⟩ | ⟨rfl, bn, bx⟩ | ⟨b1, b3, b4⟩
    · rw [cmpV_n (rfl) (.inr (num1 _ _))]
      exact d_F1 sa ba na fa pa qa sb bb nb fb pb qb w an 
    · rw [cmpV_s rfl (numF _ _ ax) (num3 _ _), ← swap_compare]
      exact d_F3 sa ba na fa pa qa sb bb nb fb pb qb w an _ fun W => dmixed_any nb fa _ hnb ax rfl W
    · rw [cmpV_n (rfl) (.inr (numN _ _ bx))]
      exact d_FN sa ba na fa pa qa sb bb nb fb pb qb w an bn
    · rw [cmpV_s rfl (numF _ _ ax) (numF _ _ bx)]
      have ho := fo_val fa fb ax bx
      cases hc : compare (F.val (dec fa)) (F.val (dec fb)) with
      | lt => rw [hc] at ho; exact d_f1 sa ba na fa pa qa sb bb nb fb pb qb w an bn ho
      | eq => rw [hc] at ho; exact d_f3 sa ba na fa pa qa sb bb nb fb pb qb w an bn ho
      | gt => rw [hc] at ho; exact d_f2 sa ba na fa pa qa sb bb nb fb pb qb w an bn ho
    · rw [cmpV_n (rfl) (.inr (numO _ _ _ b3 b4))]
      exact d_FO sa ba na fa pa qa kb sb bb nb fb pb qb w an b1 b3 b4
  · rcases cls kb fb with rfl | rfl | ⟨rfl, bn, _, bx⟩ | ⟨rfl, bn, bx⟩ | ⟨b1, b3, b4⟩
    · rw [cmpV_n (and1 a1) (.inl (numO _ _ _ a3 a4))]
      exact d_O1 ka sa ba na fa pa qa sb bb nb fb pb qb w a1 a3 a4 
    · rw [cmpV_n (and1 a1) (.inl (numO _ _ _ a3 a4))]
      exact d_O3 ka sa ba na fa pa qa sb bb nb fb pb qb w a1 a3 a4 
    · rw [cmpV_n (and1 a1) (.inl (numO _ _ _ a3 a4))]
      exact d_ON ka sa ba na fa pa qa sb bb nb fb pb qb w a1 a3 a4 bn
    · rw [cmpV_n (and1 a1) (.inl (numO _ _ _ a3 a4))]
      exact d_OF ka sa ba na fa pa qa sb bb nb fb pb qb w a1 a3 a4 bn
    · rw [cmpV_n (and1 a1) (.inl (numO _ _ _ a3 a4))]
      exact d_OO ka sa ba na fa pa qa kb sb bb nb fb pb qb w a1 a3 a4 b1 b3 b4
end Go.Proofs.YtnnnnlcpmocnfaaDoor
