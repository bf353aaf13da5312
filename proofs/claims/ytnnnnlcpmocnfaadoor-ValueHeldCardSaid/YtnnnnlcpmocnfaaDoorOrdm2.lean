/- PLAIN MATHEMATICS OF FLOATS: a float cut towards zero is a float again, of the whole number. -/
import Derived.Test.YtnnnnlcpmocnfaaDoorOrdm
namespace Go.Proofs.YtnnnnlcpmocnfaaDoor.F
open Ieee
theorem trunc_back {s : Bool} {m : Nat} {i : Int} (h : Rd (.number s m i)) (hi : i ≤ 11) :
    ∃ t m' i', double.read (double.write ((Datum.number s m i).integral .zero)) = .number t m' i' ∧ Rd (.number t m' i') ∧ -1074 ≤ i' ∧ val (.number t m' i') = whole (.number s m i) * (P : Int) := by
  obtain ⟨t, m', i', e1, e2, e3, e4⟩ := exact_whole s m i h hi s
  refine ⟨t, m', i', ?_, e4, e2, ?_⟩
  · rw [← e1]
    have hc : (Datum.number s m i).integral .zero = .number s (tsize (.number s m i)) 0 := by
      show Datum.number s (Toward.zero.cut s (m <<< i.toNat) (-i).toNat) 0 = Datum.number s ((m <<< i.toNat) / 2 ^ ((-i).toNat)) 0
      rw [cut_zero]
    rw [hc]
    rfl
  · rw [e3, val_num, up0]
    have hw : whole (.number s m i) = if s then -((tsize (.number s m i) : Nat) : Int) else ((tsize (.number s m i) : Nat) : Int) := rfl
    rw [hw]
    unfold P
    cases s
    · simp only [Bool.false_eq_true, if_false]
      exact Int.natCast_mul _ _
    · simp only [if_true]
      rw [Int.natCast_mul, Int.neg_mul]
theorem small_mul (k r : Int) (h : k * (P : Int) = r) (h0 : -(P : Int) < r) (h1 : r < (P : Int)) : k = 0 := by
  have hP := P_pos
  rcases Int.lt_trichotomy k 0 with hk | hk | hk
  · have := Int.mul_le_mul_of_nonneg_right (show k ≤ -1 by omega) (Int.le_of_lt hP)
    omega
  · exact hk
  · have := Int.mul_le_mul_of_nonneg_right (show 1 ≤ k by omega) (Int.le_of_lt hP)
    omega
theorem whole_val {t : Bool} {m : Nat} {i : Int} (hi : -1074 ≤ i) (n : Int) (hv : val (.number t m i) = n * (P : Int)) : whole (.number t m i) = n := by
  obtain ⟨z, r, h1, h2, h3⟩ := whole_near (s := t) (m := m) hi
  have hw : whole (.number t m i) = if t then -(z : Int) else (z : Int) := by unfold whole; rw [h1]; rfl
  have hv' : val (.number t m i) = if t then -((z : Int) * P + r) else ((z : Int) * P + r) := by
    rw [val_num, h2]; simp only [Int.natCast_add, Int.natCast_mul]
  rw [hv'] at hv
  rw [hw]
  have hr0 : (0 : Int) ≤ (r : Int) := Int.natCast_nonneg _
  have hr1 : (r : Int) < (P : Int) := Int.ofNat_lt.2 h3
  cases t
  · simp only [Bool.false_eq_true, if_false] at hv ⊢
    have := small_mul (n - z) r (by rw [Int.sub_mul]; omega) (by omega) hr1
    omega
  · simp only [if_true] at hv ⊢
    have := small_mul (n + z) (-r) (by rw [Int.add_mul]; omega) (by omega) (by omega)
    omega
end Go.Proofs.YtnnnnlcpmocnfaaDoor.F
