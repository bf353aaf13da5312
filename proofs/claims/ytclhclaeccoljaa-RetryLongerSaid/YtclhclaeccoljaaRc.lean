/- RETRY: how long it is waited; THE WALK OVER wait. -/
import Derived.Test.YtclhclaeccoljaaRb
namespace Go.Proofs.Ytclhclaeccoljaa
open Go.RowKit
set_option linter.unusedVariables false
set_option linter.unusedSimpArgs false

/-- how long it is waited behind n tries -/
def waitM (f m : Int) (n : Nat) : Int := min (f * 2 ^ n) m
theorem pow_pos2 (n : Nat) : (1 : Int) ≤ 2 ^ n := by
  induction n with
  | zero => decide
  | succ n ih => rw [Int.pow_succ]; omega
theorem pow_ge (n : Nat) (hn : 53 ≤ n) : (9007199254740992 : Int) ≤ 2 ^ n := by
  obtain ⟨k, rfl⟩ := Nat.exists_eq_add_of_le hn
  rw [Int.pow_add]
  have h1 := pow_pos2 k
  have h2 : (2 : Int) ^ 53 = 9007199254740992 := by decide
  rw [h2]
  omega
theorem waitM_zero {f m : Int} (h : f ≤ m) : waitM f m 0 = f := by unfold waitM; simp; omega
theorem waitM_succ {f m : Int} (h0 : 0 ≤ m) (n : Nat) : waitM f m (n + 1) = min (2 * waitM f m n) m := by
  unfold waitM
  rw [Int.pow_succ, ← Int.mul_assoc]
  omega
theorem waitM_le (f m : Int) (n : Nat) : waitM f m n ≤ m := by unfold waitM; omega
theorem waitM_ge {f m : Int} (h0 : 0 ≤ f) (h : f ≤ m) (n : Nat) : f ≤ waitM f m n := by
  unfold waitM
  have h1 := pow_pos2 n
  have h2 : f * 1 ≤ f * 2 ^ n := Int.mul_le_mul_of_nonneg_left h1 h0
  omega
theorem waitM_mono {f m : Int} (h0 : 0 ≤ f) (h : f ≤ m) (n : Nat) : waitM f m n ≤ waitM f m (n + 1) := by
  have h1 := waitM_le f m n
  have h2 := waitM_ge h0 h n
  rw [waitM_succ (by omega)]
  omega
theorem waitM_far {f m : Int} (h1 : 1 ≤ f) (hm : m ≤ 9007199254740992) (n : Nat) (hn : 53 ≤ n) : waitM f m n = m := by
  unfold waitM
  have h2 := pow_ge n hn
  have h3 : 1 * (2 : Int) ^ n ≤ f * 2 ^ n := Int.mul_le_mul_of_nonneg_right h1 (by omega)
  omega
theorem waitM_min {f m : Int} (h1 : 1 ≤ f) (hm : m ≤ 9007199254740992) (n : Nat) : waitM f m (min n 53) = waitM f m n := by
  by_cases h : n ≤ 53
  · rw [Nat.min_eq_left h]
  · rw [Nat.min_eq_right (by omega), waitM_far h1 hm _ (Nat.le_refl _), waitM_far h1 hm n (by omega)]

theorem wait_any (w : World) (f m t k : Int) (hR : RR f m t) (h0 : 0 ≤ k) (h1 : k ≤ 9223372036854775807) : Calls Try.prog 15 #[.agg (rcells f m t), .int .i64 k] w fun e w' => e = .returned (.int .u64 (waitM f m k.toNat)) ∧ Below w.heap.size w w' := by
  obtain ⟨X, hX⟩ : ∃ X, X = w.alloc (.cells (rcells f m t) 24) := ⟨_, rfl⟩
  have hx : X.heap[w.heap.size]? = some (.cells (rcells f m t) 24 (0, 0)) := by rw [hX]; exact blk_new w _
  have hb : Below w.heap.size w X := by rw [hX]; exact (Below.refl _ w).alloc (Nat.le_refl _) _
  obtain ⟨r1, r2, r3, r4⟩ := hR
  by_cases hk : 53 < k
  · obtain ⟨N, hN⟩ : ∃ N : Nat, N = 53 := ⟨_, rfl⟩
    have hres : waitM f m N = waitM f m k.toNat := by rw [hN]; rw [waitM_far r1 r3 53 (Nat.le_refl _), waitM_far r1 r3 _ (by omega)]
    rw [← hres]
    have hNk : N = 53 := hN
    have Hb := Lib.hid hb
    clear hres hb hN
    go_enter Try.func15, Try.ntmps15
    go_upto_region 1 with (fail)
    rw [← hX]
    clear hX
    obtain ⟨c0, c1, c2⟩ := box3 hx
    have hl := (Array.getElem?_eq_some_iff.1 hx).1
    clear hx
    go_wp2
    go_loopw [5, 10] (fun a i wr => ∃ (j : Nat), i = .int .i64 (j : Int) ∧ j ≤ N ∧ a = .int .u64 (waitM f m j) ∧ Below X.heap.size X wr) (fun a i _ => N - (intOf i).toNat)
    case atStart => exact ⟨0, rfl, Nat.zero_le _, by rw [waitM_zero r2], Below.refl _ _⟩
    case round =>
      obtain ⟨j, rfl, hj, rfl, hbel⟩ := hrel
      have Hbel := Lib.hid hbel
      have d1 := (hbel.cell (p := ⟨w.heap.size, 1, none⟩) hl).trans c1
      have hl2 := Nat.lt_of_lt_of_le hl hbel.size
      obtain ⟨v, hv⟩ : ∃ v, v = waitM f m j := ⟨_, rfl⟩
      have hv1 : v ≤ m := by rw [hv]; exact waitM_le f m j
      have hv0 : 1 ≤ v := by have := waitM_ge (f := f) (m := m) (by omega) r2 j; omega
      have hs := waitM_succ (f := f) (m := m) (by omega) j
      by_cases hlt : j < N
      · rw [← hv] at hs ⊢
        by_cases hc : m < 2 * v
        · rw [show min (2 * v) m = m by omega] at hs
          have Hs := Lib.hid hs
          clear hbel hs hv
          go_wp2
          go_roundw
          case rel => exact ⟨j + 1, by go_num, by omega, by rw [Hs.out], Hbel.out⟩
          case measure => simp [intOf]; omega
        · rw [show min (2 * v) m = 2 * v by omega] at hs
          have Hs := Lib.hid hs
          clear hbel hs hv
          go_wp2
          go_roundw
          case rel => exact ⟨j + 1, by go_num, by omega, by rw [Hs.out], Hbel.out⟩
          case measure => simp [intOf]; omega
      · have e : j = N := by omega
        clear hs hv hbel hv1 hv0 v
        go_wp2
        go_ret
        rw [← e]
        exact ⟨rfl, Hb.out.trans (Hbel.out.mono Hb.out.size)⟩
  · obtain ⟨N, hN⟩ : ∃ N : Nat, N = k.toNat := ⟨_, rfl⟩
    have hres : waitM f m N = waitM f m k.toNat := by rw [hN]; skip
    rw [← hres]
    have hNk : k = (N : Int) := by omega
    have Hb := Lib.hid hb
    clear hres hb hN
    go_enter Try.func15, Try.ntmps15
    go_upto_region 1 with (fail)
    rw [← hX]
    clear hX
    obtain ⟨c0, c1, c2⟩ := box3 hx
    have hl := (Array.getElem?_eq_some_iff.1 hx).1
    clear hx
    go_wp2
    go_loopw [5, 10] (fun a i wr => ∃ (j : Nat), i = .int .i64 (j : Int) ∧ j ≤ N ∧ a = .int .u64 (waitM f m j) ∧ Below X.heap.size X wr) (fun a i _ => N - (intOf i).toNat)
    case atStart => exact ⟨0, rfl, Nat.zero_le _, by rw [waitM_zero r2], Below.refl _ _⟩
    case round =>
      obtain ⟨j, rfl, hj, rfl, hbel⟩ := hrel
      have Hbel := Lib.hid hbel
      have d1 := (hbel.cell (p := ⟨w.heap.size, 1, none⟩) hl).trans c1
      have hl2 := Nat.lt_of_lt_of_le hl hbel.size
      obtain ⟨v, hv⟩ : ∃ v, v = waitM f m j := ⟨_, rfl⟩
      have hv1 : v ≤ m := by rw [hv]; exact waitM_le f m j
      have hv0 : 1 ≤ v := by have := waitM_ge (f := f) (m := m) (by omega) r2 j; omega
      have hs := waitM_succ (f := f) (m := m) (by omega) j
      by_cases hlt : j < N
      · rw [← hv] at hs ⊢
        by_cases hc : m < 2 * v
        · rw [show min (2 * v) m = m by omega] at hs
          have Hs := Lib.hid hs
          clear hbel hs hv
          go_wp2
          go_roundw
          case rel => exact ⟨j + 1, by go_num, by omega, by rw [Hs.out], Hbel.out⟩
          case measure => simp [intOf]; omega
        · rw [show min (2 * v) m = 2 * v by omega] at hs
          have Hs := Lib.hid hs
          clear hbel hs hv
          go_wp2
          go_roundw
          case rel => exact ⟨j + 1, by go_num, by omega, by rw [Hs.out], Hbel.out⟩
          case measure => simp [intOf]; omega
      · have e : j = N := by omega
        clear hs hv hbel hv1 hv0 v
        go_wp2
        go_ret
        rw [← e]
        exact ⟨rfl, Hb.out.trans (Hbel.out.mono Hb.out.size)⟩
end Go.Proofs.Ytclhclaeccoljaa
