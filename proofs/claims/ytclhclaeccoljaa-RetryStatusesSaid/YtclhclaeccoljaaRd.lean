/- RETRY: THE WALKS OVER Wait, twice. -/
import Derived.Test.YtclhclaeccoljaaRc
namespace Go.Proofs.Ytclhclaeccoljaa
open Go.RowKit
set_option linter.unusedVariables false
set_option linter.unusedSimpArgs false

/-- what is told of a wait -/
def waitA (f m t k : Int) : Int × Int := if RR f m t ∧ 0 ≤ k then (waitM f m k.toNat, 0) else (0, 2)
theorem waitA_yes {f m t k : Int} (hR : RR f m t) (h0 : 0 ≤ k) : waitA f m t k = (waitM f m k.toNat, 0) := by unfold waitA; rw [if_pos ⟨hR, h0⟩]
theorem waitA_no {f m t k : Int} (h : ¬ (RR f m t ∧ 0 ≤ k)) : waitA f m t k = (0, 2) := by unfold waitA; rw [if_neg h]
theorem Wait_any (w : World) (f m t k : Int) (hk : k ≤ 9223372036854775807) : Calls Try.prog 7 #[.agg (rcells f m t), .int .i64 k] w fun e w' => e = .returned (.tuple #[.int .u64 (waitA f m t k).1, .int .i64 (waitA f m t k).2]) ∧ Below w.heap.size w w' := by
  obtain ⟨X, hX⟩ : ∃ X, X = w.alloc (.cells (rcells f m t) 24) := ⟨_, rfl⟩
  have hx : X.heap[w.heap.size]? = some (.cells (rcells f m t) 24 (0, 0)) := by rw [hX]; exact blk_new w _
  have hb : Below w.heap.size w X := by rw [hX]; exact (Below.refl _ w).alloc (Nat.le_refl _) _
  have Hx := Lib.hid hx
  have Hb := Lib.hid hb
  obtain ⟨a, ha⟩ : ∃ a, a = waitA f m t k := ⟨_, rfl⟩
  rw [← ha]
  have Ha := Lib.hid ha
  clear ha hb
  go_enter Try.func7, Try.ntmps7
  go_upto_region 1 with (fail)
  rw [← hX]
  clear hX
  obtain ⟨c0, c1, c2⟩ := box3 hx
  have hl := (Array.getElem?_eq_some_iff.1 hx).1
  clear hx
  go_wp2_with fail
  refine (rules_any X f m t).mono ?_
  rintro e w1 ⟨rfl, hb1⟩
  have HB := Lib.hid (Hb.out.trans (hb1.mono Hb.out.size))
  have hx1 := (hb1.block _ hl).trans Hx.out
  clear c0 c1 c2 hl
  obtain ⟨c0, c1, c2⟩ := box3 hx1
  have hl := (Array.getElem?_eq_some_iff.1 hx1).1
  by_cases hR : RR f m t
  rotate_left
  · have e := Ha.out.trans (waitA_no (fun h => hR h.1))
    rw [decide_eq_false hR]
    subst e
    clear Ha hx1 hb1
    go_wp2
    refine bodyPost_ret (v := .tuple #[.int .u64 0, .int .i64 2]) (by simp [results, Try.results7, go_sem]) rfl ?_
    exact ⟨rfl, HB.out⟩
  rw [decide_eq_true hR]
  by_cases h0 : 0 ≤ k
  rotate_left
  · have e := Ha.out.trans (waitA_no (fun h => h0 h.2))
    subst e
    clear Ha hx1 hb1
    go_wp2
    refine bodyPost_ret (v := .tuple #[.int .u64 0, .int .i64 2]) (by simp [results, Try.results7, go_sem]) rfl ?_
    exact ⟨rfl, HB.out⟩
  have e := Ha.out.trans (waitA_yes hR h0)
  subst e
  have HR := Lib.hid hR
  obtain ⟨r1, r2, r3, r4⟩ := hR
  have Hx1 := Lib.hid hx1
  clear Ha hb1 hx1
  go_wp2_with fail
  refine (wait_any w1 f m t k HR.out h0 hk).mono ?_
  rintro e w2 ⟨rfl, hb2⟩
  replace HB := Lib.hid (HB.out.trans (hb2.mono HB.out.size))
  clear hb2
  go_wp2
  refine bodyPost_ret (v := .tuple #[.int .u64 (waitM f m k.toNat), .int .i64 0]) (by simp [results, Try.results7, go_sem]) rfl ?_
  exact ⟨rfl, HB.out⟩

theorem RWait_any (w : World) (f m t k : Int) (hk : k ≤ 9223372036854775807) : Calls Try.prog 8 #[.agg (rcells f m t), .int .i64 k] w fun e w' => e = .returned (.tuple #[.int .u64 (waitA f m t k).1, .int .i64 (waitA f m t k).2]) ∧ Below w.heap.size w w' := by
  obtain ⟨X, hX⟩ : ∃ X, X = w.alloc (.cells (rcells f m t) 24) := ⟨_, rfl⟩
  have hx : X.heap[w.heap.size]? = some (.cells (rcells f m t) 24 (0, 0)) := by rw [hX]; exact blk_new w _
  have hb : Below w.heap.size w X := by rw [hX]; exact (Below.refl _ w).alloc (Nat.le_refl _) _
  have Hx := Lib.hid hx
  have Hb := Lib.hid hb
  obtain ⟨a, ha⟩ : ∃ a, a = waitA f m t k := ⟨_, rfl⟩
  rw [← ha]
  have Ha := Lib.hid ha
  clear ha hb
  go_enter Try.func8, Try.ntmps8
  go_upto_region 1 with (fail)
  rw [← hX]
  clear hX
  obtain ⟨c0, c1, c2⟩ := box3 hx
  have hl := (Array.getElem?_eq_some_iff.1 hx).1
  clear hx
  go_wp2_with fail
  refine (right_any X f m t).mono ?_
  rintro e w1 ⟨rfl, hb1⟩
  have HB := Lib.hid (Hb.out.trans (hb1.mono Hb.out.size))
  have hx1 := (hb1.block _ hl).trans Hx.out
  clear c0 c1 c2 hl
  obtain ⟨c0, c1, c2⟩ := box3 hx1
  have hl := (Array.getElem?_eq_some_iff.1 hx1).1
  by_cases hR : RR f m t
  rotate_left
  · have e := Ha.out.trans (waitA_no (fun h => hR h.1))
    rw [decide_eq_false hR]
    subst e
    clear Ha hx1 hb1
    go_wp2
    refine bodyPost_ret (v := .tuple #[.int .u64 0, .int .i64 2]) (by simp [results, Try.results8, go_sem]) rfl ?_
    exact ⟨rfl, HB.out⟩
  rw [decide_eq_true hR]
  by_cases h0 : 0 ≤ k
  rotate_left
  · have e := Ha.out.trans (waitA_no (fun h => h0 h.2))
    subst e
    clear Ha hx1 hb1
    go_wp2
    refine bodyPost_ret (v := .tuple #[.int .u64 0, .int .i64 2]) (by simp [results, Try.results8, go_sem]) rfl ?_
    exact ⟨rfl, HB.out⟩
  have e := Ha.out.trans (waitA_yes hR h0)
  subst e
  have HR := Lib.hid hR
  obtain ⟨r1, r2, r3, r4⟩ := hR
  have Hx1 := Lib.hid hx1
  clear Ha hb1 hx1
  have hp0 : ∀ j : Nat, waitM f m j = min (f * 2 ^ j) m := fun _ => rfl
  have HP := Lib.hid hp0
  clear hp0
  obtain ⟨K, hK⟩ : ∃ K : Nat, K = k.toNat := ⟨_, rfl⟩
  have hkK : k = (K : Int) := by omega
  subst hkK
  clear hK h0
  go_wp2
  go_loopw [6, 7] (fun a i wr => ∃ (j : Nat) (v : Int), i = .int .i64 (j : Int) ∧ j ≤ K ∧ a = .int .u64 v ∧ min v m = waitM f m j ∧ 1 ≤ v ∧ v ≤ 18014398509481984 ∧ Below w1.heap.size w1 wr) (fun a i _ => K - (intOf i).toNat)
  case atStart => exact ⟨0, f, rfl, Nat.zero_le _, rfl, by rw [waitM_zero r2]; omega, r1, by omega, Below.refl _ _⟩
  case round =>
    obtain ⟨j, v, rfl, hj, rfl, hv, hv1, hv2, hbel⟩ := hrel
    have Hv := Lib.hid hv
    have Hbel := Lib.hid hbel
    have hx2 := (hbel.block _ hl).trans Hx1.out
    clear hbel hv c0 c1 c2 hl
    obtain ⟨c0, c1, c2⟩ := box3 hx2
    have hl := (Array.getElem?_eq_some_iff.1 hx2).1
    have HBB := Lib.hid (HB.out.trans (Hbel.out.mono HB.out.size))
    clear hx2
    by_cases hlt : j < K
    · by_cases hvm : v < m
      · have hs := waitM_succ (f := f) (m := m) (by omega) j
        rw [← Hv.out] at hs
        have hs2 : min (v * 2) m = waitM f m (j + 1) := by rw [hs]; omega
        have Hs := Lib.hid hs2
        clear hs hs2
        go_wp2
        go_roundw
        case rel => exact ⟨j + 1, v * 2, by go_num, by omega, by go_num, Hs.out, by omega, by omega, Hbel.out⟩
        case measure => simp [intOf]; omega
      · have hm : waitM f m K = m := by
          have h1 : waitM f m j = m := by rw [← Hv.out]; omega
          have h2 : ∀ d : Nat, waitM f m (j + d) = m := by
            intro d
            induction d with
            | zero => exact h1
            | succ d ih => rw [← Nat.add_assoc, waitM_succ (by omega), ih]; omega
          have := h2 (K - j)
          rwa [show j + (K - j) = K by omega] at this
        have Hm := Lib.hid hm
        clear hm
        by_cases he : m < v
        · go_wp2
          refine bodyPost_ret (v := .tuple #[.int .u64 m, .int .i64 0]) (by simp [results, Try.results8, go_sem]) rfl ?_
          rw [Hm.out]
          exact ⟨rfl, HBB.out⟩
        · have e : v = m := by omega
          subst e
          clear he hvm
          go_wp2
          refine bodyPost_ret (v := .tuple #[.int .u64 v, .int .i64 0]) (by simp [results, Try.results8, go_sem]) rfl ?_
          rw [Hm.out]
          exact ⟨rfl, HBB.out⟩
    · have e : j = K := by omega
      subst e
      by_cases he : m < v
      · have hm : waitM f m j = m := by rw [← Hv.out]; omega
        have Hm := Lib.hid hm
        clear hm
        go_wp2
        refine bodyPost_ret (v := .tuple #[.int .u64 m, .int .i64 0]) (by simp [results, Try.results8, go_sem]) rfl ?_
        rw [Hm.out]
        exact ⟨rfl, HBB.out⟩
      · have hm : waitM f m j = v := by rw [← Hv.out]; omega
        have Hm := Lib.hid hm
        clear hm
        go_wp2
        refine bodyPost_ret (v := .tuple #[.int .u64 v, .int .i64 0]) (by simp [results, Try.results8, go_sem]) rfl ?_
        rw [Hm.out]
        exact ⟨rfl, HBB.out⟩
end Go.Proofs.Ytclhclaeccoljaa
