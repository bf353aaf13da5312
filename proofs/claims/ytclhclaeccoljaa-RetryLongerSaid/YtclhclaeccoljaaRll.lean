/- RETRY: THE WALK OVER RetryLonger. -/
import Derived.Test.YtclhclaeccoljaaRf
namespace Go.Proofs.Ytclhclaeccoljaa
open Go.RowKit
set_option linter.unusedVariables false
set_option linter.unusedSimpArgs false


set_option maxHeartbeats 4000000 in
theorem longer_any (w : World) (f m t k : Int) (hk : I64 k) :
    Calls Try.prog 4 #[.agg (rcells f m t), .int .i64 k] w fun e w' => e = .returned (.bool true) ∧ Below w.heap.size w w' := by
  obtain ⟨hk0, hk1⟩ := hk
  have HB := Lib.hid (Below.refl w.heap.size w)
  go_enter Try.func4, Try.ntmps4
  obtain ⟨W0, hW0⟩ : ∃ W, W = w.alloc (.cells (rcells f m t) 24) := ⟨_, rfl⟩
  have hbW0 : Below w.heap.size w W0 := by rw [hW0]; exact (Below.refl _ w).alloc (Nat.le_refl _) _
  replace HB := Lib.hid (HB.out.trans (hbW0.mono HB.out.size))
  have HR := Lib.hid (show Blk W0 w.heap.size (rcells f m t) 24 from by rw [hW0]; exact blk_new w _)
  clear hbW0
  go_upto_region 1 with (fail)
  rw [← hW0]
  clear hW0
  go_wp2_with fail
  refine (lives_any W0).mono ?_
  rintro e w1 ⟨rfl, hb⟩
  replace HR := Lib.hid (HR.out.under hb)
  replace HB := Lib.hid (HB.out.trans (hb.mono HB.out.size))
  clear hb
  by_cases hbig : 1048576 < k
  · go_wp2
    go_ret
    exact ⟨rfl, HB.out⟩
  obtain ⟨c0, c1, c2⟩ := box3 HR.out
  have hlc := HR.out.lt
  go_wp2_with fail
  refine (Wait_any w1 f m t k hk1).mono ?_
  rintro e w2 ⟨rfl, hb⟩
  replace HR := Lib.hid (HR.out.under hb)
  replace HB := Lib.hid (HB.out.trans (hb.mono HB.out.size))
  clear hb
  clear c0 c1 c2 hlc
  obtain ⟨c0, c1, c2⟩ := box3 HR.out
  have hlc := HR.out.lt
  go_wp2_with fail
  refine (Wait_any w2 f m t (k + 1) (by omega)).mono ?_
  rintro e w3 ⟨rfl, hb⟩
  replace HR := Lib.hid (HR.out.under hb)
  replace HB := Lib.hid (HB.out.trans (hb.mono HB.out.size))
  clear hb
  clear c0 c1 c2 hlc
  obtain ⟨c0, c1, c2⟩ := box3 HR.out
  have hlc := HR.out.lt
  by_cases hw : RR f m t ∧ 0 ≤ k
  · rw [waitA_yes hw.1 hw.2, waitA_yes hw.1 (show 0 ≤ k + 1 by omega)]
    simp only
    have e1 : (k + 1).toNat = k.toNat + 1 := by omega
    rw [e1]
    obtain ⟨r1, r2, r3, r4⟩ := hw.1
    obtain ⟨v, hv⟩ : ∃ v, v = waitM f m k.toNat := ⟨_, rfl⟩
    obtain ⟨u, hu⟩ : ∃ u, u = waitM f m (k.toNat + 1) := ⟨_, rfl⟩
    have h1 : f ≤ v := by rw [hv]; exact waitM_ge (by omega) r2 _
    have h2 : v ≤ m := by rw [hv]; exact waitM_le f m _
    have h3 := waitM_succ (f := f) (m := m) (by omega) k.toNat
    rw [← hv, ← hu] at h3
    have h4 : u ≤ m := by omega
    have h5 : v ≤ u := by omega
    have h6 : u - v ≤ v := by omega
    rw [← hv, ← hu]
    clear hv hu h3 hw e1
    go_wp2
    go_ret
    exact ⟨rfl, HB.out⟩
  · rw [waitA_no hw]
    simp only
    by_cases hw2 : RR f m t ∧ 0 ≤ k + 1
    · rw [waitA_yes hw2.1 hw2.2]
      simp only
      generalize waitM f m (k + 1).toNat = u
      clear hw hw2
      go_wp2
      go_ret
      exact ⟨rfl, HB.out⟩
    · rw [waitA_no hw2]
      simp only
      clear hw hw2
      go_wp2
      go_ret
      exact ⟨rfl, HB.out⟩
end Go.Proofs.Ytclhclaeccoljaa
