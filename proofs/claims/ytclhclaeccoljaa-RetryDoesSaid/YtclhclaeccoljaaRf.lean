/- RETRY: THE WALK OVER lives. -/
import Derived.Test.YtclhclaeccoljaaRe
namespace Go.Proofs.Ytclhclaeccoljaa
open Go.RowKit
set_option linter.unusedVariables false
set_option linter.unusedSimpArgs false

/-- a block's cells -/
def Blk (w : World) (q : Nat) (cs : Array Value) (t : TypeId) : Prop := w.heap[q]? = some (.cells cs t (0, 0))
theorem Blk.under {w w' : World} {q : Nat} {cs : Array Value} {t : TypeId} (h : Blk w q cs t) (hb : Below w.heap.size w w') : Blk w' q cs t := (hb.block _ (Array.getElem?_eq_some_iff.1 h).1).trans h
theorem Blk.lt {w : World} {q : Nat} {cs : Array Value} {t : TypeId} (h : Blk w q cs t) : q < w.heap.size := (Array.getElem?_eq_some_iff.1 h).1
theorem below_drewN {B : Nat} {a w : World} (h : Below B a w) (n : Nat) : Below B a (w.drewN n) := by
  induction n with
  | zero => exact h
  | succ n ih => exact ih.drew
theorem wl1 : waitA 100 500 650 2 = (400, 0) := by decide
theorem wl2 : waitA 100 500 650 9 = (500, 0) := by decide
theorem fl1 : failA 0 0 0 100 500 650 0 = ⟨1, 0, 100, false, 0⟩ := by
  rw [failA_next (by decide) (by decide)]; rfl
theorem fl2 : failA 2 0 0 100 500 650 300 = ⟨2, 0, 0, true, 0⟩ := by
  rw [failA_over (by decide) (by decide)]
theorem vl1 : verM 503 = 1 := by decide
theorem vl2 : verM 400 = 2 := by decide

set_option maxHeartbeats 2000000 in
theorem lives_any (w : World) : Calls Try.prog 11 #[] w fun e w' => e = .returned (.bool true) ∧ Below w.heap.size w w' := by
  have HB := Lib.hid (Below.refl w.heap.size w)
  go_enter Try.func11, Try.ntmps11
  obtain ⟨W0, hW0⟩ : ∃ W, W = w.alloc (.cells (rcells 100 500 650) 24) := ⟨_, rfl⟩
  have hbW0 : Below w.heap.size w W0 := by rw [hW0]; exact (Below.refl _ w).alloc (Nat.le_refl _) _
  replace HB := Lib.hid (HB.out.trans (hbW0.mono HB.out.size))
  have HR := Lib.hid (show Blk W0 w.heap.size (rcells 100 500 650) 24 from by rw [hW0]; exact blk_new w _)
  clear hbW0
  go_upto_region 2 with (fail)
  rw [← hW0]
  clear hW0
  obtain ⟨c0, c1, c2⟩ := box3 HR.out
  have hlc := HR.out.lt
  go_wp2_with fail
  refine (Wait_any W0 100 500 650 2 (by decide)).mono ?_
  rintro e w1 ⟨rfl, hb⟩
  replace HR := Lib.hid (HR.out.under hb)
  replace HB := Lib.hid (HB.out.trans (hb.mono HB.out.size))
  clear hb
  clear c0 c1 c2 hlc
  rw [wl1]
  simp only
  obtain ⟨c0, c1, c2⟩ := box3 HR.out
  have hlc := HR.out.lt
  go_wp2_with fail
  refine (Wait_any w1 100 500 650 9 (by decide)).mono ?_
  rintro e w2 ⟨rfl, hb⟩
  replace HR := Lib.hid (HR.out.under hb)
  replace HB := Lib.hid (HB.out.trans (hb.mono HB.out.size))
  clear hb
  clear c0 c1 c2 hlc
  rw [wl2]
  simp only
  obtain ⟨c0, c1, c2⟩ := box3 HR.out
  have hlc := HR.out.lt
  go_wp2_with fail
  refine (Fail_any w2 0 0 0 100 500 650 0 (by unfold I64; decide) (by unfold U64; decide) (by unfold U64; decide) (by unfold U64; decide) (by unfold U64; decide) (by unfold U64; decide) (by unfold U64; decide)).mono ?_
  rintro e v0 ⟨rfl, hb⟩
  replace HR := Lib.hid (HR.out.under hb)
  replace HB := Lib.hid (HB.out.trans (hb.mono HB.out.size))
  clear hb
  clear c0 c1 c2 hlc
  rw [fl1]
  simp only [faT]
  obtain ⟨V0, hV0⟩ : ∃ W, W = v0.alloc (.cells (tcells 1 0 100) 26) := ⟨_, rfl⟩
  have hbV0 : Below v0.heap.size v0 V0 := by rw [hV0]; exact (Below.refl _ v0).alloc (Nat.le_refl _) _
  replace HR := Lib.hid (HR.out.under hbV0)
  replace HB := Lib.hid (HB.out.trans (hbV0.mono HB.out.size))
  have HF0 := Lib.hid (show Blk V0 v0.heap.size (tcells 1 0 100) 26 from by rw [hV0]; exact blk_new v0 _)
  clear hbV0
  go_upto_region 5 with (fail)
  rw [← hV0]
  clear hV0
  obtain ⟨c0, c1, c2⟩ := box3 HR.out
  have hlc := HR.out.lt
  go_wp2_with fail
  refine (Fail_any V0 2 0 0 100 500 650 300 (by unfold I64; decide) (by unfold U64; decide) (by unfold U64; decide) (by unfold U64; decide) (by unfold U64; decide) (by unfold U64; decide) (by unfold U64; decide)).mono ?_
  rintro e v1 ⟨rfl, hb⟩
  replace HR := Lib.hid (HR.out.under hb)
  replace HF0 := Lib.hid (HF0.out.under hb)
  replace HB := Lib.hid (HB.out.trans (hb.mono HB.out.size))
  clear hb
  clear c0 c1 c2 hlc
  rw [fl2]
  simp only [faT]
  obtain ⟨V1, hV1⟩ : ∃ W, W = v1.alloc (.cells (tcells 2 0 0) 26) := ⟨_, rfl⟩
  have hbV1 : Below v1.heap.size v1 V1 := by rw [hV1]; exact (Below.refl _ v1).alloc (Nat.le_refl _) _
  replace HR := Lib.hid (HR.out.under hbV1)
  replace HF0 := Lib.hid (HF0.out.under hbV1)
  replace HB := Lib.hid (HB.out.trans (hbV1.mono HB.out.size))
  have HF1 := Lib.hid (show Blk V1 v1.heap.size (tcells 2 0 0) 26 from by rw [hV1]; exact blk_new v1 _)
  clear hbV1
  go_upto_region 6 with (fail)
  rw [← hV1]
  clear hV1
  obtain ⟨c0, c1, c2⟩ := box3 HF0.out
  have hlc := HF0.out.lt
  obtain ⟨d0, d1, d2⟩ := box3 HF1.out
  have hld := HF1.out.lt
  go_wp2_with fail
  refine (verdict_any V1 503).mono ?_
  rintro e u0 ⟨rfl, hb⟩
  replace HR := Lib.hid (HR.out.under hb)
  replace HF0 := Lib.hid (HF0.out.under hb)
  replace HF1 := Lib.hid (HF1.out.under hb)
  replace HB := Lib.hid (HB.out.trans (hb.mono HB.out.size))
  clear hb
  rw [vl1]
  clear c0 c1 c2 hlc
  clear d0 d1 d2 hld
  obtain ⟨c0, c1, c2⟩ := box3 HF0.out
  have hlc := HF0.out.lt
  obtain ⟨d0, d1, d2⟩ := box3 HF1.out
  have hld := HF1.out.lt
  go_wp2_with fail
  refine (verdict_any u0 400).mono ?_
  rintro e u1 ⟨rfl, hb⟩
  replace HR := Lib.hid (HR.out.under hb)
  replace HF0 := Lib.hid (HF0.out.under hb)
  replace HF1 := Lib.hid (HF1.out.under hb)
  replace HB := Lib.hid (HB.out.trans (hb.mono HB.out.size))
  clear hb
  rw [vl2]
  clear c0 c1 c2 hlc
  clear d0 d1 d2 hld
  obtain ⟨c0, c1, c2⟩ := box3 HF0.out
  have hlc := HF0.out.lt
  obtain ⟨d0, d1, d2⟩ := box3 HF1.out
  have hld := HF1.out.lt
  go_wp2
  go_ret
  exact ⟨rfl, HB.out⟩
end Go.Proofs.Ytclhclaeccoljaa
