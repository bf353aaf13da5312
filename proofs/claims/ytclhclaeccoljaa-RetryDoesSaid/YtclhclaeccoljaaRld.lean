/- RETRY: THE WALK OVER RetryDoes. -/
import Derived.Test.YtclhclaeccoljaaRf
namespace Go.Proofs.Ytclhclaeccoljaa
open Go.RowKit
set_option linter.unusedVariables false
set_option linter.unusedSimpArgs false


set_option maxHeartbeats 4000000 in
theorem does_any (w : World) (st f m t k s x now : Int) (hk : I64 k) (hs : U64 s) (hx : U64 x) (hf : U64 f) (hm : U64 m) (ht : U64 t) (hn : U64 now) :
    Calls Try.prog 3 #[.int .i64 st, .agg (rcells f m t), .agg (tcells k s x), .int .u64 now] w fun e w' => e = .returned (.bool true) ∧ Below w.heap.size w w' := by
  have HB := Lib.hid (Below.refl w.heap.size w)
  go_enter Try.func3, Try.ntmps3
  obtain ⟨W0, hW0⟩ : ∃ W, W = (w.alloc (.cells (rcells f m t) 24)).alloc (.cells (tcells k s x) 26) := ⟨_, rfl⟩
  have hbW0 : Below w.heap.size w W0 := by rw [hW0]; exact ((Below.refl _ w).alloc (Nat.le_refl _) _).alloc (by simp) _
  have HR := Lib.hid (show Blk W0 w.heap.size (rcells f m t) 24 from by rw [hW0]; exact blk_alloc (blk_new w _) _)
  have HT := Lib.hid (show Blk W0 (w.heap.size + 1) (tcells k s x) 26 from by rw [hW0]; have := blk_new (w.alloc (.cells (rcells f m t) 24)) (.cells (tcells k s x) 26); simpa [Blk] using this)
  replace HB := Lib.hid (HB.out.trans (hbW0.mono HB.out.size))
  clear hbW0
  go_upto_region 1 with (fail)
  rw [← hW0]
  clear hW0
  obtain ⟨c0, c1, c2⟩ := box3 HR.out
  have hlc := HR.out.lt
  obtain ⟨d0, d1, d2⟩ := box3 HT.out
  have hld := HT.out.lt
  go_wp2_with fail
  refine (Wait_any W0 f m t k hk.2).mono ?_
  rintro e w1 ⟨rfl, hb⟩
  replace HR := Lib.hid (HR.out.under hb)
  replace HT := Lib.hid (HT.out.under hb)
  replace HB := Lib.hid (HB.out.trans (hb.mono HB.out.size))
  clear hb
  clear c0 c1 c2 hlc
  clear d0 d1 d2 hld
  obtain ⟨c0, c1, c2⟩ := box3 HR.out
  have hlc := HR.out.lt
  obtain ⟨d0, d1, d2⟩ := box3 HT.out
  have hld := HT.out.lt
  go_wp2_with fail
  refine (RWait_any w1 f m t k hk.2).mono ?_
  rintro e w2 ⟨rfl, hb⟩
  replace HR := Lib.hid (HR.out.under hb)
  replace HT := Lib.hid (HT.out.under hb)
  replace HB := Lib.hid (HB.out.trans (hb.mono HB.out.size))
  clear hb
  clear c0 c1 c2 hlc
  clear d0 d1 d2 hld
  generalize waitA f m t k = wa
  obtain ⟨c0, c1, c2⟩ := box3 HR.out
  have hlc := HR.out.lt
  obtain ⟨d0, d1, d2⟩ := box3 HT.out
  have hld := HT.out.lt
  go_wp2_with fail
  refine (Fail_any w2 k s x f m t now hk hs hx hf hm ht hn).mono ?_
  rintro e v0 ⟨rfl, hb⟩
  replace HR := Lib.hid (HR.out.under hb)
  replace HT := Lib.hid (HT.out.under hb)
  replace HB := Lib.hid (HB.out.trans (hb.mono HB.out.size))
  clear hb
  clear c0 c1 c2 hlc
  clear d0 d1 d2 hld
  obtain ⟨⟨k2, s2, x2, ov, co⟩, hfa⟩ : ∃ a, failA k s x f m t now = a := ⟨_, rfl⟩
  have Hfa := Lib.hid hfa
  clear hfa
  rw [Hfa.out]
  simp only [faT]
  obtain ⟨V0, hV0⟩ : ∃ W, W = v0.alloc (.cells (tcells k2 s2 x2) 26) := ⟨_, rfl⟩
  have hbV0 : Below v0.heap.size v0 V0 := by rw [hV0]; exact (Below.refl _ v0).alloc (Nat.le_refl _) _
  replace HR := Lib.hid (HR.out.under hbV0)
  replace HT := Lib.hid (HT.out.under hbV0)
  replace HB := Lib.hid (HB.out.trans (hbV0.mono HB.out.size))
  have HF0 := Lib.hid (show Blk V0 v0.heap.size (tcells k2 s2 x2) 26 from by rw [hV0]; exact blk_new v0 _)
  clear hbV0
  go_upto_region 4 with (fail)
  rw [← hV0]
  clear hV0
  obtain ⟨c0, c1, c2⟩ := box3 HR.out
  have hlc := HR.out.lt
  obtain ⟨d0, d1, d2⟩ := box3 HT.out
  have hld := HT.out.lt
  go_wp2_with fail
  refine (RFail_any V0 k s x f m t now hk hs hx hf hm ht hn).mono ?_
  rintro e v1 ⟨rfl, hb⟩
  replace HR := Lib.hid (HR.out.under hb)
  replace HT := Lib.hid (HT.out.under hb)
  replace HF0 := Lib.hid (HF0.out.under hb)
  replace HB := Lib.hid (HB.out.trans (hb.mono HB.out.size))
  clear hb
  clear c0 c1 c2 hlc
  clear d0 d1 d2 hld
  rw [Hfa.out]
  simp only [faT]
  obtain ⟨V1, hV1⟩ : ∃ W, W = v1.alloc (.cells (tcells k2 s2 x2) 26) := ⟨_, rfl⟩
  have hbV1 : Below v1.heap.size v1 V1 := by rw [hV1]; exact (Below.refl _ v1).alloc (Nat.le_refl _) _
  replace HR := Lib.hid (HR.out.under hbV1)
  replace HT := Lib.hid (HT.out.under hbV1)
  replace HF0 := Lib.hid (HF0.out.under hbV1)
  replace HB := Lib.hid (HB.out.trans (hbV1.mono HB.out.size))
  have HF1 := Lib.hid (show Blk V1 v1.heap.size (tcells k2 s2 x2) 26 from by rw [hV1]; exact blk_new v1 _)
  clear hbV1
  go_upto_region 5 with (fail)
  rw [← hV1]
  clear hV1
  obtain ⟨c0, c1, c2⟩ := box3 HF0.out
  have hlc := HF0.out.lt
  obtain ⟨d0, d1, d2⟩ := box3 HF1.out
  have hld := HF1.out.lt
  go_wp2_with fail
  refine (lives_any V1).mono ?_
  rintro e u0 ⟨rfl, hb⟩
  replace HR := Lib.hid (HR.out.under hb)
  replace HT := Lib.hid (HT.out.under hb)
  replace HF0 := Lib.hid (HF0.out.under hb)
  replace HF1 := Lib.hid (HF1.out.under hb)
  replace HB := Lib.hid (HB.out.trans (hb.mono HB.out.size))
  clear hb
  clear c0 c1 c2 hlc
  clear d0 d1 d2 hld
  obtain ⟨c0, c1, c2⟩ := box3 HF0.out
  have hlc := HF0.out.lt
  obtain ⟨d0, d1, d2⟩ := box3 HF1.out
  have hld := HF1.out.lt
  go_wp2_with fail
  refine (verdict_any u0 st).mono ?_
  rintro e u1 ⟨rfl, hb⟩
  replace HR := Lib.hid (HR.out.under hb)
  replace HT := Lib.hid (HT.out.under hb)
  replace HF0 := Lib.hid (HF0.out.under hb)
  replace HF1 := Lib.hid (HF1.out.under hb)
  replace HB := Lib.hid (HB.out.trans (hb.mono HB.out.size))
  clear hb
  clear c0 c1 c2 hlc
  clear d0 d1 d2 hld
  obtain ⟨c0, c1, c2⟩ := box3 HF0.out
  have hlc := HF0.out.lt
  obtain ⟨d0, d1, d2⟩ := box3 HF1.out
  have hld := HF1.out.lt
  obtain ⟨ve, hve⟩ : ∃ x, verM st = x := ⟨_, rfl⟩
  have Hve := Lib.hid hve
  clear hve
  rw [Hve.out]
  go_wp2_with fail
  refine (rverdict_any u1 st).mono ?_
  rintro e u2 ⟨rfl, hb⟩
  replace HR := Lib.hid (HR.out.under hb)
  replace HT := Lib.hid (HT.out.under hb)
  replace HF0 := Lib.hid (HF0.out.under hb)
  replace HF1 := Lib.hid (HF1.out.under hb)
  replace HB := Lib.hid (HB.out.trans (hb.mono HB.out.size))
  clear hb
  clear c0 c1 c2 hlc
  clear d0 d1 d2 hld
  obtain ⟨c0, c1, c2⟩ := box3 HF0.out
  have hlc := HF0.out.lt
  obtain ⟨d0, d1, d2⟩ := box3 HF1.out
  have hld := HF1.out.lt
  rw [Hve.out]
  go_wp2
  go_ret
  exact ⟨rfl, HB.out⟩
end Go.Proofs.Ytclhclaeccoljaa
