/- SEGMENT: THE WALK OVER SegmentCutOff. -/
import Derived.Test.YtcefhcailhediaaDoorGax
namespace Go.Proofs.YtcefhcailhediaaDoor
open Go.RowKit
set_option maxRecDepth 100000
set_option linter.unusedVariables false
set_option linter.unusedSimpArgs false

set_option maxHeartbeats 4000000 in
theorem cutoff_any (w : World) (ad : Option Addr) (n cap : Nat) (down : Bool) (fuse fault : Int) (fs : List F) (size fu0 : Int) (adk : Option Addr) (nk capk : Nat) (ks : List Int) (hT : Tabs w) (hw : 3 < w.heap.size) (hsz : Num size) (hfu : Num fu0)
    (hD : DIn w ad n cap fuse fault fs) (hk : Ints w w.heap.size adk ks) (hnk : nk = ks.length) (hnk63 : nk ≤ 9223372036854775807) :
    Calls Tryd.prog 7 #[.agg (dcells (.slice ad n cap) down fuse fault), .int .i64 size, .int .i64 fu0, .slice adk nk capk] w fun e w' => e = .returned (.bool true) ∧ Below w.heap.size w w' := by
  have HT := Lib.hid hT
  have HD := Lib.hid hD
  have HK := Lib.hid (show IntsW w adk ks from hk)
  have Hnk := Lib.hid hnk
  have HW := Lib.hid (show Big w from hw)
  have HB := Lib.hid (Below.refl w.heap.size w)
  have Hfu := Lib.hid hfu
  obtain ⟨s0, s1⟩ := hsz
  obtain ⟨u0, u1⟩ := hfu
  clear hT hD hw hk hnk
  go_enter Tryd.func7, Tryd.ntmps7
  obtain ⟨W0, hW0⟩ : ∃ W, W = w.alloc (.cells (dcells (.slice ad n cap) down fuse fault) 27) := ⟨_, rfl⟩
  have hbW0 : Below w.heap.size w W0 := by rw [hW0]; exact (Below.refl _ w).alloc (Nat.le_refl _) _
  replace HT := Lib.hid (HT.out.under hbW0)
  replace HD := Lib.hid (HD.out.under hbW0)
  replace HW := Lib.hid (HW.out.under hbW0)
  replace HK := Lib.hid (HK.out.under hbW0)
  replace HB := Lib.hid (HB.out.trans (hbW0.mono HB.out.size))
  have HX := Lib.hid (show Blk W0 w.heap.size (dcells (.slice ad n cap) down fuse fault) 27 from by rw [hW0]; exact blk_new w _)
  clear hbW0
  go_upto_region 1 with (fail)
  rw [← hW0]
  clear hW0
  go_wp2_with fail
  refine (slives_any W0 HT.out HW.out).mono ?_
  rintro e w1 ⟨rfl, hb⟩
  replace HT := Lib.hid (HT.out.under hb)
  replace HD := Lib.hid (HD.out.under hb)
  replace HW := Lib.hid (HW.out.under hb)
  replace HK := Lib.hid (HK.out.under hb)
  replace HX := Lib.hid (HX.out.under hb)
  replace HB := Lib.hid (HB.out.trans (hb.mono HB.out.size))
  clear hb
  obtain ⟨c0, c1, c2, c3⟩ := box4' HX.out
  have hlc := HX.out.lt
  by_cases hR : Right fs
  rotate_left
  · have hcr := Crash_any w1 ad n cap down fuse fault fs HD.out adk nk capk ks HK.out Hnk.out hnk63
    have hcv : crv ⟨fs, down, fuse, fault⟩ ks = (zero, 6) := by unfold crv; rw [if_neg hR]
    rw [hcv] at hcr
    have Hcr := Lib.hid hcr
    clear hcr hcv hR
    go_wp2_with fail
    refine (Hcr.out).mono ?_
    rintro e w2 ⟨ad2, n2, cap2, rfl, hi2, hb, _⟩
    have HB2 := Lib.hid (HB.out.trans (hb.mono HB.out.size))
    have HB3 := Lib.hid (HB2.out.alloc HB2.out.size (.cells #[.slice ad2 n2 cap2, .bool false, .int .i64 0, .int .i64 0] 27))
    clear hi2 hb
    go_wp2
    go_ret
    exact ⟨rfl, HB3.out⟩
  have HR := Lib.hid hR
  clear hR
  go_wp2_with fail
  refine (crash_is w1 ad n cap down fuse fault fs HD.out HR.out adk nk capk ks HK.out Hnk.out hnk63).mono ?_
  rintro e w2 ⟨ad2, n2, cap2, rfl, hd2, hb⟩
  replace HT := Lib.hid (HT.out.under hb)
  replace HD := Lib.hid (HD.out.under hb)
  replace HW := Lib.hid (HW.out.under hb)
  replace HK := Lib.hid (HK.out.under hb)
  replace HX := Lib.hid (HX.out.under hb)
  replace HB := Lib.hid (HB.out.trans (hb.mono HB.out.size))
  have Hd2 := Lib.hid hd2
  clear hb hd2 c0 c1 c2 c3 hlc
  have HRs := Lib.hid (right_crash HR.out ks)
  have HSy := Lib.hid (syn_crash HR.out ks)
  obtain ⟨fs1, hfs1⟩ : ∃ x, crashL ks fs = x := ⟨_, rfl⟩
  rw [hfs1] at Hd2 HRs HSy
  clear hfs1
  obtain ⟨W2, hW2⟩ : ∃ W, W = w2.alloc (.cells #[.slice ad2 n2 cap2, .bool false, .int .i64 (-1), .int .i64 (-1)] 27) := ⟨_, rfl⟩
  have hbW2 : Below w2.heap.size w2 W2 := by rw [hW2]; exact (Below.refl _ w2).alloc (Nat.le_refl _) _
  replace HT := Lib.hid (HT.out.under hbW2)
  replace HD := Lib.hid (HD.out.under hbW2)
  replace HW := Lib.hid (HW.out.under hbW2)
  replace HK := Lib.hid (HK.out.under hbW2)
  replace HX := Lib.hid (HX.out.under hbW2)
  replace Hd2 := Lib.hid (Hd2.out.under hbW2)
  replace HB := Lib.hid (HB.out.trans (hbW2.mono HB.out.size))
  have HS := Lib.hid (show Blk W2 w2.heap.size #[.slice ad2 n2 cap2, .bool false, .int .i64 (-1), .int .i64 (-1)] 27 from by rw [hW2]; exact blk_new w2 _)
  clear hbW2
  go_upto_region 4 with (fail)
  rw [← hW2]
  clear hW2
  obtain ⟨c0, c1, c2, c3⟩ := box4' HS.out
  have hlc := HS.out.lt
  obtain ⟨⟨⟨⟨gs, dn, fu, fa⟩, sz, fr, nx, br⟩, rs, cd⟩, hr⟩ : ∃ r, openM ⟨fs1, false, -1, -1⟩ size = r := ⟨_, rfl⟩
  go_wp2_with fail
  refine (open_is (d := ⟨fs1, false, -1, -1⟩) hr W2 ad2 n2 cap2 Hd2.out HT.out HW.out).mono ?_
  rintro e w3 ⟨ad3, n3, cap3, ad4, cap4, rfl, hd3, hat3, hc3, hb⟩
  replace HT := Lib.hid (HT.out.under hb)
  replace HD := Lib.hid (HD.out.under hb)
  replace HW := Lib.hid (HW.out.under hb)
  replace HK := Lib.hid (HK.out.under hb)
  replace HX := Lib.hid (HX.out.under hb)
  replace Hd2 := Lib.hid (Hd2.out.under hb)
  replace HS := Lib.hid (HS.out.under hb)
  replace HB := Lib.hid (HB.out.trans (hb.mono HB.out.size))
  have Hd3 := Lib.hid (show DIn w3 ad3 n3 cap3 fu fa gs from hd3)
  have Hat3 := Lib.hid (show RAt w3 w3.heap.size ad4 rs from hat3)
  have Hr := Lib.hid hr
  clear hb hd3 hat3 hr c0 c1 c2 c3 hlc hc3
  obtain ⟨W3, hW3⟩ : ∃ W, W = w3.alloc (.cells #[.slice ad3 n3 cap3, .bool dn, .int .i64 fu, .int .i64 fa, .int .i64 sz, .int .u64 fr, .int .u64 nx, .bool br] 30) := ⟨_, rfl⟩
  have hbW3 : Below w3.heap.size w3 W3 := by rw [hW3]; exact (Below.refl _ w3).alloc (Nat.le_refl _) _
  replace HT := Lib.hid (HT.out.under hbW3)
  replace HD := Lib.hid (HD.out.under hbW3)
  replace HW := Lib.hid (HW.out.under hbW3)
  replace HK := Lib.hid (HK.out.under hbW3)
  replace HX := Lib.hid (HX.out.under hbW3)
  replace Hd2 := Lib.hid (Hd2.out.under hbW3)
  replace HS := Lib.hid (HS.out.under hbW3)
  replace Hd3 := Lib.hid (Hd3.out.under hbW3)
  replace Hat3 := Lib.hid (Hat3.out.under hbW3)
  replace HB := Lib.hid (HB.out.trans (hbW3.mono HB.out.size))
  have HA := Lib.hid (show Blk W3 w3.heap.size #[.slice ad3 n3 cap3, .bool dn, .int .i64 fu, .int .i64 fa, .int .i64 sz, .int .u64 fr, .int .u64 nx, .bool br] 30 from by rw [hW3]; exact blk_new w3 _)
  clear hbW3
  go_upto_region 7 with (fail)
  rw [← hW3]
  clear hW3
  obtain ⟨c0, c1, c2, c3⟩ := box4' HS.out
  have hlc := HS.out.lt
  obtain ⟨W4, hW4⟩ : ∃ W, W = W3.alloc (.cells #[.slice ad2 n2 cap2, .bool false, .int .i64 fu0, .int .i64 (-1)] 27) := ⟨_, rfl⟩
  have hbW4 : Below W3.heap.size W3 W4 := by rw [hW4]; exact (Below.refl _ W3).alloc (Nat.le_refl _) _
  replace HT := Lib.hid (HT.out.under hbW4)
  replace HD := Lib.hid (HD.out.under hbW4)
  replace HW := Lib.hid (HW.out.under hbW4)
  replace HK := Lib.hid (HK.out.under hbW4)
  replace HX := Lib.hid (HX.out.under hbW4)
  replace Hd2 := Lib.hid (Hd2.out.under hbW4)
  replace HS := Lib.hid (HS.out.under hbW4)
  replace Hd3 := Lib.hid (Hd3.out.under hbW4)
  replace Hat3 := Lib.hid (Hat3.out.under hbW4)
  replace HA := Lib.hid (HA.out.under hbW4)
  replace HB := Lib.hid (HB.out.trans (hbW4.mono HB.out.size))
  have HC := Lib.hid (show Blk W4 W3.heap.size #[.slice ad2 n2 cap2, .bool false, .int .i64 fu0, .int .i64 (-1)] 27 from by rw [hW4]; exact blk_new W3 _)
  clear hbW4
  go_upto_region 9 with (fail)
  rw [← hW4]
  clear hW4
  clear c0 c1 c2 c3 hlc
  obtain ⟨c0, c1, c2, c3⟩ := box4' HC.out
  have hlc := HC.out.lt
  have Hd2' := Lib.hid (show DIn W4 ad2 n2 cap2 fu0 (-1) fs1 from ⟨Hd2.out.i, Hd2.out.fit, u0, u1, by omega, by omega⟩)
  obtain ⟨⟨⟨⟨gs2, dn2, fu2, fa2⟩, sz2, fr2, nx2, br2⟩, rs2, cd2⟩, hr⟩ : ∃ r, openM ⟨fs1, false, fu0, -1⟩ size = r := ⟨_, rfl⟩
  go_wp2_with fail
  refine (open_is (d := ⟨fs1, false, fu0, -1⟩) hr W4 ad2 n2 cap2 Hd2'.out HT.out HW.out).mono ?_
  rintro e w5 ⟨ad5, n5, cap5, ad6, cap6, rfl, hd5, _, _, hb⟩
  replace HT := Lib.hid (HT.out.under hb)
  replace HD := Lib.hid (HD.out.under hb)
  replace HW := Lib.hid (HW.out.under hb)
  replace HK := Lib.hid (HK.out.under hb)
  replace HX := Lib.hid (HX.out.under hb)
  replace Hd2 := Lib.hid (Hd2.out.under hb)
  replace HS := Lib.hid (HS.out.under hb)
  replace Hd3 := Lib.hid (Hd3.out.under hb)
  replace Hat3 := Lib.hid (Hat3.out.under hb)
  replace HA := Lib.hid (HA.out.under hb)
  replace HC := Lib.hid (HC.out.under hb)
  replace Hd2' := Lib.hid (Hd2'.out.under hb)
  replace HB := Lib.hid (HB.out.trans (hb.mono HB.out.size))
  have Hd5 := Lib.hid (show DIn w5 ad5 n5 cap5 fu2 fa2 gs2 from hd5)
  have Hr2 := Lib.hid hr
  clear hb hd5 hr c0 c1 c2 c3 hlc
  obtain ⟨W5, hW5⟩ : ∃ W, W = w5.alloc (.cells #[.slice ad5 n5 cap5, .bool dn2, .int .i64 fu2, .int .i64 fa2, .int .i64 sz2, .int .u64 fr2, .int .u64 nx2, .bool br2] 30) := ⟨_, rfl⟩
  have hbW5 : Below w5.heap.size w5 W5 := by rw [hW5]; exact (Below.refl _ w5).alloc (Nat.le_refl _) _
  replace HT := Lib.hid (HT.out.under hbW5)
  replace HD := Lib.hid (HD.out.under hbW5)
  replace HW := Lib.hid (HW.out.under hbW5)
  replace HK := Lib.hid (HK.out.under hbW5)
  replace HX := Lib.hid (HX.out.under hbW5)
  replace Hd2 := Lib.hid (Hd2.out.under hbW5)
  replace HS := Lib.hid (HS.out.under hbW5)
  replace Hd3 := Lib.hid (Hd3.out.under hbW5)
  replace Hat3 := Lib.hid (Hat3.out.under hbW5)
  replace HA := Lib.hid (HA.out.under hbW5)
  replace HC := Lib.hid (HC.out.under hbW5)
  replace Hd2' := Lib.hid (Hd2'.out.under hbW5)
  replace Hd5 := Lib.hid (Hd5.out.under hbW5)
  replace HB := Lib.hid (HB.out.trans (hbW5.mono HB.out.size))
  have HE := Lib.hid (show Blk W5 w5.heap.size #[.slice ad5 n5 cap5, .bool dn2, .int .i64 fu2, .int .i64 fa2, .int .i64 sz2, .int .u64 fr2, .int .u64 nx2, .bool br2] 30 from by rw [hW5]; exact blk_new w5 _)
  clear hbW5
  go_upto_region 10 with (fail)
  rw [← hW5]
  clear hW5
  by_cases hcd : cd = 0
  rotate_left
  · have hc1 : (cd != 0) = true := by simp [hcd]
    clear hcd
    go_wp2
    go_ret
    exact ⟨rfl, HB.out⟩
  subst hcd
  have ho := opened Hr.out
  have hs : 1 ≤ size ∧ size ≤ 262144 := by have h1 := ho.R.2.1; have h2 := ho.sz; simp only at h1 h2; omega
  have hca := cut_again HRs.out HSy.out hs Hr2.out
  have Hlen := Lib.hid ho.len
  have Hca := Lib.hid hca
  clear ho hs
  rcases hca with rfl | ⟨rfl, _⟩
  · clear Hca
    go_wp2
    go_ret
    exact ⟨rfl, HB.out⟩
  have hq := Hca.out.resolve_left (by decide)
  have HRg := Lib.hid (show Right gs2 from hq.2.1)
  have Hcr := Lib.hid (show crashL [] gs2 = gs2 from hq.2.2.1)
  have Hop := Lib.hid (show openM ⟨gs2, false, -1, -1⟩ size = (⟨⟨gs, dn, fu, fa⟩, sz, fr, nx, br⟩, rs, 0) from by rw [← Hr.out]; exact hq.2.2.2)
  clear hq
  clear Hca
  obtain ⟨c0, c1, c2, c3, c4, c5, c6, c7⟩ := box8 HE.out
  have hlc := HE.out.lt
  go_wp2_with fail
  refine (crash_is W5 ad5 n5 cap5 dn2 fu2 fa2 gs2 Hd5.out HRg.out none 0 0 [] (Ints.nil _ _ _) rfl (by omega)).mono ?_
  rintro e w6 ⟨ad7, n7, cap7, rfl, hd7, hb⟩
  replace HT := Lib.hid (HT.out.under hb)
  replace HD := Lib.hid (HD.out.under hb)
  replace HW := Lib.hid (HW.out.under hb)
  replace HK := Lib.hid (HK.out.under hb)
  replace HX := Lib.hid (HX.out.under hb)
  replace Hd2 := Lib.hid (Hd2.out.under hb)
  replace HS := Lib.hid (HS.out.under hb)
  replace Hd3 := Lib.hid (Hd3.out.under hb)
  replace Hat3 := Lib.hid (Hat3.out.under hb)
  replace HA := Lib.hid (HA.out.under hb)
  replace HC := Lib.hid (HC.out.under hb)
  replace Hd2' := Lib.hid (Hd2'.out.under hb)
  replace Hd5 := Lib.hid (Hd5.out.under hb)
  replace HE := Lib.hid (HE.out.under hb)
  replace HB := Lib.hid (HB.out.trans (hb.mono HB.out.size))
  rw [Hcr.out] at hd7
  have Hd7 := Lib.hid hd7
  clear hb hd7 c0 c1 c2 c3 c4 c5 c6 c7 hlc
  obtain ⟨W6, hW6⟩ : ∃ W, W = w6.alloc (.cells #[.slice ad7 n7 cap7, .bool false, .int .i64 (-1), .int .i64 (-1)] 27) := ⟨_, rfl⟩
  have hbW6 : Below w6.heap.size w6 W6 := by rw [hW6]; exact (Below.refl _ w6).alloc (Nat.le_refl _) _
  replace HT := Lib.hid (HT.out.under hbW6)
  replace HD := Lib.hid (HD.out.under hbW6)
  replace HW := Lib.hid (HW.out.under hbW6)
  replace HK := Lib.hid (HK.out.under hbW6)
  replace HX := Lib.hid (HX.out.under hbW6)
  replace Hd2 := Lib.hid (Hd2.out.under hbW6)
  replace HS := Lib.hid (HS.out.under hbW6)
  replace Hd3 := Lib.hid (Hd3.out.under hbW6)
  replace Hat3 := Lib.hid (Hat3.out.under hbW6)
  replace HA := Lib.hid (HA.out.under hbW6)
  replace HC := Lib.hid (HC.out.under hbW6)
  replace Hd2' := Lib.hid (Hd2'.out.under hbW6)
  replace Hd5 := Lib.hid (Hd5.out.under hbW6)
  replace HE := Lib.hid (HE.out.under hbW6)
  replace Hd7 := Lib.hid (Hd7.out.under hbW6)
  replace HB := Lib.hid (HB.out.trans (hbW6.mono HB.out.size))
  have HG := Lib.hid (show Blk W6 w6.heap.size #[.slice ad7 n7 cap7, .bool false, .int .i64 (-1), .int .i64 (-1)] 27 from by rw [hW6]; exact blk_new w6 _)
  clear hbW6
  go_upto_region 13 with (fail)
  rw [← hW6]
  clear hW6
  obtain ⟨c0, c1, c2, c3⟩ := box4' HG.out
  have hlc := HG.out.lt
  go_wp2_with fail
  refine (open_is Hop.out W6 ad7 n7 cap7 Hd7.out HT.out HW.out).mono ?_
  rintro e w7 ⟨ad8, n8, cap8, ad9, cap9, rfl, hd8, hat8, _, hb⟩
  replace HT := Lib.hid (HT.out.under hb)
  replace HD := Lib.hid (HD.out.under hb)
  replace HW := Lib.hid (HW.out.under hb)
  replace HK := Lib.hid (HK.out.under hb)
  replace HX := Lib.hid (HX.out.under hb)
  replace Hd2 := Lib.hid (Hd2.out.under hb)
  replace HS := Lib.hid (HS.out.under hb)
  replace Hd3 := Lib.hid (Hd3.out.under hb)
  replace Hat3 := Lib.hid (Hat3.out.under hb)
  replace HA := Lib.hid (HA.out.under hb)
  replace HC := Lib.hid (HC.out.under hb)
  replace Hd2' := Lib.hid (Hd2'.out.under hb)
  replace Hd5 := Lib.hid (Hd5.out.under hb)
  replace HE := Lib.hid (HE.out.under hb)
  replace Hd7 := Lib.hid (Hd7.out.under hb)
  replace HG := Lib.hid (HG.out.under hb)
  replace HB := Lib.hid (HB.out.trans (hb.mono HB.out.size))
  have Hd8 := Lib.hid (show DIn w7 ad8 n8 cap8 fu fa gs from hd8)
  have Hat8 := Lib.hid (show RAt w7 w7.heap.size ad9 rs from hat8)
  clear hb hd8 hat8 c0 c1 c2 c3 hlc
  obtain ⟨W7, hW7⟩ : ∃ W, W = w7.alloc (.cells #[.slice ad8 n8 cap8, .bool dn, .int .i64 fu, .int .i64 fa, .int .i64 sz, .int .u64 fr, .int .u64 nx, .bool br] 30) := ⟨_, rfl⟩
  have hbW7 : Below w7.heap.size w7 W7 := by rw [hW7]; exact (Below.refl _ w7).alloc (Nat.le_refl _) _
  replace HT := Lib.hid (HT.out.under hbW7)
  replace HD := Lib.hid (HD.out.under hbW7)
  replace HW := Lib.hid (HW.out.under hbW7)
  replace HK := Lib.hid (HK.out.under hbW7)
  replace HX := Lib.hid (HX.out.under hbW7)
  replace Hd2 := Lib.hid (Hd2.out.under hbW7)
  replace HS := Lib.hid (HS.out.under hbW7)
  replace Hd3 := Lib.hid (Hd3.out.under hbW7)
  replace Hat3 := Lib.hid (Hat3.out.under hbW7)
  replace HA := Lib.hid (HA.out.under hbW7)
  replace HC := Lib.hid (HC.out.under hbW7)
  replace Hd2' := Lib.hid (Hd2'.out.under hbW7)
  replace Hd5 := Lib.hid (Hd5.out.under hbW7)
  replace HE := Lib.hid (HE.out.under hbW7)
  replace Hd7 := Lib.hid (Hd7.out.under hbW7)
  replace HG := Lib.hid (HG.out.under hbW7)
  replace Hd8 := Lib.hid (Hd8.out.under hbW7)
  replace Hat8 := Lib.hid (Hat8.out.under hbW7)
  replace HB := Lib.hid (HB.out.trans (hbW7.mono HB.out.size))
  have HF := Lib.hid (show Blk W7 w7.heap.size #[.slice ad8 n8 cap8, .bool dn, .int .i64 fu, .int .i64 fa, .int .i64 sz, .int .u64 fr, .int .u64 nx, .bool br] 30 from by rw [hW7]; exact blk_new w7 _)
  clear hbW7
  go_upto_region 14 with (fail)
  rw [← hW7]
  clear hW7
  obtain ⟨c0, c1, c2, c3, c4, c5, c6, c7⟩ := box8 HA.out
  have hlc := HA.out.lt
  obtain ⟨d0, d1, d2, d3, d4, d5, d6, d7⟩ := box8 HF.out
  have hld := HF.out.lt
  go_wp2_with fail
  refine (lsame_yes W7 ad3 ad8 n3 cap3 n8 cap8 ⟨⟨gs, dn, fu, fa⟩, sz, fr, nx, br⟩ Hd3.out.i Hd8.out.i (by have h1 := Hd3.out.i.1; have h2 := (opened Hop.out).R.1.1; simp only at h2; omega)).mono ?_
  rintro e w8 ⟨rfl, hb⟩
  replace HT := Lib.hid (HT.out.under hb)
  replace HD := Lib.hid (HD.out.under hb)
  replace HW := Lib.hid (HW.out.under hb)
  replace HK := Lib.hid (HK.out.under hb)
  replace HX := Lib.hid (HX.out.under hb)
  replace Hd2 := Lib.hid (Hd2.out.under hb)
  replace HS := Lib.hid (HS.out.under hb)
  replace Hd3 := Lib.hid (Hd3.out.under hb)
  replace Hat3 := Lib.hid (Hat3.out.under hb)
  replace HA := Lib.hid (HA.out.under hb)
  replace HC := Lib.hid (HC.out.under hb)
  replace Hd2' := Lib.hid (Hd2'.out.under hb)
  replace Hd5 := Lib.hid (Hd5.out.under hb)
  replace HE := Lib.hid (HE.out.under hb)
  replace Hd7 := Lib.hid (Hd7.out.under hb)
  replace HG := Lib.hid (HG.out.under hb)
  replace Hd8 := Lib.hid (Hd8.out.under hb)
  replace Hat8 := Lib.hid (Hat8.out.under hb)
  replace HF := Lib.hid (HF.out.under hb)
  replace HB := Lib.hid (HB.out.trans (hb.mono HB.out.size))
  clear hb c0 c1 c2 c3 c4 c5 c6 c7 hlc d0 d1 d2 d3 d4 d5 d6 d7 hld
  go_wp2_with fail
  refine (rsame_yes w8 ad4 ad9 cap4 cap9 rs Hat3.out Hat8.out (by have := Hlen.out; omega)).mono ?_
  rintro e w9 ⟨rfl, hb⟩
  replace HT := Lib.hid (HT.out.under hb)
  replace HD := Lib.hid (HD.out.under hb)
  replace HW := Lib.hid (HW.out.under hb)
  replace HK := Lib.hid (HK.out.under hb)
  replace HX := Lib.hid (HX.out.under hb)
  replace Hd2 := Lib.hid (Hd2.out.under hb)
  replace HS := Lib.hid (HS.out.under hb)
  replace Hd3 := Lib.hid (Hd3.out.under hb)
  replace Hat3 := Lib.hid (Hat3.out.under hb)
  replace HA := Lib.hid (HA.out.under hb)
  replace HC := Lib.hid (HC.out.under hb)
  replace Hd2' := Lib.hid (Hd2'.out.under hb)
  replace Hd5 := Lib.hid (Hd5.out.under hb)
  replace HE := Lib.hid (HE.out.under hb)
  replace Hd7 := Lib.hid (Hd7.out.under hb)
  replace HG := Lib.hid (HG.out.under hb)
  replace Hd8 := Lib.hid (Hd8.out.under hb)
  replace Hat8 := Lib.hid (Hat8.out.under hb)
  replace HF := Lib.hid (HF.out.under hb)
  replace HB := Lib.hid (HB.out.trans (hb.mono HB.out.size))
  clear hb
  go_wp2
  go_ret
  exact ⟨rfl, HB.out⟩
end Go.Proofs.YtcefhcailhediaaDoor
