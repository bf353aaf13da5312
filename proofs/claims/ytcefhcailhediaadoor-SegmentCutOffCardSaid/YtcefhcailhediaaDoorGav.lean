/- SEGMENT: THE WALK OVER SegmentAgain. -/
import Derived.Test.YtcefhcailhediaaDoorGau
namespace Go.Proofs.YtcefhcailhediaaDoor
open Go.RowKit
set_option maxRecDepth 100000
set_option linter.unusedVariables false
set_option linter.unusedSimpArgs false

set_option maxHeartbeats 4000000 in
theorem again_any (w : World) (ad : Option Addr) (n cap : Nat) (down : Bool) (fuse fault : Int) (fs : List F) (size : Int) (hT : Tabs w) (hw : 3 < w.heap.size) (hsz : Num size) (hD : DIn w ad n cap fuse fault fs) :
    Calls Tryd.prog 5 #[.agg (dcells (.slice ad n cap) down fuse fault), .int .i64 size] w fun e w' => e = .returned (.bool true) ∧ Below w.heap.size w w' := by
  have HT := Lib.hid hT
  have HD := Lib.hid hD
  have HW := Lib.hid (show Big w from hw)
  have HB := Lib.hid (Below.refl w.heap.size w)
  obtain ⟨s0, s1⟩ := hsz
  clear hT hD hw
  go_enter Tryd.func5, Tryd.ntmps5
  obtain ⟨W0, hW0⟩ : ∃ W, W = w.alloc (.cells (dcells (.slice ad n cap) down fuse fault) 27) := ⟨_, rfl⟩
  have hbW0 : Below w.heap.size w W0 := by rw [hW0]; exact (Below.refl _ w).alloc (Nat.le_refl _) _
  replace HT := Lib.hid (HT.out.under hbW0)
  replace HD := Lib.hid (HD.out.under hbW0)
  replace HW := Lib.hid (HW.out.under hbW0)
  replace HB := Lib.hid (HB.out.trans (hbW0.mono HB.out.size))
  have HX := Lib.hid (show Blk W0 w.heap.size (dcells (.slice ad n cap) down fuse fault) 27 from by rw [hW0]; exact blk_new w _)
  clear hbW0
  go_upto_region 1 with (fail)
  rw [← hW0]
  clear hW0
  go_wp2_with fail
  refine (slives_any W0 HT.out HW.out).mono ?_
  rintro e w1 ⟨rfl, hb⟩
  replace HT := Lib.hid (HT.out.under hb)
  replace HD := Lib.hid (HD.out.under hb)
  replace HW := Lib.hid (HW.out.under hb)
  replace HX := Lib.hid (HX.out.under hb)
  replace HB := Lib.hid (HB.out.trans (hb.mono HB.out.size))
  clear hb
  obtain ⟨c0, c1, c2, c3⟩ := box4' HX.out
  have hlc := HX.out.lt
  obtain ⟨⟨⟨⟨gs, dn, fu, fa⟩, sz, fr, nx, br⟩, rs, cd⟩, hr⟩ : ∃ r, openM ⟨fs, down, fuse, fault⟩ size = r := ⟨_, rfl⟩
  go_wp2_with fail
  refine (open_is (d := ⟨fs, down, fuse, fault⟩) hr w1 ad n cap HD.out HT.out HW.out).mono ?_
  rintro e w2 ⟨ad2, n2, cap2, ad3, cap3, rfl, hd2, hat2, hc3, hb⟩
  replace HT := Lib.hid (HT.out.under hb)
  replace HD := Lib.hid (HD.out.under hb)
  replace HW := Lib.hid (HW.out.under hb)
  replace HX := Lib.hid (HX.out.under hb)
  replace HB := Lib.hid (HB.out.trans (hb.mono HB.out.size))
  have Hd2 := Lib.hid (show DIn w2 ad2 n2 cap2 fu fa gs from hd2)
  have Hat2 := Lib.hid (show RAt w2 w2.heap.size ad3 rs from hat2)
  have Hr := Lib.hid hr
  clear hb hd2 hat2 hr c0 c1 c2 c3 hlc hc3
  obtain ⟨W2, hW2⟩ : ∃ W, W = w2.alloc (.cells #[.slice ad2 n2 cap2, .bool dn, .int .i64 fu, .int .i64 fa, .int .i64 sz, .int .u64 fr, .int .u64 nx, .bool br] 30) := ⟨_, rfl⟩
  have hbW2 : Below w2.heap.size w2 W2 := by rw [hW2]; exact (Below.refl _ w2).alloc (Nat.le_refl _) _
  replace HT := Lib.hid (HT.out.under hbW2)
  replace HD := Lib.hid (HD.out.under hbW2)
  replace HW := Lib.hid (HW.out.under hbW2)
  replace HX := Lib.hid (HX.out.under hbW2)
  replace Hd2 := Lib.hid (Hd2.out.under hbW2)
  replace Hat2 := Lib.hid (Hat2.out.under hbW2)
  replace HB := Lib.hid (HB.out.trans (hbW2.mono HB.out.size))
  have HQ := Lib.hid (show Blk W2 w2.heap.size #[.slice ad2 n2 cap2, .bool dn, .int .i64 fu, .int .i64 fa, .int .i64 sz, .int .u64 fr, .int .u64 nx, .bool br] 30 from by rw [hW2]; exact blk_new w2 _)
  clear hbW2
  go_upto_region 4 with (fail)
  rw [← hW2]
  clear hW2
  by_cases hcd : cd = 0
  rotate_left
  · have e := openM_err Hr.out hcd
    subst e
    have hc1 : (cd != 0) = true := by simp [hcd]
    clear hcd
    go_wp2
    go_ret
    exact ⟨rfl, HB.out⟩
  subst hcd
  have ho := opened Hr.out
  obtain ⟨F, hF1, hF2, hF3, hF4⟩ := ho.seq
  simp only at hF1 hF2
  obtain ⟨N, hN⟩ : ∃ N, rs.length = N := ⟨_, rfl⟩
  have hNb : N ≤ 16777216 := by rw [← hN]; exact ho.len
  have hF5 : F + N ≤ 4611686018427387904 := by rw [← hN]; exact hF3
  have e1 : dn = false := ho.dn
  have e2 : br = false := ho.br
  have e3 : sz = size := ho.sz
  subst e1 e2
  obtain rfl := e3.symm
  have Ho := Lib.hid ho
  have HN := Lib.hid hN
  have HF1 := Lib.hid hF1
  have HF2 := Lib.hid (show nx = fr + (N : Int) by rw [hF2, hF1, hN]; omega)
  have HF4 := Lib.hid (show ∀ (i : Nat) (r : Rec), rs[i]? = some r → (r.seq : Int) = fr + (i : Int) from fun i r hi => by have := hF4 i r hi; rw [hF1]; omega)
  have hfr0 : 0 ≤ fr := by omega
  have hfr1 : fr ≤ 4611686018427387904 := by omega
  have hfn : fr + (N : Int) ≤ 4611686018427387904 := by omega
  clear ho hF1 hF2 hF3 hF4 hN hF5 Hr
  rw [HN.out]
  obtain ⟨c0, c1, c2, c3, c4, c5, c6, c7⟩ := box8 HQ.out
  have hlc := HQ.out.lt
  go_wp2_with fail
  refine (open_is Ho.out.again W2 ad2 n2 cap2 Hd2.out HT.out HW.out).mono ?_
  rintro e w3 ⟨ad4, n4, cap4, ad5, cap5, rfl, hd4, hat4, hc5, hb⟩
  replace HT := Lib.hid (HT.out.under hb)
  replace HD := Lib.hid (HD.out.under hb)
  replace HW := Lib.hid (HW.out.under hb)
  replace HX := Lib.hid (HX.out.under hb)
  replace Hd2 := Lib.hid (Hd2.out.under hb)
  replace Hat2 := Lib.hid (Hat2.out.under hb)
  replace HQ := Lib.hid (HQ.out.under hb)
  replace HB := Lib.hid (HB.out.trans (hb.mono HB.out.size))
  rw [HN.out]
  have Hd4 := Lib.hid (show DIn w3 ad4 n4 cap4 fu fa gs from hd4)
  have Hat4 := Lib.hid (show RAt w3 w3.heap.size ad5 rs from hat4)
  clear hb hd4 hat4 hc5 c0 c1 c2 c3 c4 c5 c6 c7 hlc
  obtain ⟨W3, hW3⟩ : ∃ W, W = w3.alloc (.cells #[.slice ad4 n4 cap4, .bool false, .int .i64 fu, .int .i64 fa, .int .i64 size, .int .u64 fr, .int .u64 nx, .bool false] 30) := ⟨_, rfl⟩
  have hbW3 : Below w3.heap.size w3 W3 := by rw [hW3]; exact (Below.refl _ w3).alloc (Nat.le_refl _) _
  replace HT := Lib.hid (HT.out.under hbW3)
  replace HD := Lib.hid (HD.out.under hbW3)
  replace HW := Lib.hid (HW.out.under hbW3)
  replace HX := Lib.hid (HX.out.under hbW3)
  replace Hd2 := Lib.hid (Hd2.out.under hbW3)
  replace Hat2 := Lib.hid (Hat2.out.under hbW3)
  replace HQ := Lib.hid (HQ.out.under hbW3)
  replace Hd4 := Lib.hid (Hd4.out.under hbW3)
  replace Hat4 := Lib.hid (Hat4.out.under hbW3)
  replace HB := Lib.hid (HB.out.trans (hbW3.mono HB.out.size))
  have HP := Lib.hid (show Blk W3 w3.heap.size #[.slice ad4 n4 cap4, .bool false, .int .i64 fu, .int .i64 fa, .int .i64 size, .int .u64 fr, .int .u64 nx, .bool false] 30 from by rw [hW3]; exact blk_new w3 _)
  clear hbW3
  go_upto_region 7 with (fail)
  rw [← hW3]
  clear hW3
  obtain ⟨c0, c1, c2, c3, c4, c5, c6, c7⟩ := box8 HQ.out
  have hlc := HQ.out.lt
  go_wp2_with fail
  refine (records_is W3 ad2 n2 cap2 ⟨⟨gs, false, fu, fa⟩, size, fr, nx, false⟩ (lin_of Hd2.out Ho.out.R hfr0) Ho.out.R rfl rfl Ho.out.rd HT.out HW.out).mono ?_
  rintro e w4 ⟨ad6, cap6, rfl, hat6, hb⟩
  replace HT := Lib.hid (HT.out.under hb)
  replace HD := Lib.hid (HD.out.under hb)
  replace HW := Lib.hid (HW.out.under hb)
  replace HX := Lib.hid (HX.out.under hb)
  replace Hd2 := Lib.hid (Hd2.out.under hb)
  replace Hat2 := Lib.hid (Hat2.out.under hb)
  replace HQ := Lib.hid (HQ.out.under hb)
  replace Hd4 := Lib.hid (Hd4.out.under hb)
  replace Hat4 := Lib.hid (Hat4.out.under hb)
  replace HP := Lib.hid (HP.out.under hb)
  replace HB := Lib.hid (HB.out.trans (hb.mono HB.out.size))
  rw [HN.out]
  have Hat6 := Lib.hid hat6
  clear hb hat6 c0 c1 c2 c3 c4 c5 c6 c7 hlc
  obtain ⟨c0, c1, c2, c3, c4, c5, c6, c7⟩ := box8 HQ.out
  have hlc := HQ.out.lt
  obtain ⟨d0, d1, d2, d3, d4, d5, d6, d7⟩ := box8 HP.out
  have hld := HP.out.lt
  go_wp2_with fail
  refine (lsame_yes w4 ad2 ad4 n2 cap2 n4 cap4 ⟨⟨gs, false, fu, fa⟩, size, fr, nx, false⟩ Hd2.out.i Hd4.out.i (by have h1 := Hd2.out.i.1; have h2 := Ho.out.R.1.1; simp only at h2; omega)).mono ?_
  rintro e w5 ⟨rfl, hb⟩
  replace HT := Lib.hid (HT.out.under hb)
  replace HD := Lib.hid (HD.out.under hb)
  replace HW := Lib.hid (HW.out.under hb)
  replace HX := Lib.hid (HX.out.under hb)
  replace Hd2 := Lib.hid (Hd2.out.under hb)
  replace Hat2 := Lib.hid (Hat2.out.under hb)
  replace HQ := Lib.hid (HQ.out.under hb)
  replace Hd4 := Lib.hid (Hd4.out.under hb)
  replace Hat4 := Lib.hid (Hat4.out.under hb)
  replace HP := Lib.hid (HP.out.under hb)
  replace Hat6 := Lib.hid (Hat6.out.under hb)
  replace HB := Lib.hid (HB.out.trans (hb.mono HB.out.size))
  clear hb c0 c1 c2 c3 c4 c5 c6 c7 hlc d0 d1 d2 d3 d4 d5 d6 d7 hld
  have hsame := rsame_yes w5 ad3 ad5 cap3 cap5 rs Hat2.out Hat4.out (by rw [HN.out]; omega)
  rw [HN.out] at hsame
  have Hsame := Lib.hid hsame
  clear hsame
  go_wp2_with fail
  refine (Hsame.out).mono ?_
  rintro e w6 ⟨rfl, hb⟩
  replace HT := Lib.hid (HT.out.under hb)
  replace HD := Lib.hid (HD.out.under hb)
  replace HW := Lib.hid (HW.out.under hb)
  replace HX := Lib.hid (HX.out.under hb)
  replace Hd2 := Lib.hid (Hd2.out.under hb)
  replace Hat2 := Lib.hid (Hat2.out.under hb)
  replace HQ := Lib.hid (HQ.out.under hb)
  replace Hd4 := Lib.hid (Hd4.out.under hb)
  replace Hat4 := Lib.hid (Hat4.out.under hb)
  replace HP := Lib.hid (HP.out.under hb)
  replace Hat6 := Lib.hid (Hat6.out.under hb)
  replace HB := Lib.hid (HB.out.trans (hb.mono HB.out.size))
  clear hb Hsame
  have hsame := rsame_yes w6 ad3 ad6 cap3 cap6 rs Hat2.out Hat6.out (by rw [HN.out]; omega)
  rw [HN.out] at hsame
  have Hsame := Lib.hid hsame
  clear hsame
  go_wp2_with fail
  refine (Hsame.out).mono ?_
  rintro e w7 ⟨rfl, hb⟩
  replace HT := Lib.hid (HT.out.under hb)
  replace HD := Lib.hid (HD.out.under hb)
  replace HW := Lib.hid (HW.out.under hb)
  replace HX := Lib.hid (HX.out.under hb)
  replace Hd2 := Lib.hid (Hd2.out.under hb)
  replace Hat2 := Lib.hid (Hat2.out.under hb)
  replace HQ := Lib.hid (HQ.out.under hb)
  replace Hd4 := Lib.hid (Hd4.out.under hb)
  replace Hat4 := Lib.hid (Hat4.out.under hb)
  replace HP := Lib.hid (HP.out.under hb)
  replace Hat6 := Lib.hid (Hat6.out.under hb)
  replace HB := Lib.hid (HB.out.trans (hb.mono HB.out.size))
  clear hb Hsame
  go_wp2
  go_loopw [67] (fun i wr => ∃ (k : Nat), i = .int .i64 (k : Int) ∧ k ≤ N ∧ Below w7.heap.size w7 wr) (fun i _ => N - (intOf i).toNat)
  case atStart => exact ⟨0, rfl, Nat.zero_le _, Below.refl _ _⟩
  case round =>
    obtain ⟨k, rfl, hkN, hbel⟩ := hrel
    have Hbel := Lib.hid hbel
    have HQ8 := Lib.hid (HQ.out.under hbel)
    have HB8 := Lib.hid (HB.out.trans (hbel.mono HB.out.size))
    by_cases hlt : k < N
    · obtain ⟨r, hr⟩ : ∃ r, rs[k]? = some r := ⟨rs[k]'(by have := HN.out; omega), by simp⟩
      obtain ⟨g1, o1, rfl, hg1, hc1⟩ := (Hat2.out.under hbel) (by rintro rfl; simp at hr)
      obtain ⟨p0, p1⟩ := hc1 k r hr
      rw [HF4.out k r hr] at p0
      clear hbel hc1 hr
      obtain ⟨c0, c1, c2, c3, c4, c5, c6, c7⟩ := box8 HQ8.out
      have hlc := HQ8.out.lt
      have hkI : (k : Int) < (N : Int) := by omega
      go_upto_region 13 with (fail)
      go_quiet (fail)
      go_wp2
      go_roundw
      case rel => exact ⟨k + 1, by go_num, by omega, below_drewN Hbel.out _⟩
      case measure => simp [intOf]; omega
    · have hkn : k = N := by omega
      clear hbel hkn
      obtain ⟨c0, c1, c2, c3, c4, c5, c6, c7⟩ := box8 HQ8.out
      rw [HF2.out] at c6
      have hlc := HQ8.out.lt
      go_wp2
      go_ret
      exact ⟨rfl, HB8.out⟩
end Go.Proofs.YtcefhcailhediaaDoor
