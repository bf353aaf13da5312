/- SEGMENT: THE WALK OVER SegmentDrops. -/
import Derived.Test.YtcefhcailhediaaDoorGav
namespace Go.Proofs.YtcefhcailhediaaDoor
open Go.RowKit
set_option maxRecDepth 100000
set_option linter.unusedVariables false
set_option linter.unusedSimpArgs false

set_option maxHeartbeats 4000000 in
theorem drops_any (w : World) (size : Int) (ads : Option Addr) (ns caps : Nat) (ss : List ByteArray) (q : Int) (hT : Tabs w) (hw : 3 < w.heap.size)
    (hsz : Num size) (hq0 : 0 ≤ q) (hq1 : q ≤ 18446744073709551615) (hns : ns = ss.length) (hnb : ns ≤ 9223372036854775807) (hS : Strs w w.heap.size ads ss) (hSb : ∀ s ∈ ss, s.size ≤ 9223372036854775807) :
    Calls Tryd.prog 6 #[.int .i64 size, .slice ads ns caps, .int .u64 q] w fun e w' => e = .returned (.bool true) ∧ Below w.heap.size w w' := by
  have HT := Lib.hid hT
  have HS := Lib.hid (show StrsW w ads ss from hS)
  have HSb := Lib.hid hSb
  have Hns := Lib.hid hns
  have HW := Lib.hid (show Big w from hw)
  have HB := Lib.hid (Below.refl w.heap.size w)
  have Hsz := Lib.hid hsz
  obtain ⟨s0, s1⟩ := hsz
  clear hT hS hSb hw hns
  go_enter Tryd.func6, Tryd.ntmps6
  go_wp2_with fail
  refine (slives_any w HT.out HW.out).mono ?_
  rintro e w1 ⟨rfl, hb⟩
  replace HT := Lib.hid (HT.out.under hb)
  replace HS := Lib.hid (HS.out.under hb)
  replace HW := Lib.hid (HW.out.under hb)
  replace HB := Lib.hid (HB.out.trans (hb.mono HB.out.size))
  clear hb
  go_wp2_with fail
  refine (kept_any w1 size ads ns caps ss ⟨#[108, 97, 115, 116]⟩ (-1) (-1) HT.out HW.out Hsz.out (by unfold Num; omega) (by unfold Num; omega) (by decide) Hns.out hnb HS.out HSb.out).mono ?_
  rintro e w2 ⟨hb2, ⟨hno, ad2, n2, cap2, rfl⟩ | ⟨hs, fs, rs, want, ad2, n2, cap2, v, hkk, hwant, rfl, hd2, hrow⟩⟩
  · have HB2 := Lib.hid (HB.out.trans (hb2.mono HB.out.size))
    have HB3 := Lib.hid (HB2.out.alloc HB2.out.size (.cells #[.slice ad2 n2 cap2, .bool false, .int .i64 0, .int .i64 0, .int .i64 0, .int .u64 0, .int .u64 0, .bool false] 30))
    clear hb2 hno
    go_wp2
    go_ret
    exact ⟨rfl, HB3.out⟩
  replace HT := Lib.hid (HT.out.under hb2)
  replace HS := Lib.hid (HS.out.under hb2)
  replace HW := Lib.hid (HW.out.under hb2)
  replace HB := Lib.hid (HB.out.trans (hb2.mono HB.out.size))
  have hA : App fs rs (-1) (-1) size ⟨#[108, 97, 115, 116]⟩ (appM (kl fs rs (-1) (-1) size) ⟨#[108, 97, 115, 116]⟩) := app_kk hkk hs (by unfold Num; omega) (by unfold Num; omega)
  obtain ⟨⟨⟨⟨fs2, dn2, fu2, fa2⟩, sz2, fr2, nx2, br2⟩, cd2⟩, hr⟩ : ∃ r, appM (kl fs rs (-1) (-1) size) ⟨#[108, 97, 115, 116]⟩ = r := ⟨_, rfl⟩
  rw [hr] at hwant hd2 hA ⊢
  clear hb2
  by_cases hcd : cd2 = 0
  rotate_left
  · have HB3 := Lib.hid (HB.out.alloc HB.out.size (.cells #[.slice ad2 n2 cap2, .bool dn2, .int .i64 fu2, .int .i64 fa2, .int .i64 sz2, .int .u64 fr2, .int .u64 nx2, .bool br2] 30))
    have hc1 : (cd2 != 0) = true := by simp [hcd]
    clear hcd hr hwant hd2 hA hrow hkk hs
    go_wp2
    go_ret
    exact ⟨rfl, HB3.out⟩
  subst hcd
  obtain ⟨h1, h2, hK2, hr1⟩ := hA.ok rfl
  obtain ⟨hf1, hf2⟩ := hA.free rfl rfl rfl
  simp only [L.mk.injEq, D.mk.injEq, true_and] at hK2 hr1 hf1 hf2
  obtain ⟨⟨e1, _⟩, e2, e3, e4, e5⟩ := hr1
  subst e1 e3 e5 hf1 hf2
  obtain rfl := e2.symm
  obtain ⟨_, _, hw2⟩ := (hwant.resolve_left (fun h => h.1 rfl)).2
  have hkk2 : KK fs2 1 want := by rw [hw2]; exact hK2
  have hx : nx2 = ((1 + want.length : Nat) : Int) := by rw [e4, hw2, List.length_append]; rfl
  obtain ⟨adv, capv, rfl, hatv, hov⟩ := hrow.form
  have hcapv := hrow.cap.1
  obtain ⟨M, hM⟩ : ∃ M, want.length = M := ⟨_, rfl⟩
  rw [hM] at hx hcapv ⊢
  have hMb : M ≤ 16777216 := by rw [← hM]; exact kk_bound hkk2
  have Hkk := Lib.hid hkk2
  have Hx := Lib.hid hx
  have HM := Lib.hid hM
  have Hcapv := Lib.hid hcapv
  have Hhs := Lib.hid hs
  have Hatv := Lib.hid hatv
  have Hd2 := Lib.hid (show DIn w2 ad2 n2 cap2 (-1) (-1) fs2 from hd2)
  have hx0 : 1 ≤ nx2 := by omega
  have hx1 : nx2 ≤ 16777217 := by omega
  clear hr hwant hd2 hA hrow hkk hs hK2 e4 hkk2 hx hM hcapv hatv hov hw2 e2 h1 h2
  obtain ⟨W2, hW2⟩ : ∃ W, W = w2.alloc (.cells #[.slice ad2 n2 cap2, .bool false, .int .i64 (-1), .int .i64 (-1), .int .i64 size, .int .u64 1, .int .u64 nx2, .bool false] 30) := ⟨_, rfl⟩
  have hbW2 : Below w2.heap.size w2 W2 := by rw [hW2]; exact (Below.refl _ w2).alloc (Nat.le_refl _) _
  replace HT := Lib.hid (HT.out.under hbW2)
  replace HS := Lib.hid (HS.out.under hbW2)
  replace HW := Lib.hid (HW.out.under hbW2)
  replace Hatv := Lib.hid (Hatv.out.under hbW2)
  replace Hd2 := Lib.hid (Hd2.out.under hbW2)
  replace HB := Lib.hid (HB.out.trans (hbW2.mono HB.out.size))
  have HL := Lib.hid (show Blk W2 w2.heap.size #[.slice ad2 n2 cap2, .bool false, .int .i64 (-1), .int .i64 (-1), .int .i64 size, .int .u64 1, .int .u64 nx2, .bool false] 30 from by rw [hW2]; exact blk_new w2 _)
  clear hbW2
  go_upto_region 4 with (fail)
  rw [← hW2]
  clear hW2
  have HR1 := Lib.hid (show LRight ⟨⟨fs2, false, -1, -1⟩, size, 1, nx2, false⟩ from ⟨Hkk.out.R, Hhs.out, hx0, by show nx2 ≤ 4611686018427387904; omega⟩)
  obtain ⟨c0, c1, c2, c3, c4, c5, c6, c7⟩ := box8 HL.out
  have hlc := HL.out.lt
  have hch : chM (fun l => cutM l q) ⟨⟨fs2, false, -1, -1⟩, size, 1, nx2, false⟩ = cutM ⟨⟨fs2, false, -1, -1⟩, size, 1, nx2, false⟩ q := by unfold chM; exact if_neg (by simp)
  have hdr := drop_any W2 ad2 n2 cap2 ⟨⟨fs2, false, -1, -1⟩, size, 1, nx2, false⟩ q hq0 hq1 (lin_of Hd2.out HR1.out (by show (0 : Int) ≤ 1; decide)) (by have h1 := Hd2.out.i.1; have h2 := Hkk.out.R.1; omega) HT.out HW.out
  have Hdr := Lib.hid hdr
  have Hch := Lib.hid hch
  clear hdr hch
  go_wp2_with fail
  refine (Hdr.out).mono ?_
  clear Hdr
  rintro e w3 ⟨hb, ⟨hno, _⟩ | ⟨_, ad3, n3, cap3, rfl, hd3, _⟩⟩
  · exact absurd HR1.out hno
  rw [Hch.out] at hd3 ⊢
  clear Hch
  replace HT := Lib.hid (HT.out.under hb)
  replace HS := Lib.hid (HS.out.under hb)
  replace HW := Lib.hid (HW.out.under hb)
  replace Hatv := Lib.hid (Hatv.out.under hb)
  replace Hd2 := Lib.hid (Hd2.out.under hb)
  replace HL := Lib.hid (HL.out.under hb)
  replace HB := Lib.hid (HB.out.trans (hb.mono HB.out.size))
  clear hb c0 c1 c2 c3 c4 c5 c6 c7 hlc
  by_cases hlt : nx2 < q
  · skip
    have hcu : cutM ⟨⟨fs2, false, -1, -1⟩, size, 1, nx2, false⟩ q = (⟨⟨fs2, false, -1, -1⟩, size, 1, nx2, false⟩, 2) := by unfold cutM; exact if_pos hlt
    rw [hcu] at hd3 ⊢
    have Hd3 := Lib.hid (show DIn w3 ad3 n3 cap3 (-1) (-1) fs2 from hd3)
    clear hcu hd3
    obtain ⟨W3, hW3⟩ : ∃ W, W = w3.alloc (.cells #[.slice ad3 n3 cap3, .bool false, .int .i64 (-1), .int .i64 (-1), .int .i64 size, .int .u64 1, .int .u64 nx2, .bool false] 30) := ⟨_, rfl⟩
    have hbW3 : Below w3.heap.size w3 W3 := by rw [hW3]; exact (Below.refl _ w3).alloc (Nat.le_refl _) _
    replace HT := Lib.hid (HT.out.under hbW3)
    replace HS := Lib.hid (HS.out.under hbW3)
    replace HW := Lib.hid (HW.out.under hbW3)
    replace Hatv := Lib.hid (Hatv.out.under hbW3)
    replace Hd2 := Lib.hid (Hd2.out.under hbW3)
    replace HL := Lib.hid (HL.out.under hbW3)
    replace Hd3 := Lib.hid (Hd3.out.under hbW3)
    replace HB := Lib.hid (HB.out.trans (hbW3.mono HB.out.size))
    have HP := Lib.hid (show Blk W3 w3.heap.size #[.slice ad3 n3 cap3, .bool false, .int .i64 (-1), .int .i64 (-1), .int .i64 size, .int .u64 1, .int .u64 nx2, .bool false] 30 from by rw [hW3]; exact blk_new w3 _)
    clear hbW3
    go_upto_region 7 with (fail)
    rw [← hW3]
    clear hW3
    obtain ⟨c0, c1, c2, c3, c4, c5, c6, c7⟩ := box8 HL.out
    have hlc := HL.out.lt
    obtain ⟨d0, d1, d2, d3, d4, d5, d6, d7⟩ := box8 HP.out
    have hld := HP.out.lt
    go_wp2_with fail
    refine (lsame_yes W3 ad2 ad3 n2 cap2 n3 cap3 ⟨⟨fs2, false, -1, -1⟩, size, 1, nx2, false⟩ Hd2.out.i Hd3.out.i (by have h1 := Hd2.out.i.1; have h2 := Hkk.out.R.1; omega)).mono ?_
    rintro e w4 ⟨rfl, hb⟩
    replace HT := Lib.hid (HT.out.under hb)
    replace HS := Lib.hid (HS.out.under hb)
    replace HW := Lib.hid (HW.out.under hb)
    replace Hatv := Lib.hid (Hatv.out.under hb)
    replace Hd2 := Lib.hid (Hd2.out.under hb)
    replace HL := Lib.hid (HL.out.under hb)
    replace Hd3 := Lib.hid (Hd3.out.under hb)
    replace HP := Lib.hid (HP.out.under hb)
    replace HB := Lib.hid (HB.out.trans (hb.mono HB.out.size))
    clear hb
    go_wp2
    go_ret
    exact ⟨rfl, HB.out⟩
  obtain ⟨fs3, gn, hdm, hkk3, hg1, hg2⟩ := drop_kk (size := size) (q := q) Hkk.out
  have hcu : cutM ⟨⟨fs2, false, -1, -1⟩, size, 1, nx2, false⟩ q = (⟨⟨fs3, false, -1, -1⟩, size, ((1 + gn : Nat) : Int), nx2, false⟩, 0) := by
    unfold cutM
    rw [if_neg hlt, Hx.out, ← HM.out]
    exact hdm
  rw [hcu] at hd3 ⊢
  rw [HM.out] at hg1
  obtain ⟨K, hK⟩ : ∃ K, (want.drop gn).length = K := ⟨_, rfl⟩
  have hMK : M = K + gn := by rw [← hK, List.length_drop, HM.out]; omega
  obtain ⟨f3, hf3⟩ : ∃ x : Int, ((1 + gn : Nat) : Int) = x := ⟨_, rfl⟩
  rw [hf3] at hd3 ⊢
  have hop := open_klf (size := size) hkk3 Hhs.out
  have hop2 : openM ⟨fs3, false, -1, -1⟩ size = (⟨⟨fs3, false, -1, -1⟩, size, f3, nx2, false⟩, want.drop gn, 0) := by
    rw [hop]
    simp only [klf, Prod.mk.injEq, L.mk.injEq, true_and, and_true]
    refine ⟨hf3, ?_⟩
    rw [Hx.out, hK, hMK]
    omega
  have Hop := Lib.hid hop2
  have Hd3 := Lib.hid (show DIn w3 ad3 n3 cap3 (-1) (-1) fs3 from hd3)
  have HK := Lib.hid hK
  have HMK := Lib.hid hMK
  have HR3 := Lib.hid (show LRight ⟨⟨fs3, false, -1, -1⟩, size, f3, nx2, false⟩ from ⟨hkk3.R, Hhs.out, by show f3 ≤ nx2; have := Hx.out; omega, by show nx2 ≤ 4611686018427387904; omega⟩)
  have Hrd := Lib.hid (show (rdF fs3).rs = want.drop gn from by rw [kk_rdF hkk3])
  have hf30 : 0 ≤ f3 := by omega
  have hKM : (M : Int) - (K : Int) = (gn : Int) := by omega
  have hKn : ¬ M < K := by omega
  have Hg := Lib.hid hg2
  have HKM := Lib.hid hKM
  have HKn := Lib.hid hKn
  have hKb : K ≤ 16777216 := by omega
  have hgb : gn ≤ 16777216 := by omega
  clear hdm hkk3 hcu hd3 hop hop2 hK hMK hf3 hg2 hKM hKn
  obtain ⟨W3, hW3⟩ : ∃ W, W = w3.alloc (.cells #[.slice ad3 n3 cap3, .bool false, .int .i64 (-1), .int .i64 (-1), .int .i64 size, .int .u64 f3, .int .u64 nx2, .bool false] 30) := ⟨_, rfl⟩
  have hbW3 : Below w3.heap.size w3 W3 := by rw [hW3]; exact (Below.refl _ w3).alloc (Nat.le_refl _) _
  replace HT := Lib.hid (HT.out.under hbW3)
  replace HS := Lib.hid (HS.out.under hbW3)
  replace HW := Lib.hid (HW.out.under hbW3)
  replace Hatv := Lib.hid (Hatv.out.under hbW3)
  replace Hd2 := Lib.hid (Hd2.out.under hbW3)
  replace HL := Lib.hid (HL.out.under hbW3)
  replace Hd3 := Lib.hid (Hd3.out.under hbW3)
  replace HB := Lib.hid (HB.out.trans (hbW3.mono HB.out.size))
  have HP := Lib.hid (show Blk W3 w3.heap.size #[.slice ad3 n3 cap3, .bool false, .int .i64 (-1), .int .i64 (-1), .int .i64 size, .int .u64 f3, .int .u64 nx2, .bool false] 30 from by rw [hW3]; exact blk_new w3 _)
  clear hbW3
  go_upto_region 7 with (fail)
  rw [← hW3]
  clear hW3
  obtain ⟨d0, d1, d2, d3, d4, d5, d6, d7⟩ := box8 HP.out
  have hld := HP.out.lt
  go_wp2_with fail
  refine (records_is W3 ad3 n3 cap3 ⟨⟨fs3, false, -1, -1⟩, size, f3, nx2, false⟩ (lin_of Hd3.out HR3.out hf30) HR3.out rfl rfl Hrd.out HT.out HW.out).mono ?_
  rintro e w4 ⟨ad4, cap4, rfl, hat4, hb⟩
  replace HT := Lib.hid (HT.out.under hb)
  replace HS := Lib.hid (HS.out.under hb)
  replace HW := Lib.hid (HW.out.under hb)
  replace Hatv := Lib.hid (Hatv.out.under hb)
  replace Hd2 := Lib.hid (Hd2.out.under hb)
  replace HL := Lib.hid (HL.out.under hb)
  replace Hd3 := Lib.hid (Hd3.out.under hb)
  replace HP := Lib.hid (HP.out.under hb)
  replace HB := Lib.hid (HB.out.trans (hb.mono HB.out.size))
  rw [HK.out]
  have Hat4 := Lib.hid hat4
  clear hb hat4 d0 d1 d2 d3 d4 d5 d6 d7 hld
  obtain ⟨d0, d1, d2, d3, d4, d5, d6, d7⟩ := box8 HP.out
  have hld := HP.out.lt
  go_wp2_with fail
  refine (open_is Hop.out w4 ad3 n3 cap3 Hd3.out HT.out HW.out).mono ?_
  rintro e w5 ⟨ad5, n5, cap5, ad6, cap6, rfl, hd5, hat6, _, hb⟩
  replace HT := Lib.hid (HT.out.under hb)
  replace HS := Lib.hid (HS.out.under hb)
  replace HW := Lib.hid (HW.out.under hb)
  replace Hatv := Lib.hid (Hatv.out.under hb)
  replace Hd2 := Lib.hid (Hd2.out.under hb)
  replace HL := Lib.hid (HL.out.under hb)
  replace Hd3 := Lib.hid (Hd3.out.under hb)
  replace HP := Lib.hid (HP.out.under hb)
  replace Hat4 := Lib.hid (Hat4.out.under hb)
  replace HB := Lib.hid (HB.out.trans (hb.mono HB.out.size))
  rw [HK.out]
  have Hat6 := Lib.hid (show RAt w5 w5.heap.size ad6 (want.drop gn) from hat6)
  have Hd5 := Lib.hid (show DIn w5 ad5 n5 cap5 (-1) (-1) fs3 from hd5)
  clear hb hat6 hd5 d0 d1 d2 d3 d4 d5 d6 d7 hld
  obtain ⟨W5, hW5⟩ : ∃ W, W = w5.alloc (.cells #[.slice ad5 n5 cap5, .bool false, .int .i64 (-1), .int .i64 (-1), .int .i64 size, .int .u64 f3, .int .u64 nx2, .bool false] 30) := ⟨_, rfl⟩
  have hbW5 : Below w5.heap.size w5 W5 := by rw [hW5]; exact (Below.refl _ w5).alloc (Nat.le_refl _) _
  replace HT := Lib.hid (HT.out.under hbW5)
  replace HS := Lib.hid (HS.out.under hbW5)
  replace HW := Lib.hid (HW.out.under hbW5)
  replace Hatv := Lib.hid (Hatv.out.under hbW5)
  replace Hd2 := Lib.hid (Hd2.out.under hbW5)
  replace HL := Lib.hid (HL.out.under hbW5)
  replace Hd3 := Lib.hid (Hd3.out.under hbW5)
  replace HP := Lib.hid (HP.out.under hbW5)
  replace Hat4 := Lib.hid (Hat4.out.under hbW5)
  replace Hat6 := Lib.hid (Hat6.out.under hbW5)
  replace Hd5 := Lib.hid (Hd5.out.under hbW5)
  replace HB := Lib.hid (HB.out.trans (hbW5.mono HB.out.size))
  have HN := Lib.hid (show Blk W5 w5.heap.size #[.slice ad5 n5 cap5, .bool false, .int .i64 (-1), .int .i64 (-1), .int .i64 size, .int .u64 f3, .int .u64 nx2, .bool false] 30 from by rw [hW5]; exact blk_new w5 _)
  clear hbW5
  go_upto_region 11 with (fail)
  rw [← hW5]
  clear hW5
  have hsame := rsame_yes W5 ad4 ad6 cap4 cap6 (want.drop gn) Hat4.out Hat6.out (by rw [HK.out]; omega)
  rw [HK.out] at hsame
  have Hsame := Lib.hid hsame
  clear hsame
  go_wp2_with fail
  refine (Hsame.out).mono ?_
  rintro e w6 ⟨rfl, hb⟩
  replace HT := Lib.hid (HT.out.under hb)
  replace HS := Lib.hid (HS.out.under hb)
  replace HW := Lib.hid (HW.out.under hb)
  replace Hatv := Lib.hid (Hatv.out.under hb)
  replace Hd2 := Lib.hid (Hd2.out.under hb)
  replace HL := Lib.hid (HL.out.under hb)
  replace Hd3 := Lib.hid (Hd3.out.under hb)
  replace HP := Lib.hid (HP.out.under hb)
  replace Hat4 := Lib.hid (Hat4.out.under hb)
  replace Hat6 := Lib.hid (Hat6.out.under hb)
  replace Hd5 := Lib.hid (Hd5.out.under hb)
  replace HN := Lib.hid (HN.out.under hb)
  replace HB := Lib.hid (HB.out.trans (hb.mono HB.out.size))
  clear hb Hsame
  obtain ⟨c0, c1, c2, c3, c4, c5, c6, c7⟩ := box8 HP.out
  have hlc := HP.out.lt
  obtain ⟨d0, d1, d2, d3, d4, d5, d6, d7⟩ := box8 HN.out
  have hld := HN.out.lt
  go_wp2_with fail
  refine (lsame_yes w6 ad3 ad5 n3 cap3 n5 cap5 ⟨⟨fs3, false, -1, -1⟩, size, f3, nx2, false⟩ Hd3.out.i Hd5.out.i (by have h1 := Hd3.out.i.1; have h2 := HR3.out.1.1; simp only at h2; omega)).mono ?_
  rintro e w7 ⟨rfl, hb⟩
  replace HT := Lib.hid (HT.out.under hb)
  replace HS := Lib.hid (HS.out.under hb)
  replace HW := Lib.hid (HW.out.under hb)
  replace Hatv := Lib.hid (Hatv.out.under hb)
  replace Hd2 := Lib.hid (Hd2.out.under hb)
  replace HL := Lib.hid (HL.out.under hb)
  replace Hd3 := Lib.hid (Hd3.out.under hb)
  replace HP := Lib.hid (HP.out.under hb)
  replace Hat4 := Lib.hid (Hat4.out.under hb)
  replace Hat6 := Lib.hid (Hat6.out.under hb)
  replace Hd5 := Lib.hid (Hd5.out.under hb)
  replace HN := Lib.hid (HN.out.under hb)
  replace HB := Lib.hid (HB.out.trans (hb.mono HB.out.size))
  clear hb c0 c1 c2 c3 c4 c5 c6 c7 hlc d0 d1 d2 d3 d4 d5 d6 d7 hld
  obtain ⟨adg, hsl, hatg⟩ := slice_from Hatv.out HM.out hg1 Hcapv.out
  have hKe : M - gn = K := by have := HMK.out; omega
  rw [hKe] at hsl
  have Hatg := Lib.hid hatg
  have hKn := HKn.out
  have hKM := HKM.out
  clear hatg hKe
  have hsame := rsame_yes w7 ad4 adg cap4 (capv - gn) (want.drop gn) Hat4.out Hatg.out (by rw [HK.out]; omega)
  rw [HK.out] at hsame
  have Hsame := Lib.hid hsame
  clear hsame
  go_wp2_with fail
  refine (Hsame.out).mono ?_
  rintro e w8 ⟨rfl, hb⟩
  replace HT := Lib.hid (HT.out.under hb)
  replace HS := Lib.hid (HS.out.under hb)
  replace HW := Lib.hid (HW.out.under hb)
  replace Hatv := Lib.hid (Hatv.out.under hb)
  replace Hd2 := Lib.hid (Hd2.out.under hb)
  replace HL := Lib.hid (HL.out.under hb)
  replace Hd3 := Lib.hid (Hd3.out.under hb)
  replace HP := Lib.hid (HP.out.under hb)
  replace Hat4 := Lib.hid (Hat4.out.under hb)
  replace Hat6 := Lib.hid (Hat6.out.under hb)
  replace Hd5 := Lib.hid (Hd5.out.under hb)
  replace HN := Lib.hid (HN.out.under hb)
  replace HB := Lib.hid (HB.out.trans (hb.mono HB.out.size))
  clear hb Hsame hsl hKn hKM
  obtain ⟨c0, c1, c2, c3, c4, c5, c6, c7⟩ := box8 HL.out
  have hlc := HL.out.lt
  obtain ⟨d0, d1, d2, d3, d4, d5, d6, d7⟩ := box8 HP.out
  have hld := HP.out.lt
  rcases Hg.out with rfl | hgq
  · go_wp2
    go_ret
    exact ⟨rfl, HB.out⟩
  · by_cases hz : gn = 0
    · subst hz
      go_wp2
      go_ret
      exact ⟨rfl, HB.out⟩
    · have hz1 : ((gn : Int) == 0) = false := by simp [hz]
      go_wp2
      go_ret
      exact ⟨rfl, HB.out⟩
end Go.Proofs.YtcefhcailhediaaDoor
