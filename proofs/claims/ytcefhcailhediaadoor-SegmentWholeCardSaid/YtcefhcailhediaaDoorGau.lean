/- SEGMENT: THE WALK OVER SegmentWhole. -/
import Derived.Test.YtcefhcailhediaaDoorGat
namespace Go.Proofs.YtcefhcailhediaaDoor
open Go.RowKit
set_option maxRecDepth 100000
set_option linter.unusedVariables false
set_option linter.unusedSimpArgs false

set_option maxHeartbeats 20000000 in
theorem whole_any (w : World) (size : Int) (ads : Option Addr) (ns caps : Nat) (ss : List ByteArray) (last : ByteArray) (fuse : Int) (adk : Option Addr) (nk capk : Nat) (ks : List Int) (more : ByteArray) (hT : Tabs w) (hw : 3 < w.heap.size)
    (hsz : Num size) (hfu : Num fuse) (hlast : last.size ≤ 9223372036854775807) (hmore : more.size ≤ 9223372036854775807) (hns : ns = ss.length) (hnb : ns ≤ 9223372036854775807) (hS : Strs w w.heap.size ads ss) (hSb : ∀ s ∈ ss, s.size ≤ 9223372036854775807)
    (hk : Ints w w.heap.size adk ks) (hnk : nk = ks.length) (hnk63 : nk ≤ 9223372036854775807) :
    Calls Tryd.prog 4 #[.int .i64 size, .slice ads ns caps, .string last, .int .i64 fuse, .slice adk nk capk, .string more] w fun e w' => e = .returned (.bool true) ∧ Below w.heap.size w w' := by
  have HT := Lib.hid hT
  have HS := Lib.hid (show StrsW w ads ss from hS)
  have HK := Lib.hid (show IntsW w adk ks from hk)
  have HSb := Lib.hid hSb
  have Hns := Lib.hid hns
  have Hnk := Lib.hid hnk
  have HW := Lib.hid (show Big w from hw)
  have HB := Lib.hid (Below.refl w.heap.size w)
  have Hsz := Lib.hid hsz
  have Hfu := Lib.hid hfu
  obtain ⟨s0, s1⟩ := hsz
  clear hT hS hSb hw hns hk hnk hfu
  go_enter Tryd.func4, Tryd.ntmps4
  go_wp2_with fail
  refine (slives_any w HT.out HW.out).mono ?_
  rintro e w1 ⟨rfl, hb⟩
  replace HT := Lib.hid (HT.out.under hb)
  replace HS := Lib.hid (HS.out.under hb)
  replace HW := Lib.hid (HW.out.under hb)
  replace HK := Lib.hid (HK.out.under hb)
  replace HB := Lib.hid (HB.out.trans (hb.mono HB.out.size))
  clear hb
  go_wp2_with fail
  refine (kept_any w1 size ads ns caps ss last fuse (-1) HT.out HW.out Hsz.out Hfu.out (by unfold Num; omega) hlast Hns.out hnb HS.out HSb.out).mono ?_
  rintro e w2 ⟨hb2, ⟨hno, ad2, n2, cap2, rfl⟩ | ⟨hs, fs, rs, want, ad2, n2, cap2, v, hkk, hwant, rfl, hd2, hrow⟩⟩
  · have HB2 := Lib.hid (HB.out.trans (hb2.mono HB.out.size))
    have HB3 := Lib.hid (HB2.out.alloc HB2.out.size (.cells #[.slice ad2 n2 cap2, .bool false, .int .i64 0, .int .i64 0, .int .i64 0, .int .u64 0, .int .u64 0, .bool false] 30))
    clear hb2
    by_cases h1 : size < 1
    · clear hno
      go_wp2
      go_ret
      exact ⟨rfl, HB3.out⟩
    · have h2 : 262144 < size := by omega
      clear hno
      go_wp2
      go_ret
      exact ⟨rfl, HB3.out⟩
  replace HT := Lib.hid (HT.out.under hb2)
  replace HS := Lib.hid (HS.out.under hb2)
  replace HW := Lib.hid (HW.out.under hb2)
  replace HK := Lib.hid (HK.out.under hb2)
  replace HB := Lib.hid (HB.out.trans (hb2.mono HB.out.size))
  have hA : App fs rs fuse (-1) size last (appM (kl fs rs fuse (-1) size) last) := app_kk hkk hs Hfu.out (by unfold Num; omega)
  obtain ⟨⟨⟨⟨fs2, dn2, fu2, fa2⟩, sz2, fr2, nx2, br2⟩, cd2⟩, hr⟩ : ∃ r, appM (kl fs rs fuse (-1) size) last = r := ⟨_, rfl⟩
  rw [hr] at hwant hd2 hA ⊢
  obtain ⟨adv, capv, rfl, hatv, _⟩ := hrow.form
  clear hb2
  have hs1 : ¬ size < 1 := by omega
  have hs2 : ¬ 262144 < size := by omega
  obtain ⟨fs3, rs3, hkk3, hop, hcase⟩ := aft_open hA.aft ks hs
  have hc2 : rs3 = want ∨ (cd2 ≠ 0 ∧ ∃ h1 h2, rs3 = want ++ [⟨1 + rs.length, last, h1, h2⟩]) := by
    rcases hwant with ⟨h1, rfl⟩ | ⟨h1, h2, h3, rfl⟩
    · rcases hcase with ⟨_, rfl⟩ | ⟨h4, h5, rfl⟩
      · exact .inl rfl
      · exact .inr ⟨h1, h4, h5, rfl⟩
    · rcases hcase with ⟨h4, _⟩ | ⟨h4, h5, rfl⟩
      · exact absurd h1 h4
      · exact .inl rfl
  obtain ⟨N, hN⟩ : ∃ N, rs3.length = N := ⟨_, rfl⟩
  obtain ⟨M, hM⟩ : ∃ M, want.length = M := ⟨_, rfl⟩
  have hNb : N ≤ 16777216 := by rw [← hN]; exact kk_bound hkk3
  have hMN : M ≤ N ∧ N ≤ M + 1 := by
    rcases hc2 with rfl | ⟨_, _, _, rfl⟩
    · omega
    · rw [List.length_append] at hN; simp at hN; omega
  obtain ⟨x, hx⟩ : ∃ x : Int, (N : Int) + 1 = x := ⟨_, rfl⟩
  have hop2 : openM ⟨crashL ks fs2, false, -1, -1⟩ size = (⟨⟨fs3, false, -1, -1⟩, size, 1, x, false⟩, rs3, 0) := by
    rw [hop]
    simp only [kl, Prod.mk.injEq, L.mk.injEq, true_and, and_true]
    rw [← hN] at hx; omega
  rw [hM]
  have hx0 : 1 ≤ x := by omega
  have hx1 : x ≤ 16777217 := by omega
  have Hx := Lib.hid hx
  have Hop := Lib.hid hop2
  have Hkk3 := Lib.hid hkk3
  have Hc2 := Lib.hid hc2
  have HM := Lib.hid hM
  have HN := Lib.hid hN
  have HMN := Lib.hid hMN
  have HR2 := Lib.hid (show Right fs2 from hA.R)
  have Hhs := Lib.hid hs
  have Hatv := Lib.hid hatv
  have Hd2 := Lib.hid (show DIn w2 ad2 n2 cap2 fu2 fa2 fs2 from hd2)
  clear hr hwant hd2 hA hkk3 hop hop2 hcase hc2 hM hN hrow hatv hs hkk hMN hx
  obtain ⟨W2, hW2⟩ : ∃ W, W = w2.alloc (.cells #[.slice ad2 n2 cap2, .bool dn2, .int .i64 fu2, .int .i64 fa2, .int .i64 sz2, .int .u64 fr2, .int .u64 nx2, .bool br2] 30) := ⟨_, rfl⟩
  have hbW2 : Below w2.heap.size w2 W2 := by rw [hW2]; exact (Below.refl _ w2).alloc (Nat.le_refl _) _
  replace HT := Lib.hid (HT.out.under hbW2)
  replace HS := Lib.hid (HS.out.under hbW2)
  replace HW := Lib.hid (HW.out.under hbW2)
  replace HK := Lib.hid (HK.out.under hbW2)
  replace Hatv := Lib.hid (Hatv.out.under hbW2)
  replace Hd2 := Lib.hid (Hd2.out.under hbW2)
  replace HB := Lib.hid (HB.out.trans (hbW2.mono HB.out.size))
  have HQ2 := Lib.hid (show Blk W2 w2.heap.size #[.slice ad2 n2 cap2, .bool dn2, .int .i64 fu2, .int .i64 fa2, .int .i64 sz2, .int .u64 fr2, .int .u64 nx2, .bool br2] 30 from by rw [hW2]; exact blk_new w2 _)
  clear hbW2
  go_upto_region 4 with (fail)
  rw [← hW2]
  clear hW2
  by_cases hcd4 : cd2 = 4
  · subst hcd4
    clear Hc2
    go_wp2
    go_ret
    exact ⟨rfl, HB.out⟩
  have hcd41 : (cd2 == 4) = false := by simp [hcd4]
  clear hcd4
  obtain ⟨c0, c1, c2, c3, c4, c5, c6, c7⟩ := box8 HQ2.out
  have hlc := HQ2.out.lt
  go_wp2_with fail
  refine (crash_is W2 ad2 n2 cap2 dn2 fu2 fa2 fs2 Hd2.out HR2.out adk nk capk ks HK.out Hnk.out hnk63).mono ?_
  rintro e w3 ⟨ad3, n3, cap3, rfl, hd3, hb⟩
  replace HT := Lib.hid (HT.out.under hb)
  replace HS := Lib.hid (HS.out.under hb)
  replace HW := Lib.hid (HW.out.under hb)
  replace HK := Lib.hid (HK.out.under hb)
  replace Hatv := Lib.hid (Hatv.out.under hb)
  replace Hd2 := Lib.hid (Hd2.out.under hb)
  replace HQ2 := Lib.hid (HQ2.out.under hb)
  replace HB := Lib.hid (HB.out.trans (hb.mono HB.out.size))
  have Hd3 := Lib.hid hd3
  clear hb hd3 c0 c1 c2 c3 c4 c5 c6 c7 hlc hs1 hs2
  obtain ⟨W3, hW3⟩ : ∃ W, W = w3.alloc (.cells #[.slice ad3 n3 cap3, .bool false, .int .i64 (-1), .int .i64 (-1)] 27) := ⟨_, rfl⟩
  have hbW3 : Below w3.heap.size w3 W3 := by rw [hW3]; exact (Below.refl _ w3).alloc (Nat.le_refl _) _
  replace HT := Lib.hid (HT.out.under hbW3)
  replace HS := Lib.hid (HS.out.under hbW3)
  replace HW := Lib.hid (HW.out.under hbW3)
  replace HK := Lib.hid (HK.out.under hbW3)
  replace Hatv := Lib.hid (Hatv.out.under hbW3)
  replace Hd2 := Lib.hid (Hd2.out.under hbW3)
  replace HQ2 := Lib.hid (HQ2.out.under hbW3)
  replace Hd3 := Lib.hid (Hd3.out.under hbW3)
  replace HB := Lib.hid (HB.out.trans (hbW3.mono HB.out.size))
  have HQ3 := Lib.hid (show Blk W3 w3.heap.size #[.slice ad3 n3 cap3, .bool false, .int .i64 (-1), .int .i64 (-1)] 27 from by rw [hW3]; exact blk_new w3 _)
  clear hbW3
  go_upto_region 7 with (fail)
  rw [← hW3]
  clear hW3
  obtain ⟨c0, c1, c2, c3⟩ := box4' HQ3.out
  have hlc := HQ3.out.lt
  go_wp2_with fail
  refine (open_is Hop.out W3 ad3 n3 cap3 Hd3.out HT.out HW.out).mono ?_
  rintro e w4 ⟨ad4, n4, cap4, ad5, cap5, rfl, hd4, hat4, hc4, hb⟩
  replace HT := Lib.hid (HT.out.under hb)
  replace HS := Lib.hid (HS.out.under hb)
  replace HW := Lib.hid (HW.out.under hb)
  replace HK := Lib.hid (HK.out.under hb)
  replace Hatv := Lib.hid (Hatv.out.under hb)
  replace Hd2 := Lib.hid (Hd2.out.under hb)
  replace HQ2 := Lib.hid (HQ2.out.under hb)
  replace Hd3 := Lib.hid (Hd3.out.under hb)
  replace HQ3 := Lib.hid (HQ3.out.under hb)
  replace HB := Lib.hid (HB.out.trans (hb.mono HB.out.size))
  rw [HN.out]
  have Hcap := Lib.hid (show CapOk ad5 N cap5 from by rw [show (_ : L × List Rec × Int).2.1.length = N from HN.out] at hc4; exact hc4)
  have Hd4 := Lib.hid (show DIn w4 ad4 n4 cap4 (-1) (-1) fs3 from hd4)
  have Hat4 := Lib.hid (show RAt w4 w4.heap.size ad5 rs3 from hat4)
  clear hb hd4 hat4 hc4 c0 c1 c2 c3 hlc
  obtain ⟨W4, hW4⟩ : ∃ W, W = w4.alloc (.cells #[.slice ad4 n4 cap4, .bool false, .int .i64 (-1), .int .i64 (-1), .int .i64 size, .int .u64 1, .int .u64 x, .bool false] 30) := ⟨_, rfl⟩
  have hbW4 : Below w4.heap.size w4 W4 := by rw [hW4]; exact (Below.refl _ w4).alloc (Nat.le_refl _) _
  replace HT := Lib.hid (HT.out.under hbW4)
  replace HS := Lib.hid (HS.out.under hbW4)
  replace HW := Lib.hid (HW.out.under hbW4)
  replace HK := Lib.hid (HK.out.under hbW4)
  replace Hatv := Lib.hid (Hatv.out.under hbW4)
  replace Hd2 := Lib.hid (Hd2.out.under hbW4)
  replace HQ2 := Lib.hid (HQ2.out.under hbW4)
  replace Hd3 := Lib.hid (Hd3.out.under hbW4)
  replace HQ3 := Lib.hid (HQ3.out.under hbW4)
  replace Hd4 := Lib.hid (Hd4.out.under hbW4)
  replace Hat4 := Lib.hid (Hat4.out.under hbW4)
  replace HB := Lib.hid (HB.out.trans (hbW4.mono HB.out.size))
  have HV := Lib.hid (show Blk W4 w4.heap.size #[.slice ad4 n4 cap4, .bool false, .int .i64 (-1), .int .i64 (-1), .int .i64 size, .int .u64 1, .int .u64 x, .bool false] 30 from by rw [hW4]; exact blk_new w4 _)
  clear hbW4
  go_upto_region 8 with (fail)
  rw [← hW4]
  clear hW4
  have HR3 := Lib.hid (show LRight ⟨⟨fs3, false, -1, -1⟩, size, 1, x, false⟩ from ⟨Hkk3.out.R, Hhs.out, hx0, by show x ≤ 4611686018427387904; omega⟩)
  have HN4 := Lib.hid (show n4 = fs3.length from Hd4.out.i.1)
  obtain ⟨⟨⟨⟨fs4, dn4, fu4, fa4⟩, sz4, fr4, nx4, br4⟩, cd3⟩, hr⟩ : ∃ r, appM ⟨⟨fs3, false, -1, -1⟩, size, 1, x, false⟩ more = r := ⟨_, rfl⟩
  have hA2 : App fs3 rs3 (-1) (-1) size more (⟨⟨fs4, dn4, fu4, fa4⟩, sz4, fr4, nx4, br4⟩, cd3) := by
    have h := app_kk (d := more) Hkk3.out Hhs.out (show Num (-1) by unfold Num; omega) (show Num (-1) by unfold Num; omega)
    have e : kl fs3 rs3 (-1) (-1) size = ⟨⟨fs3, false, -1, -1⟩, size, 1, x, false⟩ := by
      simp only [kl, L.mk.injEq, true_and, and_true]
      have := Hx.out; have := HN.out; omega
    rw [e, hr] at h
    exact h
  have HA2 := Lib.hid hA2
  have Hr := Lib.hid hr
  clear hA2 hr
  have h1N : ¬ (M : Int) + 1 < (N : Int) := by have := HMN.out; omega
  by_cases hMN : M < N
  · skip
    have hc := Hc2.out
    have hne : rs3 ≠ want := fun e => by have h1 := HN.out; have h2 := HM.out; rw [e] at h1; omega
    obtain ⟨hcd0, h1, h2, h3⟩ := hc.resolve_left hne
    have hcd01 : (cd2 == 0) = false := by simp [hcd0]
    obtain ⟨g1, o1, e1, hg1, hcs⟩ := Hat4.out (fun e => by have h1 := HN.out; rw [e] at h1; simp at h1; omega)
    subst e1
    have hgl := (hcs M ⟨1 + rs.length, last, h1, h2⟩ (by rw [h3, ← HM.out]; simp)).2
    simp only at hgl
    have hMNI : (M : Int) < (N : Int) := by omega
    clear hc hne hcd0 h3 hcs
    obtain ⟨d0, d1, d2, d3, d4, d5, d6, d7⟩ := box8 HV.out
    have hld := HV.out.lt
    go_wp2_with fail
    refine (append_is2 Hr.out W4 ad4 n4 cap4 HR3.out rfl hmore (lin_of Hd4.out HR3.out (by show (0 : Int) ≤ 1; decide)) HT.out HW.out).mono ?_
    rintro e w5 ⟨ad6, n6, cap6, rfl, hd6, _, hb⟩
    replace HT := Lib.hid (HT.out.under hb)
    replace HS := Lib.hid (HS.out.under hb)
    replace HW := Lib.hid (HW.out.under hb)
    replace HK := Lib.hid (HK.out.under hb)
    replace Hatv := Lib.hid (Hatv.out.under hb)
    replace Hd2 := Lib.hid (Hd2.out.under hb)
    replace HQ2 := Lib.hid (HQ2.out.under hb)
    replace Hd3 := Lib.hid (Hd3.out.under hb)
    replace HQ3 := Lib.hid (HQ3.out.under hb)
    replace Hd4 := Lib.hid (Hd4.out.under hb)
    replace Hat4 := Lib.hid (Hat4.out.under hb)
    replace HV := Lib.hid (HV.out.under hb)
    replace HB := Lib.hid (HB.out.trans (hb.mono HB.out.size))
    have Hd6 := Lib.hid (show DIn w5 ad6 n6 cap6 fu4 fa4 fs4 from hd6)
    clear hgl hMNI
    clear hb hd6 d0 d1 d2 d3 d4 d5 d6 d7 hld h1N
    obtain ⟨W5, hW5⟩ : ∃ W, W = w5.alloc (.cells #[.slice ad6 n6 cap6, .bool dn4, .int .i64 fu4, .int .i64 fa4, .int .i64 sz4, .int .u64 fr4, .int .u64 nx4, .bool br4] 30) := ⟨_, rfl⟩
    have hbW5 : Below w5.heap.size w5 W5 := by rw [hW5]; exact (Below.refl _ w5).alloc (Nat.le_refl _) _
    replace HT := Lib.hid (HT.out.under hbW5)
    replace HS := Lib.hid (HS.out.under hbW5)
    replace HW := Lib.hid (HW.out.under hbW5)
    replace HK := Lib.hid (HK.out.under hbW5)
    replace Hatv := Lib.hid (Hatv.out.under hbW5)
    replace Hd2 := Lib.hid (Hd2.out.under hbW5)
    replace HQ2 := Lib.hid (HQ2.out.under hbW5)
    replace Hd3 := Lib.hid (Hd3.out.under hbW5)
    replace HQ3 := Lib.hid (HQ3.out.under hbW5)
    replace Hd4 := Lib.hid (Hd4.out.under hbW5)
    replace Hat4 := Lib.hid (Hat4.out.under hbW5)
    replace HV := Lib.hid (HV.out.under hbW5)
    replace Hd6 := Lib.hid (Hd6.out.under hbW5)
    replace HB := Lib.hid (HB.out.trans (hbW5.mono HB.out.size))
    have HE := Lib.hid (show Blk W5 w5.heap.size #[.slice ad6 n6 cap6, .bool dn4, .int .i64 fu4, .int .i64 fa4, .int .i64 sz4, .int .u64 fr4, .int .u64 nx4, .bool br4] 30 from by rw [hW5]; exact blk_new w5 _)
    clear hbW5
    go_upto_region 13 with (fail)
    rw [← hW5]
    clear hW5
    by_cases hm : 65536 < more.size
    · have hcd : cd3 = 4 := HA2.out.long hm
      subst hcd
      clear HA2 Hr
      go_wp2
      go_ret
      exact ⟨rfl, HB.out⟩
    have hmI : ¬ (65536 : Int) < (more.size : Int) := by omega
    have hfull : cd3 = 0 ∨ (cd3 = 8 ∧ fs3.length = 64) := HA2.out.full (by omega) rfl rfl
    have Hfull := Lib.hid hfull
    clear hfull
    obtain ⟨c0, c1, c2, c3, c4, c5, c6, c7⟩ := box8 HE.out
    have hlc := HE.out.lt
    have HI6 := Lib.hid (show LIn W5 ad6 n6 cap6 ⟨⟨fs4, dn4, fu4, fa4⟩, sz4, fr4, nx4, br4⟩ from by
      have h1 := HA2.out.sz
      have h2 := HA2.out.fr
      have h3 := HA2.out.n0
      have h4 := HA2.out.n1
      simp only at h1 h2 h3 h4
      exact ⟨Hd6.out, by show _ ≤ sz4; omega, by show sz4 ≤ _; omega, by show 0 ≤ fr4; omega, by show fr4 ≤ _; omega, h3, by show nx4 ≤ _; omega⟩)
    have hrec := records_any W5 ad6 n6 cap6 ⟨⟨fs4, dn4, fu4, fa4⟩, sz4, fr4, nx4, br4⟩ HI6.out HT.out HW.out
    have Hrec := Lib.hid hrec
    clear hrec HI6
    by_cases h64 : 64 ≤ n4
    · go_wp2_with fail
      refine (Hrec.out).mono ?_
      rintro e w6 ⟨hb, ⟨_, c, _, rfl⟩ | ⟨_, _, _, ad7, cap7, rfl, _⟩⟩
      all_goals
        clear Hrec c0 c1 c2 c3 c4 c5 c6 c7 hlc
        replace HV := Lib.hid (HV.out.under hb)
        replace HB := Lib.hid (HB.out.trans (hb.mono HB.out.size))
        clear hb
        obtain ⟨d0, d1, d2, d3, d4, d5, d6, d7⟩ := box8 HV.out
        have hld := HV.out.lt
        have h64I : (64 : Int) ≤ (n4 : Int) := by omega
        rcases Hfull.out with e | ⟨e, _⟩
        · subst e
          clear Hfull HA2 Hr
          go_wp2
          go_ret
          exact ⟨rfl, HB.out⟩
        · subst e
          clear Hfull HA2 Hr
          go_wp2
          go_ret
          exact ⟨rfl, HB.out⟩
    have hcd : cd3 = 0 := Hfull.out.elim id (fun h => by have := HN4.out; omega)
    subst hcd
    obtain ⟨q1, q2, hK2, hr1⟩ := HA2.out.ok rfl
    simp only at hK2
    have e1 : dn4 = false := congrArg (fun l => l.d.down) hr1
    have e5 : br4 = false := congrArg L.broken hr1
    have e2 : sz4 = size := congrArg L.size hr1
    have e3 : fr4 = 1 := congrArg L.fr hr1
    have e4 : nx4 = ((1 + (rs3.length + 1) : Nat) : Int) := congrArg L.nx hr1
    have HR4 := Lib.hid (show LRight ⟨⟨fs4, dn4, fu4, fa4⟩, sz4, fr4, nx4, br4⟩ from ⟨hK2.R, by show 1 ≤ sz4 ∧ sz4 ≤ 262144; rw [e2]; exact Hhs.out, by show fr4 ≤ nx4; omega, by show nx4 ≤ _; have := HN.out; omega⟩)
    have Hbr := Lib.hid (show (⟨⟨fs4, dn4, fu4, fa4⟩, sz4, fr4, nx4, br4⟩ : L).broken = false from e5)
    have Hdn := Lib.hid (show (⟨⟨fs4, dn4, fu4, fa4⟩, sz4, fr4, nx4, br4⟩ : L).d.down = false from e1)
    have hrdl : (rdF fs4).rs = rs3 ++ [⟨1 + rs3.length, more, q1, q2⟩] := by rw [kk_rdF hK2]
    have Hrd := Lib.hid (show (rdF (⟨⟨fs4, dn4, fu4, fa4⟩, sz4, fr4, nx4, br4⟩ : L).d.files).rs = rs3 ++ [⟨1 + rs3.length, more, q1, q2⟩] from hrdl)
    have Hhd := Lib.hid (show fr4 = 1 from e3)
    have Hxs := Lib.hid (show ((⟨1 + rs3.length, more, q1, q2⟩ : Rec).seq : Int) = x from by show ((1 + rs3.length : Nat) : Int) = x; have := Hx.out; have := HN.out; omega)
    obtain ⟨xr, hxr⟩ : ∃ r : Rec, r = ⟨1 + rs3.length, more, q1, q2⟩ := ⟨_, rfl⟩
    have Hxd := Lib.hid (show xr.data = more from by rw [hxr])
    rw [← hxr] at Hrd Hxs
    have HL1 := Lib.hid (show (rs3 ++ [xr]).length = N + 1 from by rw [List.length_append, HN.out]; rfl)
    clear hK2 hr1 e1 e5 e2 e3 e4 hrdl hxr HA2 Hr Hfull Hrec hm
    go_wp2_with fail
    refine (records_is W5 ad6 n6 cap6 ⟨⟨fs4, dn4, fu4, fa4⟩, sz4, fr4, nx4, br4⟩ (lin_of Hd6.out HR4.out (by show 0 ≤ fr4; have := Hhd.out; omega)) HR4.out Hbr.out Hdn.out Hrd.out HT.out HW.out).mono ?_
    rintro e w6 ⟨ad7, cap7, rfl, hat7, hb⟩
    replace HT := Lib.hid (HT.out.under hb)
    replace HS := Lib.hid (HS.out.under hb)
    replace HW := Lib.hid (HW.out.under hb)
    replace HK := Lib.hid (HK.out.under hb)
    replace Hatv := Lib.hid (Hatv.out.under hb)
    replace Hd2 := Lib.hid (Hd2.out.under hb)
    replace HQ2 := Lib.hid (HQ2.out.under hb)
    replace Hd3 := Lib.hid (Hd3.out.under hb)
    replace HQ3 := Lib.hid (HQ3.out.under hb)
    replace Hd4 := Lib.hid (Hd4.out.under hb)
    replace Hat4 := Lib.hid (Hat4.out.under hb)
    replace HV := Lib.hid (HV.out.under hb)
    replace Hd6 := Lib.hid (Hd6.out.under hb)
    replace HE := Lib.hid (HE.out.under hb)
    replace HB := Lib.hid (HB.out.trans (hb.mono HB.out.size))
    rw [HL1.out]
    have Hat7 := Lib.hid hat7
    clear hb hat7 c0 c1 c2 c3 c4 c5 c6 c7 hlc
    have h64I : ¬ (64 : Int) ≤ (n4 : Int) := by omega
    obtain ⟨d0, d1, d2, d3, d4, d5, d6, d7⟩ := box8 HV.out
    have hld := HV.out.lt
    go_upto_region 18 with (fail)
    refine wp_region_any (by kernel_rfl) ?_
    obtain ⟨Y, hY⟩ : ∃ W, w6.drew = W := ⟨_, rfl⟩
    change wpAny _ _ _ _ _ _ _ (w6.drew)
    rw [hY]
    have hb : Below w6.heap.size w6 Y := by rw [← hY]; exact (Below.refl _ w6).drew
    replace HT := Lib.hid (HT.out.under hb)
    replace HS := Lib.hid (HS.out.under hb)
    replace HW := Lib.hid (HW.out.under hb)
    replace HK := Lib.hid (HK.out.under hb)
    replace Hatv := Lib.hid (Hatv.out.under hb)
    replace Hd2 := Lib.hid (Hd2.out.under hb)
    replace HQ2 := Lib.hid (HQ2.out.under hb)
    replace Hd3 := Lib.hid (Hd3.out.under hb)
    replace HQ3 := Lib.hid (HQ3.out.under hb)
    replace Hd4 := Lib.hid (Hd4.out.under hb)
    replace Hat4 := Lib.hid (Hat4.out.under hb)
    replace HV := Lib.hid (HV.out.under hb)
    replace Hd6 := Lib.hid (Hd6.out.under hb)
    replace HE := Lib.hid (HE.out.under hb)
    replace Hat7 := Lib.hid (Hat7.out.under hb)
    replace HB := Lib.hid (HB.out.trans (hb.mono HB.out.size))
    clear hb hY d0 d1 d2 d3 d4 d5 d6 d7 hld
    have HbS := Lib.hid (Below.refl Y.heap.size Y)
    obtain ⟨d0, d1, d2, d3, d4, d5, d6, d7⟩ := box8 HV.out
    have hld := HV.out.lt
    refine wpAny_take (i := 0) (v := ?v1) rfl (by kernel_rfl) (by kernel_rfl) (by kernel_rfl) (fun _ _ _ h => h) (Or.inl ⟨by kernel_rfl, ?h1⟩) ?r1
    case h1 => (intro w; go_simp; first | done | (with_reducible rfl))
    refine wpAny_take (i := 1) (v := ?v2) rfl (by kernel_rfl) (by kernel_rfl) (by kernel_rfl) (fun _ _ _ h => h) (Or.inl ⟨by kernel_rfl, ?h2⟩) ?r2
    case h2 => (intro w; go_simp; first | done | (with_reducible rfl))
    refine wpAny_take (i := 2) (v := ?v3) rfl (by kernel_rfl) (by kernel_rfl) (by kernel_rfl) (fun _ _ _ h => h) (Or.inl ⟨by kernel_rfl, ?h3⟩) ?r3
    case h3 => (intro w; go_simp; first | done | (with_reducible rfl))
    refine wpAny_take (i := 3) (v := ?v4) rfl (by kernel_rfl) (by kernel_rfl) (by kernel_rfl) (fun _ _ _ h => h) (Or.inl ⟨by kernel_rfl, ?h4⟩) ?r4
    case h4 => (intro w; go_simp; first | done | (with_reducible rfl))
    refine wpAny_take (i := 4) (v := ?v5) rfl (by kernel_rfl) (by kernel_rfl) (by kernel_rfl) (fun _ _ _ h => h) (Or.inl ⟨by kernel_rfl, ?h5⟩) ?r5
    case h5 => (intro w; go_simp; first | done | (with_reducible rfl))
    refine wpAny_take (i := 5) (v := ?v6) rfl (by kernel_rfl) (by kernel_rfl) (by kernel_rfl) (fun _ _ _ h => h) (Or.inl ⟨by kernel_rfl, ?h6⟩) ?r6
    case h6 => (intro w; go_simp; first | done | (with_reducible rfl))
    refine wpAny_take (i := 6) (v := ?v7) rfl (by kernel_rfl) (by kernel_rfl) (by kernel_rfl) (fun _ _ _ h => h) (Or.inl ⟨by kernel_rfl, ?h7⟩) ?r7
    case h7 => (intro w; go_simp; first | done | (with_reducible rfl))
    refine wpAny_take (i := 7) (v := ?v8) rfl (by kernel_rfl) (by kernel_rfl) (by kernel_rfl) (fun _ _ _ h => h) (Or.inl ⟨by kernel_rfl, ?h8⟩) ?r8
    case h8 => (intro w; go_simp; first | done | (with_reducible rfl))
    refine wpAny_take (i := 9) (v := ?v9) rfl (by kernel_rfl) (by kernel_rfl) (by kernel_rfl) (fun _ _ _ h => h) (Or.inl ⟨by kernel_rfl, ?h9⟩) ?r9
    case h9 => (intro w; go_simp; first | done | (with_reducible rfl))
    refine wpAny_take (i := 11) (v := ?v10) rfl (by kernel_rfl) (by kernel_rfl) (by kernel_rfl) (fun _ _ _ h => h) (Or.inl ⟨by kernel_rfl, ?h10⟩) ?r10
    case h10 => (intro w; go_simp; first | done | (with_reducible rfl))
    refine wpAny_take (i := 13) (v := ?v11) rfl (by kernel_rfl) (by kernel_rfl) (by kernel_rfl) (fun _ _ _ h => h) (Or.inl ⟨by kernel_rfl, ?h11⟩) ?r11
    case h11 => (intro w; go_simp; first | done | (with_reducible rfl))
    refine wpAny_ready (rs := [8, 12]) (by kernel_rfl) (by simp) ?_
    refine AllReady.cons rfl (fun K hK => ?_) ?_
    · skip
      go_simp
      refine hK _ _ ?_
      clear hK K
      obtain ⟨Y1, hD⟩ : ∃ W, W = Y.alloc (.cells #[] 41) := ⟨_, rfl⟩
      rw [← hD]
      have hbD : Below Y.heap.size Y Y1 := by rw [hD]; exact (Below.refl _ Y).alloc (Nat.le_refl _) _
      have Hrow := Lib.hid (show Y1.ownsRow Y.heap.size 41 2 (.slice (some ⟨Y.heap.size, 0, none⟩) 0 0) 0 [] from by rw [hD]; exact row_empty Y _ HbS.out.size)
      have HszY1 := Lib.hid (show Y1.heap.size = Y.heap.size + 1 from by rw [hD]; exact sz_alloc _ _)
      replace HbS := Lib.hid (HbS.out.trans (hbD.mono HbS.out.size))
      clear hbD hD
      clear d0 d1 d2 d3 d4 d5 d6 d7 hld
      obtain ⟨d0, d1, d2, d3, d4, d5, d6, d7⟩ := box8 (HV.out.under HbS.out)
      have hld := (HV.out.under HbS.out).lt
      refine wpAny_ready (rs := [10, 12]) (by kernel_rfl) (by simp) ?_
      refine AllReady.cons rfl (fun K hK => ?_) ?_
      · skip
        have hat := Hat4.out.under HbS.out
        obtain ⟨v10, Y2, hrun, hrow10, hg10⟩ := app_recs Y1 Y.heap.size _ Hrow.out hat HN.out Hcap.out.2 (by omega) HbS.out.size
        rw [if_pos (by kernel_rfl)]
        refine op_app (.tmp 135) (.tmp 136) (.slice (some ⟨Y.heap.size, 0, none⟩) 0 0) (.slice (some ⟨g1, o1, none⟩) N cap5) (by kernel_rfl) (by kernel_rfl) rfl hrun ?_
        refine hK _ _ ?_
        clear hK K
        have hge : Y.heap.size ≤ Y.heap.size := (World.ownsRow.lt Hrow.out _ rfl).1
        have hbD : Below Y.heap.size Y1 Y2 := (Below.refl _ Y1).grown hg10 HbS.out.size (fun k e => by simp [Value.ownBlock] at e; omega)
        have Hrow10 := Lib.hid hrow10
        replace HbS := Lib.hid (HbS.out.trans hbD)
        clear hbD hrun hrow10 hg10 hge hat Hrow
        clear d0 d1 d2 d3 d4 d5 d6 d7 hld
        obtain ⟨d0, d1, d2, d3, d4, d5, d6, d7⟩ := box8 (HV.out.under HbS.out)
        have hld := (HV.out.under HbS.out).lt
        refine wpAny_ready (rs := [12]) (by kernel_rfl) (by simp) ?_
        refine AllReady.cons rfl (fun K hK => ?_) AllReady.nil
        go_simp
        refine hK _ _ ?_
        clear hK K
        refine wpAny_take (i := 14) (v := ?v12) rfl (by kernel_rfl) (by kernel_rfl) (by kernel_rfl) (fun _ _ _ h => h) (Or.inl ⟨by kernel_rfl, ?h12⟩) ?r12
        case h12 => (intro w; go_simp; first | done | (with_reducible rfl))
        refine wpAny_ready (rs := [15]) (by kernel_rfl) (by simp) ?_
        refine AllReady.cons rfl (fun K hK => ?_) AllReady.nil
        go_simp
        refine hK _ _ ?_
        clear hK K
        obtain ⟨Y3, hD⟩ : ∃ W, W = Y2.alloc (.cells #[.int .u64 x, .string more] 41) := ⟨_, rfl⟩
        rw [← hD]
        have hbD : Below Y2.heap.size Y2 Y3 := by rw [hD]; exact (Below.refl _ Y2).alloc (Nat.le_refl _) _
        have Hbox := Lib.hid (show Y3.heap[Y2.heap.size]? = some (.cells #[.int .u64 x, .string more] 41 (0, 0)) from by rw [hD]; exact blk_new Y2 _)
        have HszY3 := Lib.hid (show Y3.heap.size = Y2.heap.size + 1 from by rw [hD]; exact sz_alloc _ _)
        replace Hrow10 := Lib.hid (row_under Hrow10.out hbD)
        replace HbS := Lib.hid (HbS.out.trans (hbD.mono HbS.out.size))
        clear hbD hD
        clear d0 d1 d2 d3 d4 d5 d6 d7 hld
        obtain ⟨d0, d1, d2, d3, d4, d5, d6, d7⟩ := box8 (HV.out.under HbS.out)
        have hld := (HV.out.under HbS.out).lt
        refine wpAny_ready (rs := [16]) (by kernel_rfl) (by simp) ?_
        refine AllReady.cons rfl (fun K hK => ?_) AllReady.nil
        obtain ⟨v16, Y4, hrun, hrow16, hg16⟩ := app_more Y3 Y.heap.size Y2.heap.size v10 rs3 xr HN.out HbS.out.size Hrow10.out (by omega) (by rw [Hxs.out, Hxd.out]; exact Hbox.out)
        rw [if_pos (by kernel_rfl)]
        refine op_app (.tmp 137) (.tmp 142) v10 (.slice (some ⟨Y2.heap.size, 0, none⟩) 1 1) (by kernel_rfl) (by kernel_rfl) rfl hrun ?_
        refine hK _ _ ?_
        clear hK K
        have hbD : Below Y.heap.size Y3 Y4 := (Below.refl _ Y3).grown hg16 HbS.out.size (fun k e => (World.ownsRow.lt Hrow10.out k e).1)
        obtain ⟨ad16, cap16, hv16, hat16, _⟩ := hrow16.form
        rw [HL1.out] at hv16
        subst hv16
        have Hat16 := Lib.hid hat16
        replace HbS := Lib.hid (HbS.out.trans hbD)
        clear hbD hrun hrow16 hg16 hat16
        clear d0 d1 d2 d3 d4 d5 d6 d7 hld
        obtain ⟨d0, d1, d2, d3, d4, d5, d6, d7⟩ := box8 (HV.out.under HbS.out)
        have hld := (HV.out.under HbS.out).lt
        refine wpAny_ready (rs := [17]) (by kernel_rfl) (by simp) ?_
        refine AllReady.cons rfl (fun K hK => ?_) AllReady.nil
        have hat := Hat7.out.under HbS.out
        have hsame := rsame_yes Y4 ad7 ad16 cap7 cap16 (rs3 ++ [xr]) hat Hat16.out (by rw [HL1.out]; omega)
        rw [HL1.out] at hsame
        have Hsame := Lib.hid hsame
        clear hsame hat
        go_simp
        go_at_call 13
        refine (Hsame.out).mono ?_
        rintro e w9 ⟨rfl, hb9⟩
        have HBe := Lib.hid ((HB.out.trans (HbS.out.mono HB.out.size)).trans (hb9.mono (by have h1 := HB.out.size; have h2 := HbS.out.size; omega)))
        clear hb9 Hsame
        refine hK _ _ ?_
        clear hK K
        refine wpAny_take (i := 18) (v := ?v13) rfl (by kernel_rfl) (by kernel_rfl) (by kernel_rfl) (fun _ _ _ h => h) (Or.inl ⟨by kernel_rfl, ?h13⟩) ?r13
        case h13 => (intro w; go_simp; first | done | (with_reducible rfl))
        refine wpAny_ready (rs := [19]) (by kernel_rfl) (by simp) ?_
        refine AllReady.cons rfl (fun K hK => ?_) AllReady.nil
        go_simp
        refine hK _ _ ?_
        clear hK K
        refine wpAny_done (by kernel_rfl) ?_ _
        try go_simp
        clear d0 d1 d2 d3 d4 d5 d6 d7 hld
        go_wp2
        go_ret
        exact ⟨rfl, HBe.out⟩
      refine AllReady.cons rfl (fun K hK => ?_) AllReady.nil
      go_simp
      refine hK _ _ ?_
      clear hK K
      refine wpAny_take (i := 14) (v := ?v14) rfl (by kernel_rfl) (by kernel_rfl) (by kernel_rfl) (fun _ _ _ h => h) (Or.inl ⟨by kernel_rfl, ?h14⟩) ?r14
      case h14 => (intro w; go_simp; first | done | (with_reducible rfl))
      refine wpAny_ready (rs := [10, 15]) (by kernel_rfl) (by simp) ?_
      refine AllReady.cons rfl (fun K hK => ?_) ?_
      · skip
        have hat := Hat4.out.under HbS.out
        obtain ⟨v10, Y2, hrun, hrow10, hg10⟩ := app_recs Y1 Y.heap.size _ Hrow.out hat HN.out Hcap.out.2 (by omega) HbS.out.size
        rw [if_pos (by kernel_rfl)]
        refine op_app (.tmp 135) (.tmp 136) (.slice (some ⟨Y.heap.size, 0, none⟩) 0 0) (.slice (some ⟨g1, o1, none⟩) N cap5) (by kernel_rfl) (by kernel_rfl) rfl hrun ?_
        refine hK _ _ ?_
        clear hK K
        have hge : Y.heap.size ≤ Y.heap.size := (World.ownsRow.lt Hrow.out _ rfl).1
        have hbD : Below Y.heap.size Y1 Y2 := (Below.refl _ Y1).grown hg10 HbS.out.size (fun k e => by simp [Value.ownBlock] at e; omega)
        have Hrow10 := Lib.hid hrow10
        replace HbS := Lib.hid (HbS.out.trans hbD)
        clear hbD hrun hrow10 hg10 hge hat Hrow
        clear d0 d1 d2 d3 d4 d5 d6 d7 hld
        obtain ⟨d0, d1, d2, d3, d4, d5, d6, d7⟩ := box8 (HV.out.under HbS.out)
        have hld := (HV.out.under HbS.out).lt
        refine wpAny_ready (rs := [15]) (by kernel_rfl) (by simp) ?_
        refine AllReady.cons rfl (fun K hK => ?_) AllReady.nil
        go_simp
        refine hK _ _ ?_
        clear hK K
        obtain ⟨Y3, hD⟩ : ∃ W, W = Y2.alloc (.cells #[.int .u64 x, .string more] 41) := ⟨_, rfl⟩
        rw [← hD]
        have hbD : Below Y2.heap.size Y2 Y3 := by rw [hD]; exact (Below.refl _ Y2).alloc (Nat.le_refl _) _
        have Hbox := Lib.hid (show Y3.heap[Y2.heap.size]? = some (.cells #[.int .u64 x, .string more] 41 (0, 0)) from by rw [hD]; exact blk_new Y2 _)
        have HszY3 := Lib.hid (show Y3.heap.size = Y2.heap.size + 1 from by rw [hD]; exact sz_alloc _ _)
        replace Hrow10 := Lib.hid (row_under Hrow10.out hbD)
        replace HbS := Lib.hid (HbS.out.trans (hbD.mono HbS.out.size))
        clear hbD hD
        clear d0 d1 d2 d3 d4 d5 d6 d7 hld
        obtain ⟨d0, d1, d2, d3, d4, d5, d6, d7⟩ := box8 (HV.out.under HbS.out)
        have hld := (HV.out.under HbS.out).lt
        refine wpAny_ready (rs := [16]) (by kernel_rfl) (by simp) ?_
        refine AllReady.cons rfl (fun K hK => ?_) AllReady.nil
        obtain ⟨v16, Y4, hrun, hrow16, hg16⟩ := app_more Y3 Y.heap.size Y2.heap.size v10 rs3 xr HN.out HbS.out.size Hrow10.out (by omega) (by rw [Hxs.out, Hxd.out]; exact Hbox.out)
        rw [if_pos (by kernel_rfl)]
        refine op_app (.tmp 137) (.tmp 142) v10 (.slice (some ⟨Y2.heap.size, 0, none⟩) 1 1) (by kernel_rfl) (by kernel_rfl) rfl hrun ?_
        refine hK _ _ ?_
        clear hK K
        have hbD : Below Y.heap.size Y3 Y4 := (Below.refl _ Y3).grown hg16 HbS.out.size (fun k e => (World.ownsRow.lt Hrow10.out k e).1)
        obtain ⟨ad16, cap16, hv16, hat16, _⟩ := hrow16.form
        rw [HL1.out] at hv16
        subst hv16
        have Hat16 := Lib.hid hat16
        replace HbS := Lib.hid (HbS.out.trans hbD)
        clear hbD hrun hrow16 hg16 hat16
        clear d0 d1 d2 d3 d4 d5 d6 d7 hld
        obtain ⟨d0, d1, d2, d3, d4, d5, d6, d7⟩ := box8 (HV.out.under HbS.out)
        have hld := (HV.out.under HbS.out).lt
        refine wpAny_ready (rs := [17]) (by kernel_rfl) (by simp) ?_
        refine AllReady.cons rfl (fun K hK => ?_) AllReady.nil
        have hat := Hat7.out.under HbS.out
        have hsame := rsame_yes Y4 ad7 ad16 cap7 cap16 (rs3 ++ [xr]) hat Hat16.out (by rw [HL1.out]; omega)
        rw [HL1.out] at hsame
        have Hsame := Lib.hid hsame
        clear hsame hat
        go_simp
        go_at_call 13
        refine (Hsame.out).mono ?_
        rintro e w9 ⟨rfl, hb9⟩
        have HBe := Lib.hid ((HB.out.trans (HbS.out.mono HB.out.size)).trans (hb9.mono (by have h1 := HB.out.size; have h2 := HbS.out.size; omega)))
        clear hb9 Hsame
        refine hK _ _ ?_
        clear hK K
        refine wpAny_take (i := 18) (v := ?v15) rfl (by kernel_rfl) (by kernel_rfl) (by kernel_rfl) (fun _ _ _ h => h) (Or.inl ⟨by kernel_rfl, ?h15⟩) ?r15
        case h15 => (intro w; go_simp; first | done | (with_reducible rfl))
        refine wpAny_ready (rs := [19]) (by kernel_rfl) (by simp) ?_
        refine AllReady.cons rfl (fun K hK => ?_) AllReady.nil
        go_simp
        refine hK _ _ ?_
        clear hK K
        refine wpAny_done (by kernel_rfl) ?_ _
        try go_simp
        clear d0 d1 d2 d3 d4 d5 d6 d7 hld
        go_wp2
        go_ret
        exact ⟨rfl, HBe.out⟩
      refine AllReady.cons rfl (fun K hK => ?_) AllReady.nil
      go_simp
      refine hK _ _ ?_
      clear hK K
      obtain ⟨Y2, hD⟩ : ∃ W, W = Y1.alloc (.cells #[.int .u64 x, .string more] 41) := ⟨_, rfl⟩
      rw [← hD]
      have hbD : Below Y1.heap.size Y1 Y2 := by rw [hD]; exact (Below.refl _ Y1).alloc (Nat.le_refl _) _
      have Hbox := Lib.hid (show Y2.heap[Y1.heap.size]? = some (.cells #[.int .u64 x, .string more] 41 (0, 0)) from by rw [hD]; exact blk_new Y1 _)
      have HszY2 := Lib.hid (show Y2.heap.size = Y1.heap.size + 1 from by rw [hD]; exact sz_alloc _ _)
      replace Hrow := Lib.hid (row_under Hrow.out hbD)
      replace HbS := Lib.hid (HbS.out.trans (hbD.mono HbS.out.size))
      clear hbD hD
      clear d0 d1 d2 d3 d4 d5 d6 d7 hld
      obtain ⟨d0, d1, d2, d3, d4, d5, d6, d7⟩ := box8 (HV.out.under HbS.out)
      have hld := (HV.out.under HbS.out).lt
      refine wpAny_ready (rs := [10]) (by kernel_rfl) (by simp) ?_
      refine AllReady.cons rfl (fun K hK => ?_) AllReady.nil
      have hat := Hat4.out.under HbS.out
      obtain ⟨v10, Y3, hrun, hrow10, hg10⟩ := app_recs Y2 Y.heap.size _ Hrow.out hat HN.out Hcap.out.2 (by omega) HbS.out.size
      rw [if_pos (by kernel_rfl)]
      refine op_app (.tmp 135) (.tmp 136) (.slice (some ⟨Y.heap.size, 0, none⟩) 0 0) (.slice (some ⟨g1, o1, none⟩) N cap5) (by kernel_rfl) (by kernel_rfl) rfl hrun ?_
      refine hK _ _ ?_
      clear hK K
      have hge : Y.heap.size ≤ Y.heap.size := (World.ownsRow.lt Hrow.out _ rfl).1
      have hbD : Below Y.heap.size Y2 Y3 := (Below.refl _ Y2).grown hg10 HbS.out.size (fun k e => by simp [Value.ownBlock] at e; omega)
      have Hrow10 := Lib.hid hrow10
      have hne : Y.heap.size ≠ Y1.heap.size := by have h1 := HszY1.out; have h2 := HszY2.out; omega
      replace Hbox := Lib.hid ((hg10.block _ (Array.getElem?_eq_some_iff.1 Hbox.out).1 (fun e => by simp [Value.ownBlock] at e; exact hne e.symm)).trans Hbox.out)
      clear hne
      replace HbS := Lib.hid (HbS.out.trans hbD)
      clear hbD hrun hrow10 hg10 hge hat Hrow
      clear d0 d1 d2 d3 d4 d5 d6 d7 hld
      obtain ⟨d0, d1, d2, d3, d4, d5, d6, d7⟩ := box8 (HV.out.under HbS.out)
      have hld := (HV.out.under HbS.out).lt
      refine wpAny_ready (rs := [16]) (by kernel_rfl) (by simp) ?_
      refine AllReady.cons rfl (fun K hK => ?_) AllReady.nil
      obtain ⟨v16, Y4, hrun, hrow16, hg16⟩ := app_more Y3 Y.heap.size Y1.heap.size v10 rs3 xr HN.out HbS.out.size Hrow10.out (by omega) (by rw [Hxs.out, Hxd.out]; exact Hbox.out)
      rw [if_pos (by kernel_rfl)]
      refine op_app (.tmp 137) (.tmp 142) v10 (.slice (some ⟨Y1.heap.size, 0, none⟩) 1 1) (by kernel_rfl) (by kernel_rfl) rfl hrun ?_
      refine hK _ _ ?_
      clear hK K
      have hbD : Below Y.heap.size Y3 Y4 := (Below.refl _ Y3).grown hg16 HbS.out.size (fun k e => (World.ownsRow.lt Hrow10.out k e).1)
      obtain ⟨ad16, cap16, hv16, hat16, _⟩ := hrow16.form
      rw [HL1.out] at hv16
      subst hv16
      have Hat16 := Lib.hid hat16
      replace HbS := Lib.hid (HbS.out.trans hbD)
      clear hbD hrun hrow16 hg16 hat16
      clear d0 d1 d2 d3 d4 d5 d6 d7 hld
      obtain ⟨d0, d1, d2, d3, d4, d5, d6, d7⟩ := box8 (HV.out.under HbS.out)
      have hld := (HV.out.under HbS.out).lt
      refine wpAny_ready (rs := [17]) (by kernel_rfl) (by simp) ?_
      refine AllReady.cons rfl (fun K hK => ?_) AllReady.nil
      have hat := Hat7.out.under HbS.out
      have hsame := rsame_yes Y4 ad7 ad16 cap7 cap16 (rs3 ++ [xr]) hat Hat16.out (by rw [HL1.out]; omega)
      rw [HL1.out] at hsame
      have Hsame := Lib.hid hsame
      clear hsame hat
      go_simp
      go_at_call 13
      refine (Hsame.out).mono ?_
      rintro e w9 ⟨rfl, hb9⟩
      have HBe := Lib.hid ((HB.out.trans (HbS.out.mono HB.out.size)).trans (hb9.mono (by have h1 := HB.out.size; have h2 := HbS.out.size; omega)))
      clear hb9 Hsame
      refine hK _ _ ?_
      clear hK K
      refine wpAny_take (i := 18) (v := ?v16) rfl (by kernel_rfl) (by kernel_rfl) (by kernel_rfl) (fun _ _ _ h => h) (Or.inl ⟨by kernel_rfl, ?h16⟩) ?r16
      case h16 => (intro w; go_simp; first | done | (with_reducible rfl))
      refine wpAny_ready (rs := [19]) (by kernel_rfl) (by simp) ?_
      refine AllReady.cons rfl (fun K hK => ?_) AllReady.nil
      go_simp
      refine hK _ _ ?_
      clear hK K
      refine wpAny_done (by kernel_rfl) ?_ _
      try go_simp
      clear d0 d1 d2 d3 d4 d5 d6 d7 hld
      go_wp2
      go_ret
      exact ⟨rfl, HBe.out⟩
    refine AllReady.cons rfl (fun K hK => ?_) AllReady.nil
    go_simp
    refine hK _ _ ?_
    clear hK K
    refine wpAny_take (i := 14) (v := ?v17) rfl (by kernel_rfl) (by kernel_rfl) (by kernel_rfl) (fun _ _ _ h => h) (Or.inl ⟨by kernel_rfl, ?h17⟩) ?r17
    case h17 => (intro w; go_simp; first | done | (with_reducible rfl))
    refine wpAny_ready (rs := [8, 15]) (by kernel_rfl) (by simp) ?_
    refine AllReady.cons rfl (fun K hK => ?_) ?_
    · skip
      go_simp
      refine hK _ _ ?_
      clear hK K
      obtain ⟨Y1, hD⟩ : ∃ W, W = Y.alloc (.cells #[] 41) := ⟨_, rfl⟩
      rw [← hD]
      have hbD : Below Y.heap.size Y Y1 := by rw [hD]; exact (Below.refl _ Y).alloc (Nat.le_refl _) _
      have Hrow := Lib.hid (show Y1.ownsRow Y.heap.size 41 2 (.slice (some ⟨Y.heap.size, 0, none⟩) 0 0) 0 [] from by rw [hD]; exact row_empty Y _ HbS.out.size)
      have HszY1 := Lib.hid (show Y1.heap.size = Y.heap.size + 1 from by rw [hD]; exact sz_alloc _ _)
      replace HbS := Lib.hid (HbS.out.trans (hbD.mono HbS.out.size))
      clear hbD hD
      clear d0 d1 d2 d3 d4 d5 d6 d7 hld
      obtain ⟨d0, d1, d2, d3, d4, d5, d6, d7⟩ := box8 (HV.out.under HbS.out)
      have hld := (HV.out.under HbS.out).lt
      refine wpAny_ready (rs := [10, 15]) (by kernel_rfl) (by simp) ?_
      refine AllReady.cons rfl (fun K hK => ?_) ?_
      · skip
        have hat := Hat4.out.under HbS.out
        obtain ⟨v10, Y2, hrun, hrow10, hg10⟩ := app_recs Y1 Y.heap.size _ Hrow.out hat HN.out Hcap.out.2 (by omega) HbS.out.size
        rw [if_pos (by kernel_rfl)]
        refine op_app (.tmp 135) (.tmp 136) (.slice (some ⟨Y.heap.size, 0, none⟩) 0 0) (.slice (some ⟨g1, o1, none⟩) N cap5) (by kernel_rfl) (by kernel_rfl) rfl hrun ?_
        refine hK _ _ ?_
        clear hK K
        have hge : Y.heap.size ≤ Y.heap.size := (World.ownsRow.lt Hrow.out _ rfl).1
        have hbD : Below Y.heap.size Y1 Y2 := (Below.refl _ Y1).grown hg10 HbS.out.size (fun k e => by simp [Value.ownBlock] at e; omega)
        have Hrow10 := Lib.hid hrow10
        replace HbS := Lib.hid (HbS.out.trans hbD)
        clear hbD hrun hrow10 hg10 hge hat Hrow
        clear d0 d1 d2 d3 d4 d5 d6 d7 hld
        obtain ⟨d0, d1, d2, d3, d4, d5, d6, d7⟩ := box8 (HV.out.under HbS.out)
        have hld := (HV.out.under HbS.out).lt
        refine wpAny_ready (rs := [15]) (by kernel_rfl) (by simp) ?_
        refine AllReady.cons rfl (fun K hK => ?_) AllReady.nil
        go_simp
        refine hK _ _ ?_
        clear hK K
        obtain ⟨Y3, hD⟩ : ∃ W, W = Y2.alloc (.cells #[.int .u64 x, .string more] 41) := ⟨_, rfl⟩
        rw [← hD]
        have hbD : Below Y2.heap.size Y2 Y3 := by rw [hD]; exact (Below.refl _ Y2).alloc (Nat.le_refl _) _
        have Hbox := Lib.hid (show Y3.heap[Y2.heap.size]? = some (.cells #[.int .u64 x, .string more] 41 (0, 0)) from by rw [hD]; exact blk_new Y2 _)
        have HszY3 := Lib.hid (show Y3.heap.size = Y2.heap.size + 1 from by rw [hD]; exact sz_alloc _ _)
        replace Hrow10 := Lib.hid (row_under Hrow10.out hbD)
        replace HbS := Lib.hid (HbS.out.trans (hbD.mono HbS.out.size))
        clear hbD hD
        clear d0 d1 d2 d3 d4 d5 d6 d7 hld
        obtain ⟨d0, d1, d2, d3, d4, d5, d6, d7⟩ := box8 (HV.out.under HbS.out)
        have hld := (HV.out.under HbS.out).lt
        refine wpAny_ready (rs := [16]) (by kernel_rfl) (by simp) ?_
        refine AllReady.cons rfl (fun K hK => ?_) AllReady.nil
        obtain ⟨v16, Y4, hrun, hrow16, hg16⟩ := app_more Y3 Y.heap.size Y2.heap.size v10 rs3 xr HN.out HbS.out.size Hrow10.out (by omega) (by rw [Hxs.out, Hxd.out]; exact Hbox.out)
        rw [if_pos (by kernel_rfl)]
        refine op_app (.tmp 137) (.tmp 142) v10 (.slice (some ⟨Y2.heap.size, 0, none⟩) 1 1) (by kernel_rfl) (by kernel_rfl) rfl hrun ?_
        refine hK _ _ ?_
        clear hK K
        have hbD : Below Y.heap.size Y3 Y4 := (Below.refl _ Y3).grown hg16 HbS.out.size (fun k e => (World.ownsRow.lt Hrow10.out k e).1)
        obtain ⟨ad16, cap16, hv16, hat16, _⟩ := hrow16.form
        rw [HL1.out] at hv16
        subst hv16
        have Hat16 := Lib.hid hat16
        replace HbS := Lib.hid (HbS.out.trans hbD)
        clear hbD hrun hrow16 hg16 hat16
        clear d0 d1 d2 d3 d4 d5 d6 d7 hld
        obtain ⟨d0, d1, d2, d3, d4, d5, d6, d7⟩ := box8 (HV.out.under HbS.out)
        have hld := (HV.out.under HbS.out).lt
        refine wpAny_ready (rs := [17]) (by kernel_rfl) (by simp) ?_
        refine AllReady.cons rfl (fun K hK => ?_) AllReady.nil
        have hat := Hat7.out.under HbS.out
        have hsame := rsame_yes Y4 ad7 ad16 cap7 cap16 (rs3 ++ [xr]) hat Hat16.out (by rw [HL1.out]; omega)
        rw [HL1.out] at hsame
        have Hsame := Lib.hid hsame
        clear hsame hat
        go_simp
        go_at_call 13
        refine (Hsame.out).mono ?_
        rintro e w9 ⟨rfl, hb9⟩
        have HBe := Lib.hid ((HB.out.trans (HbS.out.mono HB.out.size)).trans (hb9.mono (by have h1 := HB.out.size; have h2 := HbS.out.size; omega)))
        clear hb9 Hsame
        refine hK _ _ ?_
        clear hK K
        refine wpAny_take (i := 18) (v := ?v18) rfl (by kernel_rfl) (by kernel_rfl) (by kernel_rfl) (fun _ _ _ h => h) (Or.inl ⟨by kernel_rfl, ?h18⟩) ?r18
        case h18 => (intro w; go_simp; first | done | (with_reducible rfl))
        refine wpAny_ready (rs := [19]) (by kernel_rfl) (by simp) ?_
        refine AllReady.cons rfl (fun K hK => ?_) AllReady.nil
        go_simp
        refine hK _ _ ?_
        clear hK K
        refine wpAny_done (by kernel_rfl) ?_ _
        try go_simp
        clear d0 d1 d2 d3 d4 d5 d6 d7 hld
        go_wp2
        go_ret
        exact ⟨rfl, HBe.out⟩
      refine AllReady.cons rfl (fun K hK => ?_) AllReady.nil
      go_simp
      refine hK _ _ ?_
      clear hK K
      obtain ⟨Y2, hD⟩ : ∃ W, W = Y1.alloc (.cells #[.int .u64 x, .string more] 41) := ⟨_, rfl⟩
      rw [← hD]
      have hbD : Below Y1.heap.size Y1 Y2 := by rw [hD]; exact (Below.refl _ Y1).alloc (Nat.le_refl _) _
      have Hbox := Lib.hid (show Y2.heap[Y1.heap.size]? = some (.cells #[.int .u64 x, .string more] 41 (0, 0)) from by rw [hD]; exact blk_new Y1 _)
      have HszY2 := Lib.hid (show Y2.heap.size = Y1.heap.size + 1 from by rw [hD]; exact sz_alloc _ _)
      replace Hrow := Lib.hid (row_under Hrow.out hbD)
      replace HbS := Lib.hid (HbS.out.trans (hbD.mono HbS.out.size))
      clear hbD hD
      clear d0 d1 d2 d3 d4 d5 d6 d7 hld
      obtain ⟨d0, d1, d2, d3, d4, d5, d6, d7⟩ := box8 (HV.out.under HbS.out)
      have hld := (HV.out.under HbS.out).lt
      refine wpAny_ready (rs := [10]) (by kernel_rfl) (by simp) ?_
      refine AllReady.cons rfl (fun K hK => ?_) AllReady.nil
      have hat := Hat4.out.under HbS.out
      obtain ⟨v10, Y3, hrun, hrow10, hg10⟩ := app_recs Y2 Y.heap.size _ Hrow.out hat HN.out Hcap.out.2 (by omega) HbS.out.size
      rw [if_pos (by kernel_rfl)]
      refine op_app (.tmp 135) (.tmp 136) (.slice (some ⟨Y.heap.size, 0, none⟩) 0 0) (.slice (some ⟨g1, o1, none⟩) N cap5) (by kernel_rfl) (by kernel_rfl) rfl hrun ?_
      refine hK _ _ ?_
      clear hK K
      have hge : Y.heap.size ≤ Y.heap.size := (World.ownsRow.lt Hrow.out _ rfl).1
      have hbD : Below Y.heap.size Y2 Y3 := (Below.refl _ Y2).grown hg10 HbS.out.size (fun k e => by simp [Value.ownBlock] at e; omega)
      have Hrow10 := Lib.hid hrow10
      have hne : Y.heap.size ≠ Y1.heap.size := by have h1 := HszY1.out; have h2 := HszY2.out; omega
      replace Hbox := Lib.hid ((hg10.block _ (Array.getElem?_eq_some_iff.1 Hbox.out).1 (fun e => by simp [Value.ownBlock] at e; exact hne e.symm)).trans Hbox.out)
      clear hne
      replace HbS := Lib.hid (HbS.out.trans hbD)
      clear hbD hrun hrow10 hg10 hge hat Hrow
      clear d0 d1 d2 d3 d4 d5 d6 d7 hld
      obtain ⟨d0, d1, d2, d3, d4, d5, d6, d7⟩ := box8 (HV.out.under HbS.out)
      have hld := (HV.out.under HbS.out).lt
      refine wpAny_ready (rs := [16]) (by kernel_rfl) (by simp) ?_
      refine AllReady.cons rfl (fun K hK => ?_) AllReady.nil
      obtain ⟨v16, Y4, hrun, hrow16, hg16⟩ := app_more Y3 Y.heap.size Y1.heap.size v10 rs3 xr HN.out HbS.out.size Hrow10.out (by omega) (by rw [Hxs.out, Hxd.out]; exact Hbox.out)
      rw [if_pos (by kernel_rfl)]
      refine op_app (.tmp 137) (.tmp 142) v10 (.slice (some ⟨Y1.heap.size, 0, none⟩) 1 1) (by kernel_rfl) (by kernel_rfl) rfl hrun ?_
      refine hK _ _ ?_
      clear hK K
      have hbD : Below Y.heap.size Y3 Y4 := (Below.refl _ Y3).grown hg16 HbS.out.size (fun k e => (World.ownsRow.lt Hrow10.out k e).1)
      obtain ⟨ad16, cap16, hv16, hat16, _⟩ := hrow16.form
      rw [HL1.out] at hv16
      subst hv16
      have Hat16 := Lib.hid hat16
      replace HbS := Lib.hid (HbS.out.trans hbD)
      clear hbD hrun hrow16 hg16 hat16
      clear d0 d1 d2 d3 d4 d5 d6 d7 hld
      obtain ⟨d0, d1, d2, d3, d4, d5, d6, d7⟩ := box8 (HV.out.under HbS.out)
      have hld := (HV.out.under HbS.out).lt
      refine wpAny_ready (rs := [17]) (by kernel_rfl) (by simp) ?_
      refine AllReady.cons rfl (fun K hK => ?_) AllReady.nil
      have hat := Hat7.out.under HbS.out
      have hsame := rsame_yes Y4 ad7 ad16 cap7 cap16 (rs3 ++ [xr]) hat Hat16.out (by rw [HL1.out]; omega)
      rw [HL1.out] at hsame
      have Hsame := Lib.hid hsame
      clear hsame hat
      go_simp
      go_at_call 13
      refine (Hsame.out).mono ?_
      rintro e w9 ⟨rfl, hb9⟩
      have HBe := Lib.hid ((HB.out.trans (HbS.out.mono HB.out.size)).trans (hb9.mono (by have h1 := HB.out.size; have h2 := HbS.out.size; omega)))
      clear hb9 Hsame
      refine hK _ _ ?_
      clear hK K
      refine wpAny_take (i := 18) (v := ?v19) rfl (by kernel_rfl) (by kernel_rfl) (by kernel_rfl) (fun _ _ _ h => h) (Or.inl ⟨by kernel_rfl, ?h19⟩) ?r19
      case h19 => (intro w; go_simp; first | done | (with_reducible rfl))
      refine wpAny_ready (rs := [19]) (by kernel_rfl) (by simp) ?_
      refine AllReady.cons rfl (fun K hK => ?_) AllReady.nil
      go_simp
      refine hK _ _ ?_
      clear hK K
      refine wpAny_done (by kernel_rfl) ?_ _
      try go_simp
      clear d0 d1 d2 d3 d4 d5 d6 d7 hld
      go_wp2
      go_ret
      exact ⟨rfl, HBe.out⟩
    refine AllReady.cons rfl (fun K hK => ?_) AllReady.nil
    go_simp
    refine hK _ _ ?_
    clear hK K
    obtain ⟨Y1, hD⟩ : ∃ W, W = Y.alloc (.cells #[.int .u64 x, .string more] 41) := ⟨_, rfl⟩
    rw [← hD]
    have hbD : Below Y.heap.size Y Y1 := by rw [hD]; exact (Below.refl _ Y).alloc (Nat.le_refl _) _
    have Hbox := Lib.hid (show Y1.heap[Y.heap.size]? = some (.cells #[.int .u64 x, .string more] 41 (0, 0)) from by rw [hD]; exact blk_new Y _)
    have HszY1 := Lib.hid (show Y1.heap.size = Y.heap.size + 1 from by rw [hD]; exact sz_alloc _ _)
    replace HbS := Lib.hid (HbS.out.trans (hbD.mono HbS.out.size))
    clear hbD hD
    clear d0 d1 d2 d3 d4 d5 d6 d7 hld
    obtain ⟨d0, d1, d2, d3, d4, d5, d6, d7⟩ := box8 (HV.out.under HbS.out)
    have hld := (HV.out.under HbS.out).lt
    refine wpAny_ready (rs := [8]) (by kernel_rfl) (by simp) ?_
    refine AllReady.cons rfl (fun K hK => ?_) AllReady.nil
    go_simp
    refine hK _ _ ?_
    clear hK K
    obtain ⟨Y2, hD⟩ : ∃ W, W = Y1.alloc (.cells #[] 41) := ⟨_, rfl⟩
    rw [← hD]
    have hbD : Below Y1.heap.size Y1 Y2 := by rw [hD]; exact (Below.refl _ Y1).alloc (Nat.le_refl _) _
    have Hrow := Lib.hid (show Y2.ownsRow Y.heap.size 41 2 (.slice (some ⟨Y1.heap.size, 0, none⟩) 0 0) 0 [] from by rw [hD]; exact row_empty Y1 _ HbS.out.size)
    have HszY2 := Lib.hid (show Y2.heap.size = Y1.heap.size + 1 from by rw [hD]; exact sz_alloc _ _)
    replace Hbox := Lib.hid ((hbD.block _ (Array.getElem?_eq_some_iff.1 Hbox.out).1).trans Hbox.out)
    replace HbS := Lib.hid (HbS.out.trans (hbD.mono HbS.out.size))
    clear hbD hD
    clear d0 d1 d2 d3 d4 d5 d6 d7 hld
    obtain ⟨d0, d1, d2, d3, d4, d5, d6, d7⟩ := box8 (HV.out.under HbS.out)
    have hld := (HV.out.under HbS.out).lt
    refine wpAny_ready (rs := [10]) (by kernel_rfl) (by simp) ?_
    refine AllReady.cons rfl (fun K hK => ?_) AllReady.nil
    have hat := Hat4.out.under HbS.out
    obtain ⟨v10, Y3, hrun, hrow10, hg10⟩ := app_recs Y2 Y.heap.size _ Hrow.out hat HN.out Hcap.out.2 (by omega) HbS.out.size
    rw [if_pos (by kernel_rfl)]
    refine op_app (.tmp 135) (.tmp 136) (.slice (some ⟨Y1.heap.size, 0, none⟩) 0 0) (.slice (some ⟨g1, o1, none⟩) N cap5) (by kernel_rfl) (by kernel_rfl) rfl hrun ?_
    refine hK _ _ ?_
    clear hK K
    have hge : Y.heap.size ≤ Y1.heap.size := (World.ownsRow.lt Hrow.out _ rfl).1
    have hbD : Below Y.heap.size Y2 Y3 := (Below.refl _ Y2).grown hg10 HbS.out.size (fun k e => by simp [Value.ownBlock] at e; omega)
    have Hrow10 := Lib.hid hrow10
    have hne : Y1.heap.size ≠ Y.heap.size := by have h1 := HszY2.out; have h2 := HszY1.out; omega
    replace Hbox := Lib.hid ((hg10.block _ (Array.getElem?_eq_some_iff.1 Hbox.out).1 (fun e => by simp [Value.ownBlock] at e; exact hne e.symm)).trans Hbox.out)
    clear hne
    replace HbS := Lib.hid (HbS.out.trans hbD)
    clear hbD hrun hrow10 hg10 hge hat Hrow
    clear d0 d1 d2 d3 d4 d5 d6 d7 hld
    obtain ⟨d0, d1, d2, d3, d4, d5, d6, d7⟩ := box8 (HV.out.under HbS.out)
    have hld := (HV.out.under HbS.out).lt
    refine wpAny_ready (rs := [16]) (by kernel_rfl) (by simp) ?_
    refine AllReady.cons rfl (fun K hK => ?_) AllReady.nil
    obtain ⟨v16, Y4, hrun, hrow16, hg16⟩ := app_more Y3 Y.heap.size Y.heap.size v10 rs3 xr HN.out HbS.out.size Hrow10.out (by omega) (by rw [Hxs.out, Hxd.out]; exact Hbox.out)
    rw [if_pos (by kernel_rfl)]
    refine op_app (.tmp 137) (.tmp 142) v10 (.slice (some ⟨Y.heap.size, 0, none⟩) 1 1) (by kernel_rfl) (by kernel_rfl) rfl hrun ?_
    refine hK _ _ ?_
    clear hK K
    have hbD : Below Y.heap.size Y3 Y4 := (Below.refl _ Y3).grown hg16 HbS.out.size (fun k e => (World.ownsRow.lt Hrow10.out k e).1)
    obtain ⟨ad16, cap16, hv16, hat16, _⟩ := hrow16.form
    rw [HL1.out] at hv16
    subst hv16
    have Hat16 := Lib.hid hat16
    replace HbS := Lib.hid (HbS.out.trans hbD)
    clear hbD hrun hrow16 hg16 hat16
    clear d0 d1 d2 d3 d4 d5 d6 d7 hld
    obtain ⟨d0, d1, d2, d3, d4, d5, d6, d7⟩ := box8 (HV.out.under HbS.out)
    have hld := (HV.out.under HbS.out).lt
    refine wpAny_ready (rs := [17]) (by kernel_rfl) (by simp) ?_
    refine AllReady.cons rfl (fun K hK => ?_) AllReady.nil
    have hat := Hat7.out.under HbS.out
    have hsame := rsame_yes Y4 ad7 ad16 cap7 cap16 (rs3 ++ [xr]) hat Hat16.out (by rw [HL1.out]; omega)
    rw [HL1.out] at hsame
    have Hsame := Lib.hid hsame
    clear hsame hat
    go_simp
    go_at_call 13
    refine (Hsame.out).mono ?_
    rintro e w9 ⟨rfl, hb9⟩
    have HBe := Lib.hid ((HB.out.trans (HbS.out.mono HB.out.size)).trans (hb9.mono (by have h1 := HB.out.size; have h2 := HbS.out.size; omega)))
    clear hb9 Hsame
    refine hK _ _ ?_
    clear hK K
    refine wpAny_take (i := 18) (v := ?v20) rfl (by kernel_rfl) (by kernel_rfl) (by kernel_rfl) (fun _ _ _ h => h) (Or.inl ⟨by kernel_rfl, ?h20⟩) ?r20
    case h20 => (intro w; go_simp; first | done | (with_reducible rfl))
    refine wpAny_ready (rs := [19]) (by kernel_rfl) (by simp) ?_
    refine AllReady.cons rfl (fun K hK => ?_) AllReady.nil
    go_simp
    refine hK _ _ ?_
    clear hK K
    refine wpAny_done (by kernel_rfl) ?_ _
    try go_simp
    clear d0 d1 d2 d3 d4 d5 d6 d7 hld
    go_wp2
    go_ret
    exact ⟨rfl, HBe.out⟩
  have hMNe : N = M := by have := HMN.out; omega
  have hMNI : ¬ (M : Int) < (N : Int) := by omega
  subst hMNe
  by_cases hz : cd2 = 0
  · subst hz
    obtain ⟨d0, d1, d2, d3, d4, d5, d6, d7⟩ := box8 HV.out
    have hld := HV.out.lt
    go_wp2_with fail
    refine (append_is2 Hr.out W4 ad4 n4 cap4 HR3.out rfl hmore (lin_of Hd4.out HR3.out (by show (0 : Int) ≤ 1; decide)) HT.out HW.out).mono ?_
    rintro e w5 ⟨ad6, n6, cap6, rfl, hd6, _, hb⟩
    replace HT := Lib.hid (HT.out.under hb)
    replace HS := Lib.hid (HS.out.under hb)
    replace HW := Lib.hid (HW.out.under hb)
    replace HK := Lib.hid (HK.out.under hb)
    replace Hatv := Lib.hid (Hatv.out.under hb)
    replace Hd2 := Lib.hid (Hd2.out.under hb)
    replace HQ2 := Lib.hid (HQ2.out.under hb)
    replace Hd3 := Lib.hid (Hd3.out.under hb)
    replace HQ3 := Lib.hid (HQ3.out.under hb)
    replace Hd4 := Lib.hid (Hd4.out.under hb)
    replace Hat4 := Lib.hid (Hat4.out.under hb)
    replace HV := Lib.hid (HV.out.under hb)
    replace HB := Lib.hid (HB.out.trans (hb.mono HB.out.size))
    have Hd6 := Lib.hid (show DIn w5 ad6 n6 cap6 fu4 fa4 fs4 from hd6)
    clear hMNI
    clear hb hd6 d0 d1 d2 d3 d4 d5 d6 d7 hld h1N
    obtain ⟨W5, hW5⟩ : ∃ W, W = w5.alloc (.cells #[.slice ad6 n6 cap6, .bool dn4, .int .i64 fu4, .int .i64 fa4, .int .i64 sz4, .int .u64 fr4, .int .u64 nx4, .bool br4] 30) := ⟨_, rfl⟩
    have hbW5 : Below w5.heap.size w5 W5 := by rw [hW5]; exact (Below.refl _ w5).alloc (Nat.le_refl _) _
    replace HT := Lib.hid (HT.out.under hbW5)
    replace HS := Lib.hid (HS.out.under hbW5)
    replace HW := Lib.hid (HW.out.under hbW5)
    replace HK := Lib.hid (HK.out.under hbW5)
    replace Hatv := Lib.hid (Hatv.out.under hbW5)
    replace Hd2 := Lib.hid (Hd2.out.under hbW5)
    replace HQ2 := Lib.hid (HQ2.out.under hbW5)
    replace Hd3 := Lib.hid (Hd3.out.under hbW5)
    replace HQ3 := Lib.hid (HQ3.out.under hbW5)
    replace Hd4 := Lib.hid (Hd4.out.under hbW5)
    replace Hat4 := Lib.hid (Hat4.out.under hbW5)
    replace HV := Lib.hid (HV.out.under hbW5)
    replace Hd6 := Lib.hid (Hd6.out.under hbW5)
    replace HB := Lib.hid (HB.out.trans (hbW5.mono HB.out.size))
    have HE := Lib.hid (show Blk W5 w5.heap.size #[.slice ad6 n6 cap6, .bool dn4, .int .i64 fu4, .int .i64 fa4, .int .i64 sz4, .int .u64 fr4, .int .u64 nx4, .bool br4] 30 from by rw [hW5]; exact blk_new w5 _)
    clear hbW5
    go_upto_region 13 with (fail)
    rw [← hW5]
    clear hW5
    by_cases hm : 65536 < more.size
    · have hcd : cd3 = 4 := HA2.out.long hm
      subst hcd
      clear HA2 Hr
      go_wp2
      go_ret
      exact ⟨rfl, HB.out⟩
    have hmI : ¬ (65536 : Int) < (more.size : Int) := by omega
    have hfull : cd3 = 0 ∨ (cd3 = 8 ∧ fs3.length = 64) := HA2.out.full (by omega) rfl rfl
    have Hfull := Lib.hid hfull
    clear hfull
    obtain ⟨c0, c1, c2, c3, c4, c5, c6, c7⟩ := box8 HE.out
    have hlc := HE.out.lt
    have HI6 := Lib.hid (show LIn W5 ad6 n6 cap6 ⟨⟨fs4, dn4, fu4, fa4⟩, sz4, fr4, nx4, br4⟩ from by
      have h1 := HA2.out.sz
      have h2 := HA2.out.fr
      have h3 := HA2.out.n0
      have h4 := HA2.out.n1
      simp only at h1 h2 h3 h4
      exact ⟨Hd6.out, by show _ ≤ sz4; omega, by show sz4 ≤ _; omega, by show 0 ≤ fr4; omega, by show fr4 ≤ _; omega, h3, by show nx4 ≤ _; omega⟩)
    have hrec := records_any W5 ad6 n6 cap6 ⟨⟨fs4, dn4, fu4, fa4⟩, sz4, fr4, nx4, br4⟩ HI6.out HT.out HW.out
    have Hrec := Lib.hid hrec
    clear hrec HI6
    by_cases h64 : 64 ≤ n4
    · go_wp2_with fail
      refine (Hrec.out).mono ?_
      rintro e w6 ⟨hb, ⟨_, c, _, rfl⟩ | ⟨_, _, _, ad7, cap7, rfl, _⟩⟩
      all_goals
        clear Hrec c0 c1 c2 c3 c4 c5 c6 c7 hlc
        replace HV := Lib.hid (HV.out.under hb)
        replace HB := Lib.hid (HB.out.trans (hb.mono HB.out.size))
        clear hb
        obtain ⟨d0, d1, d2, d3, d4, d5, d6, d7⟩ := box8 HV.out
        have hld := HV.out.lt
        have h64I : (64 : Int) ≤ (n4 : Int) := by omega
        rcases Hfull.out with e | ⟨e, _⟩
        · subst e
          clear Hfull HA2 Hr
          go_wp2
          go_ret
          exact ⟨rfl, HB.out⟩
        · subst e
          clear Hfull HA2 Hr
          go_wp2
          go_ret
          exact ⟨rfl, HB.out⟩
    have hcd : cd3 = 0 := Hfull.out.elim id (fun h => by have := HN4.out; omega)
    subst hcd
    obtain ⟨q1, q2, hK2, hr1⟩ := HA2.out.ok rfl
    simp only at hK2
    have e1 : dn4 = false := congrArg (fun l => l.d.down) hr1
    have e5 : br4 = false := congrArg L.broken hr1
    have e2 : sz4 = size := congrArg L.size hr1
    have e3 : fr4 = 1 := congrArg L.fr hr1
    have e4 : nx4 = ((1 + (rs3.length + 1) : Nat) : Int) := congrArg L.nx hr1
    have HR4 := Lib.hid (show LRight ⟨⟨fs4, dn4, fu4, fa4⟩, sz4, fr4, nx4, br4⟩ from ⟨hK2.R, by show 1 ≤ sz4 ∧ sz4 ≤ 262144; rw [e2]; exact Hhs.out, by show fr4 ≤ nx4; omega, by show nx4 ≤ _; have := HN.out; omega⟩)
    have Hbr := Lib.hid (show (⟨⟨fs4, dn4, fu4, fa4⟩, sz4, fr4, nx4, br4⟩ : L).broken = false from e5)
    have Hdn := Lib.hid (show (⟨⟨fs4, dn4, fu4, fa4⟩, sz4, fr4, nx4, br4⟩ : L).d.down = false from e1)
    have hrdl : (rdF fs4).rs = rs3 ++ [⟨1 + rs3.length, more, q1, q2⟩] := by rw [kk_rdF hK2]
    have Hrd := Lib.hid (show (rdF (⟨⟨fs4, dn4, fu4, fa4⟩, sz4, fr4, nx4, br4⟩ : L).d.files).rs = rs3 ++ [⟨1 + rs3.length, more, q1, q2⟩] from hrdl)
    have Hhd := Lib.hid (show fr4 = 1 from e3)
    have Hxs := Lib.hid (show ((⟨1 + rs3.length, more, q1, q2⟩ : Rec).seq : Int) = x from by show ((1 + rs3.length : Nat) : Int) = x; have := Hx.out; have := HN.out; omega)
    obtain ⟨xr, hxr⟩ : ∃ r : Rec, r = ⟨1 + rs3.length, more, q1, q2⟩ := ⟨_, rfl⟩
    have Hxd := Lib.hid (show xr.data = more from by rw [hxr])
    rw [← hxr] at Hrd Hxs
    have HL1 := Lib.hid (show (rs3 ++ [xr]).length = N + 1 from by rw [List.length_append, HN.out]; rfl)
    clear hK2 hr1 e1 e5 e2 e3 e4 hrdl hxr HA2 Hr Hfull Hrec hm
    go_wp2_with fail
    refine (records_is W5 ad6 n6 cap6 ⟨⟨fs4, dn4, fu4, fa4⟩, sz4, fr4, nx4, br4⟩ (lin_of Hd6.out HR4.out (by show 0 ≤ fr4; have := Hhd.out; omega)) HR4.out Hbr.out Hdn.out Hrd.out HT.out HW.out).mono ?_
    rintro e w6 ⟨ad7, cap7, rfl, hat7, hb⟩
    replace HT := Lib.hid (HT.out.under hb)
    replace HS := Lib.hid (HS.out.under hb)
    replace HW := Lib.hid (HW.out.under hb)
    replace HK := Lib.hid (HK.out.under hb)
    replace Hatv := Lib.hid (Hatv.out.under hb)
    replace Hd2 := Lib.hid (Hd2.out.under hb)
    replace HQ2 := Lib.hid (HQ2.out.under hb)
    replace Hd3 := Lib.hid (Hd3.out.under hb)
    replace HQ3 := Lib.hid (HQ3.out.under hb)
    replace Hd4 := Lib.hid (Hd4.out.under hb)
    replace Hat4 := Lib.hid (Hat4.out.under hb)
    replace HV := Lib.hid (HV.out.under hb)
    replace Hd6 := Lib.hid (Hd6.out.under hb)
    replace HE := Lib.hid (HE.out.under hb)
    replace HB := Lib.hid (HB.out.trans (hb.mono HB.out.size))
    rw [HL1.out]
    have Hat7 := Lib.hid hat7
    clear hb hat7 c0 c1 c2 c3 c4 c5 c6 c7 hlc
    have h64I : ¬ (64 : Int) ≤ (n4 : Int) := by omega
    obtain ⟨d0, d1, d2, d3, d4, d5, d6, d7⟩ := box8 HV.out
    have hld := HV.out.lt
    go_upto_region 18 with (fail)
    refine wp_region_any (by kernel_rfl) ?_
    obtain ⟨Y, hY⟩ : ∃ W, w6.drew = W := ⟨_, rfl⟩
    change wpAny _ _ _ _ _ _ _ (w6.drew)
    rw [hY]
    have hb : Below w6.heap.size w6 Y := by rw [← hY]; exact (Below.refl _ w6).drew
    replace HT := Lib.hid (HT.out.under hb)
    replace HS := Lib.hid (HS.out.under hb)
    replace HW := Lib.hid (HW.out.under hb)
    replace HK := Lib.hid (HK.out.under hb)
    replace Hatv := Lib.hid (Hatv.out.under hb)
    replace Hd2 := Lib.hid (Hd2.out.under hb)
    replace HQ2 := Lib.hid (HQ2.out.under hb)
    replace Hd3 := Lib.hid (Hd3.out.under hb)
    replace HQ3 := Lib.hid (HQ3.out.under hb)
    replace Hd4 := Lib.hid (Hd4.out.under hb)
    replace Hat4 := Lib.hid (Hat4.out.under hb)
    replace HV := Lib.hid (HV.out.under hb)
    replace Hd6 := Lib.hid (Hd6.out.under hb)
    replace HE := Lib.hid (HE.out.under hb)
    replace Hat7 := Lib.hid (Hat7.out.under hb)
    replace HB := Lib.hid (HB.out.trans (hb.mono HB.out.size))
    clear hb hY d0 d1 d2 d3 d4 d5 d6 d7 hld
    have HbS := Lib.hid (Below.refl Y.heap.size Y)
    obtain ⟨d0, d1, d2, d3, d4, d5, d6, d7⟩ := box8 HV.out
    have hld := HV.out.lt
    refine wpAny_take (i := 0) (v := ?v21) rfl (by kernel_rfl) (by kernel_rfl) (by kernel_rfl) (fun _ _ _ h => h) (Or.inl ⟨by kernel_rfl, ?h21⟩) ?r21
    case h21 => (intro w; go_simp; first | done | (with_reducible rfl))
    refine wpAny_take (i := 1) (v := ?v22) rfl (by kernel_rfl) (by kernel_rfl) (by kernel_rfl) (fun _ _ _ h => h) (Or.inl ⟨by kernel_rfl, ?h22⟩) ?r22
    case h22 => (intro w; go_simp; first | done | (with_reducible rfl))
    refine wpAny_take (i := 2) (v := ?v23) rfl (by kernel_rfl) (by kernel_rfl) (by kernel_rfl) (fun _ _ _ h => h) (Or.inl ⟨by kernel_rfl, ?h23⟩) ?r23
    case h23 => (intro w; go_simp; first | done | (with_reducible rfl))
    refine wpAny_take (i := 3) (v := ?v24) rfl (by kernel_rfl) (by kernel_rfl) (by kernel_rfl) (fun _ _ _ h => h) (Or.inl ⟨by kernel_rfl, ?h24⟩) ?r24
    case h24 => (intro w; go_simp; first | done | (with_reducible rfl))
    refine wpAny_take (i := 4) (v := ?v25) rfl (by kernel_rfl) (by kernel_rfl) (by kernel_rfl) (fun _ _ _ h => h) (Or.inl ⟨by kernel_rfl, ?h25⟩) ?r25
    case h25 => (intro w; go_simp; first | done | (with_reducible rfl))
    refine wpAny_take (i := 5) (v := ?v26) rfl (by kernel_rfl) (by kernel_rfl) (by kernel_rfl) (fun _ _ _ h => h) (Or.inl ⟨by kernel_rfl, ?h26⟩) ?r26
    case h26 => (intro w; go_simp; first | done | (with_reducible rfl))
    refine wpAny_take (i := 6) (v := ?v27) rfl (by kernel_rfl) (by kernel_rfl) (by kernel_rfl) (fun _ _ _ h => h) (Or.inl ⟨by kernel_rfl, ?h27⟩) ?r27
    case h27 => (intro w; go_simp; first | done | (with_reducible rfl))
    refine wpAny_take (i := 7) (v := ?v28) rfl (by kernel_rfl) (by kernel_rfl) (by kernel_rfl) (fun _ _ _ h => h) (Or.inl ⟨by kernel_rfl, ?h28⟩) ?r28
    case h28 => (intro w; go_simp; first | done | (with_reducible rfl))
    refine wpAny_take (i := 9) (v := ?v29) rfl (by kernel_rfl) (by kernel_rfl) (by kernel_rfl) (fun _ _ _ h => h) (Or.inl ⟨by kernel_rfl, ?h29⟩) ?r29
    case h29 => (intro w; go_simp; first | done | (with_reducible rfl))
    refine wpAny_take (i := 11) (v := ?v30) rfl (by kernel_rfl) (by kernel_rfl) (by kernel_rfl) (fun _ _ _ h => h) (Or.inl ⟨by kernel_rfl, ?h30⟩) ?r30
    case h30 => (intro w; go_simp; first | done | (with_reducible rfl))
    refine wpAny_take (i := 13) (v := ?v31) rfl (by kernel_rfl) (by kernel_rfl) (by kernel_rfl) (fun _ _ _ h => h) (Or.inl ⟨by kernel_rfl, ?h31⟩) ?r31
    case h31 => (intro w; go_simp; first | done | (with_reducible rfl))
    refine wpAny_ready (rs := [8, 12]) (by kernel_rfl) (by simp) ?_
    refine AllReady.cons rfl (fun K hK => ?_) ?_
    · skip
      go_simp
      refine hK _ _ ?_
      clear hK K
      obtain ⟨Y1, hD⟩ : ∃ W, W = Y.alloc (.cells #[] 41) := ⟨_, rfl⟩
      rw [← hD]
      have hbD : Below Y.heap.size Y Y1 := by rw [hD]; exact (Below.refl _ Y).alloc (Nat.le_refl _) _
      have Hrow := Lib.hid (show Y1.ownsRow Y.heap.size 41 2 (.slice (some ⟨Y.heap.size, 0, none⟩) 0 0) 0 [] from by rw [hD]; exact row_empty Y _ HbS.out.size)
      have HszY1 := Lib.hid (show Y1.heap.size = Y.heap.size + 1 from by rw [hD]; exact sz_alloc _ _)
      replace HbS := Lib.hid (HbS.out.trans (hbD.mono HbS.out.size))
      clear hbD hD
      clear d0 d1 d2 d3 d4 d5 d6 d7 hld
      obtain ⟨d0, d1, d2, d3, d4, d5, d6, d7⟩ := box8 (HV.out.under HbS.out)
      have hld := (HV.out.under HbS.out).lt
      refine wpAny_ready (rs := [10, 12]) (by kernel_rfl) (by simp) ?_
      refine AllReady.cons rfl (fun K hK => ?_) ?_
      · skip
        have hat := Hat4.out.under HbS.out
        obtain ⟨v10, Y2, hrun, hrow10, hg10⟩ := app_recs Y1 Y.heap.size _ Hrow.out hat HN.out Hcap.out.2 (by omega) HbS.out.size
        rw [if_pos (by kernel_rfl)]
        refine op_app (.tmp 135) (.tmp 136) (.slice (some ⟨Y.heap.size, 0, none⟩) 0 0) (.slice ad5 N cap5) (by kernel_rfl) (by kernel_rfl) rfl hrun ?_
        refine hK _ _ ?_
        clear hK K
        have hge : Y.heap.size ≤ Y.heap.size := (World.ownsRow.lt Hrow.out _ rfl).1
        have hbD : Below Y.heap.size Y1 Y2 := (Below.refl _ Y1).grown hg10 HbS.out.size (fun k e => by simp [Value.ownBlock] at e; omega)
        have Hrow10 := Lib.hid hrow10
        replace HbS := Lib.hid (HbS.out.trans hbD)
        clear hbD hrun hrow10 hg10 hge hat Hrow
        clear d0 d1 d2 d3 d4 d5 d6 d7 hld
        obtain ⟨d0, d1, d2, d3, d4, d5, d6, d7⟩ := box8 (HV.out.under HbS.out)
        have hld := (HV.out.under HbS.out).lt
        refine wpAny_ready (rs := [12]) (by kernel_rfl) (by simp) ?_
        refine AllReady.cons rfl (fun K hK => ?_) AllReady.nil
        go_simp
        refine hK _ _ ?_
        clear hK K
        refine wpAny_take (i := 14) (v := ?v32) rfl (by kernel_rfl) (by kernel_rfl) (by kernel_rfl) (fun _ _ _ h => h) (Or.inl ⟨by kernel_rfl, ?h32⟩) ?r32
        case h32 => (intro w; go_simp; first | done | (with_reducible rfl))
        refine wpAny_ready (rs := [15]) (by kernel_rfl) (by simp) ?_
        refine AllReady.cons rfl (fun K hK => ?_) AllReady.nil
        go_simp
        refine hK _ _ ?_
        clear hK K
        obtain ⟨Y3, hD⟩ : ∃ W, W = Y2.alloc (.cells #[.int .u64 x, .string more] 41) := ⟨_, rfl⟩
        rw [← hD]
        have hbD : Below Y2.heap.size Y2 Y3 := by rw [hD]; exact (Below.refl _ Y2).alloc (Nat.le_refl _) _
        have Hbox := Lib.hid (show Y3.heap[Y2.heap.size]? = some (.cells #[.int .u64 x, .string more] 41 (0, 0)) from by rw [hD]; exact blk_new Y2 _)
        have HszY3 := Lib.hid (show Y3.heap.size = Y2.heap.size + 1 from by rw [hD]; exact sz_alloc _ _)
        replace Hrow10 := Lib.hid (row_under Hrow10.out hbD)
        replace HbS := Lib.hid (HbS.out.trans (hbD.mono HbS.out.size))
        clear hbD hD
        clear d0 d1 d2 d3 d4 d5 d6 d7 hld
        obtain ⟨d0, d1, d2, d3, d4, d5, d6, d7⟩ := box8 (HV.out.under HbS.out)
        have hld := (HV.out.under HbS.out).lt
        refine wpAny_ready (rs := [16]) (by kernel_rfl) (by simp) ?_
        refine AllReady.cons rfl (fun K hK => ?_) AllReady.nil
        obtain ⟨v16, Y4, hrun, hrow16, hg16⟩ := app_more Y3 Y.heap.size Y2.heap.size v10 rs3 xr HN.out HbS.out.size Hrow10.out (by omega) (by rw [Hxs.out, Hxd.out]; exact Hbox.out)
        rw [if_pos (by kernel_rfl)]
        refine op_app (.tmp 137) (.tmp 142) v10 (.slice (some ⟨Y2.heap.size, 0, none⟩) 1 1) (by kernel_rfl) (by kernel_rfl) rfl hrun ?_
        refine hK _ _ ?_
        clear hK K
        have hbD : Below Y.heap.size Y3 Y4 := (Below.refl _ Y3).grown hg16 HbS.out.size (fun k e => (World.ownsRow.lt Hrow10.out k e).1)
        obtain ⟨ad16, cap16, hv16, hat16, _⟩ := hrow16.form
        rw [HL1.out] at hv16
        subst hv16
        have Hat16 := Lib.hid hat16
        replace HbS := Lib.hid (HbS.out.trans hbD)
        clear hbD hrun hrow16 hg16 hat16
        clear d0 d1 d2 d3 d4 d5 d6 d7 hld
        obtain ⟨d0, d1, d2, d3, d4, d5, d6, d7⟩ := box8 (HV.out.under HbS.out)
        have hld := (HV.out.under HbS.out).lt
        refine wpAny_ready (rs := [17]) (by kernel_rfl) (by simp) ?_
        refine AllReady.cons rfl (fun K hK => ?_) AllReady.nil
        have hat := Hat7.out.under HbS.out
        have hsame := rsame_yes Y4 ad7 ad16 cap7 cap16 (rs3 ++ [xr]) hat Hat16.out (by rw [HL1.out]; omega)
        rw [HL1.out] at hsame
        have Hsame := Lib.hid hsame
        clear hsame hat
        go_simp
        go_at_call 13
        refine (Hsame.out).mono ?_
        rintro e w9 ⟨rfl, hb9⟩
        have HBe := Lib.hid ((HB.out.trans (HbS.out.mono HB.out.size)).trans (hb9.mono (by have h1 := HB.out.size; have h2 := HbS.out.size; omega)))
        clear hb9 Hsame
        refine hK _ _ ?_
        clear hK K
        refine wpAny_take (i := 18) (v := ?v33) rfl (by kernel_rfl) (by kernel_rfl) (by kernel_rfl) (fun _ _ _ h => h) (Or.inl ⟨by kernel_rfl, ?h33⟩) ?r33
        case h33 => (intro w; go_simp; first | done | (with_reducible rfl))
        refine wpAny_ready (rs := [19]) (by kernel_rfl) (by simp) ?_
        refine AllReady.cons rfl (fun K hK => ?_) AllReady.nil
        go_simp
        refine hK _ _ ?_
        clear hK K
        refine wpAny_done (by kernel_rfl) ?_ _
        try go_simp
        clear d0 d1 d2 d3 d4 d5 d6 d7 hld
        go_wp2
        go_ret
        exact ⟨rfl, HBe.out⟩
      refine AllReady.cons rfl (fun K hK => ?_) AllReady.nil
      go_simp
      refine hK _ _ ?_
      clear hK K
      refine wpAny_take (i := 14) (v := ?v34) rfl (by kernel_rfl) (by kernel_rfl) (by kernel_rfl) (fun _ _ _ h => h) (Or.inl ⟨by kernel_rfl, ?h34⟩) ?r34
      case h34 => (intro w; go_simp; first | done | (with_reducible rfl))
      refine wpAny_ready (rs := [10, 15]) (by kernel_rfl) (by simp) ?_
      refine AllReady.cons rfl (fun K hK => ?_) ?_
      · skip
        have hat := Hat4.out.under HbS.out
        obtain ⟨v10, Y2, hrun, hrow10, hg10⟩ := app_recs Y1 Y.heap.size _ Hrow.out hat HN.out Hcap.out.2 (by omega) HbS.out.size
        rw [if_pos (by kernel_rfl)]
        refine op_app (.tmp 135) (.tmp 136) (.slice (some ⟨Y.heap.size, 0, none⟩) 0 0) (.slice ad5 N cap5) (by kernel_rfl) (by kernel_rfl) rfl hrun ?_
        refine hK _ _ ?_
        clear hK K
        have hge : Y.heap.size ≤ Y.heap.size := (World.ownsRow.lt Hrow.out _ rfl).1
        have hbD : Below Y.heap.size Y1 Y2 := (Below.refl _ Y1).grown hg10 HbS.out.size (fun k e => by simp [Value.ownBlock] at e; omega)
        have Hrow10 := Lib.hid hrow10
        replace HbS := Lib.hid (HbS.out.trans hbD)
        clear hbD hrun hrow10 hg10 hge hat Hrow
        clear d0 d1 d2 d3 d4 d5 d6 d7 hld
        obtain ⟨d0, d1, d2, d3, d4, d5, d6, d7⟩ := box8 (HV.out.under HbS.out)
        have hld := (HV.out.under HbS.out).lt
        refine wpAny_ready (rs := [15]) (by kernel_rfl) (by simp) ?_
        refine AllReady.cons rfl (fun K hK => ?_) AllReady.nil
        go_simp
        refine hK _ _ ?_
        clear hK K
        obtain ⟨Y3, hD⟩ : ∃ W, W = Y2.alloc (.cells #[.int .u64 x, .string more] 41) := ⟨_, rfl⟩
        rw [← hD]
        have hbD : Below Y2.heap.size Y2 Y3 := by rw [hD]; exact (Below.refl _ Y2).alloc (Nat.le_refl _) _
        have Hbox := Lib.hid (show Y3.heap[Y2.heap.size]? = some (.cells #[.int .u64 x, .string more] 41 (0, 0)) from by rw [hD]; exact blk_new Y2 _)
        have HszY3 := Lib.hid (show Y3.heap.size = Y2.heap.size + 1 from by rw [hD]; exact sz_alloc _ _)
        replace Hrow10 := Lib.hid (row_under Hrow10.out hbD)
        replace HbS := Lib.hid (HbS.out.trans (hbD.mono HbS.out.size))
        clear hbD hD
        clear d0 d1 d2 d3 d4 d5 d6 d7 hld
        obtain ⟨d0, d1, d2, d3, d4, d5, d6, d7⟩ := box8 (HV.out.under HbS.out)
        have hld := (HV.out.under HbS.out).lt
        refine wpAny_ready (rs := [16]) (by kernel_rfl) (by simp) ?_
        refine AllReady.cons rfl (fun K hK => ?_) AllReady.nil
        obtain ⟨v16, Y4, hrun, hrow16, hg16⟩ := app_more Y3 Y.heap.size Y2.heap.size v10 rs3 xr HN.out HbS.out.size Hrow10.out (by omega) (by rw [Hxs.out, Hxd.out]; exact Hbox.out)
        rw [if_pos (by kernel_rfl)]
        refine op_app (.tmp 137) (.tmp 142) v10 (.slice (some ⟨Y2.heap.size, 0, none⟩) 1 1) (by kernel_rfl) (by kernel_rfl) rfl hrun ?_
        refine hK _ _ ?_
        clear hK K
        have hbD : Below Y.heap.size Y3 Y4 := (Below.refl _ Y3).grown hg16 HbS.out.size (fun k e => (World.ownsRow.lt Hrow10.out k e).1)
        obtain ⟨ad16, cap16, hv16, hat16, _⟩ := hrow16.form
        rw [HL1.out] at hv16
        subst hv16
        have Hat16 := Lib.hid hat16
        replace HbS := Lib.hid (HbS.out.trans hbD)
        clear hbD hrun hrow16 hg16 hat16
        clear d0 d1 d2 d3 d4 d5 d6 d7 hld
        obtain ⟨d0, d1, d2, d3, d4, d5, d6, d7⟩ := box8 (HV.out.under HbS.out)
        have hld := (HV.out.under HbS.out).lt
        refine wpAny_ready (rs := [17]) (by kernel_rfl) (by simp) ?_
        refine AllReady.cons rfl (fun K hK => ?_) AllReady.nil
        have hat := Hat7.out.under HbS.out
        have hsame := rsame_yes Y4 ad7 ad16 cap7 cap16 (rs3 ++ [xr]) hat Hat16.out (by rw [HL1.out]; omega)
        rw [HL1.out] at hsame
        have Hsame := Lib.hid hsame
        clear hsame hat
        go_simp
        go_at_call 13
        refine (Hsame.out).mono ?_
        rintro e w9 ⟨rfl, hb9⟩
        have HBe := Lib.hid ((HB.out.trans (HbS.out.mono HB.out.size)).trans (hb9.mono (by have h1 := HB.out.size; have h2 := HbS.out.size; omega)))
        clear hb9 Hsame
        refine hK _ _ ?_
        clear hK K
        refine wpAny_take (i := 18) (v := ?v35) rfl (by kernel_rfl) (by kernel_rfl) (by kernel_rfl) (fun _ _ _ h => h) (Or.inl ⟨by kernel_rfl, ?h35⟩) ?r35
        case h35 => (intro w; go_simp; first | done | (with_reducible rfl))
        refine wpAny_ready (rs := [19]) (by kernel_rfl) (by simp) ?_
        refine AllReady.cons rfl (fun K hK => ?_) AllReady.nil
        go_simp
        refine hK _ _ ?_
        clear hK K
        refine wpAny_done (by kernel_rfl) ?_ _
        try go_simp
        clear d0 d1 d2 d3 d4 d5 d6 d7 hld
        go_wp2
        go_ret
        exact ⟨rfl, HBe.out⟩
      refine AllReady.cons rfl (fun K hK => ?_) AllReady.nil
      go_simp
      refine hK _ _ ?_
      clear hK K
      obtain ⟨Y2, hD⟩ : ∃ W, W = Y1.alloc (.cells #[.int .u64 x, .string more] 41) := ⟨_, rfl⟩
      rw [← hD]
      have hbD : Below Y1.heap.size Y1 Y2 := by rw [hD]; exact (Below.refl _ Y1).alloc (Nat.le_refl _) _
      have Hbox := Lib.hid (show Y2.heap[Y1.heap.size]? = some (.cells #[.int .u64 x, .string more] 41 (0, 0)) from by rw [hD]; exact blk_new Y1 _)
      have HszY2 := Lib.hid (show Y2.heap.size = Y1.heap.size + 1 from by rw [hD]; exact sz_alloc _ _)
      replace Hrow := Lib.hid (row_under Hrow.out hbD)
      replace HbS := Lib.hid (HbS.out.trans (hbD.mono HbS.out.size))
      clear hbD hD
      clear d0 d1 d2 d3 d4 d5 d6 d7 hld
      obtain ⟨d0, d1, d2, d3, d4, d5, d6, d7⟩ := box8 (HV.out.under HbS.out)
      have hld := (HV.out.under HbS.out).lt
      refine wpAny_ready (rs := [10]) (by kernel_rfl) (by simp) ?_
      refine AllReady.cons rfl (fun K hK => ?_) AllReady.nil
      have hat := Hat4.out.under HbS.out
      obtain ⟨v10, Y3, hrun, hrow10, hg10⟩ := app_recs Y2 Y.heap.size _ Hrow.out hat HN.out Hcap.out.2 (by omega) HbS.out.size
      rw [if_pos (by kernel_rfl)]
      refine op_app (.tmp 135) (.tmp 136) (.slice (some ⟨Y.heap.size, 0, none⟩) 0 0) (.slice ad5 N cap5) (by kernel_rfl) (by kernel_rfl) rfl hrun ?_
      refine hK _ _ ?_
      clear hK K
      have hge : Y.heap.size ≤ Y.heap.size := (World.ownsRow.lt Hrow.out _ rfl).1
      have hbD : Below Y.heap.size Y2 Y3 := (Below.refl _ Y2).grown hg10 HbS.out.size (fun k e => by simp [Value.ownBlock] at e; omega)
      have Hrow10 := Lib.hid hrow10
      have hne : Y.heap.size ≠ Y1.heap.size := by have h1 := HszY1.out; have h2 := HszY2.out; omega
      replace Hbox := Lib.hid ((hg10.block _ (Array.getElem?_eq_some_iff.1 Hbox.out).1 (fun e => by simp [Value.ownBlock] at e; exact hne e.symm)).trans Hbox.out)
      clear hne
      replace HbS := Lib.hid (HbS.out.trans hbD)
      clear hbD hrun hrow10 hg10 hge hat Hrow
      clear d0 d1 d2 d3 d4 d5 d6 d7 hld
      obtain ⟨d0, d1, d2, d3, d4, d5, d6, d7⟩ := box8 (HV.out.under HbS.out)
      have hld := (HV.out.under HbS.out).lt
      refine wpAny_ready (rs := [16]) (by kernel_rfl) (by simp) ?_
      refine AllReady.cons rfl (fun K hK => ?_) AllReady.nil
      obtain ⟨v16, Y4, hrun, hrow16, hg16⟩ := app_more Y3 Y.heap.size Y1.heap.size v10 rs3 xr HN.out HbS.out.size Hrow10.out (by omega) (by rw [Hxs.out, Hxd.out]; exact Hbox.out)
      rw [if_pos (by kernel_rfl)]
      refine op_app (.tmp 137) (.tmp 142) v10 (.slice (some ⟨Y1.heap.size, 0, none⟩) 1 1) (by kernel_rfl) (by kernel_rfl) rfl hrun ?_
      refine hK _ _ ?_
      clear hK K
      have hbD : Below Y.heap.size Y3 Y4 := (Below.refl _ Y3).grown hg16 HbS.out.size (fun k e => (World.ownsRow.lt Hrow10.out k e).1)
      obtain ⟨ad16, cap16, hv16, hat16, _⟩ := hrow16.form
      rw [HL1.out] at hv16
      subst hv16
      have Hat16 := Lib.hid hat16
      replace HbS := Lib.hid (HbS.out.trans hbD)
      clear hbD hrun hrow16 hg16 hat16
      clear d0 d1 d2 d3 d4 d5 d6 d7 hld
      obtain ⟨d0, d1, d2, d3, d4, d5, d6, d7⟩ := box8 (HV.out.under HbS.out)
      have hld := (HV.out.under HbS.out).lt
      refine wpAny_ready (rs := [17]) (by kernel_rfl) (by simp) ?_
      refine AllReady.cons rfl (fun K hK => ?_) AllReady.nil
      have hat := Hat7.out.under HbS.out
      have hsame := rsame_yes Y4 ad7 ad16 cap7 cap16 (rs3 ++ [xr]) hat Hat16.out (by rw [HL1.out]; omega)
      rw [HL1.out] at hsame
      have Hsame := Lib.hid hsame
      clear hsame hat
      go_simp
      go_at_call 13
      refine (Hsame.out).mono ?_
      rintro e w9 ⟨rfl, hb9⟩
      have HBe := Lib.hid ((HB.out.trans (HbS.out.mono HB.out.size)).trans (hb9.mono (by have h1 := HB.out.size; have h2 := HbS.out.size; omega)))
      clear hb9 Hsame
      refine hK _ _ ?_
      clear hK K
      refine wpAny_take (i := 18) (v := ?v36) rfl (by kernel_rfl) (by kernel_rfl) (by kernel_rfl) (fun _ _ _ h => h) (Or.inl ⟨by kernel_rfl, ?h36⟩) ?r36
      case h36 => (intro w; go_simp; first | done | (with_reducible rfl))
      refine wpAny_ready (rs := [19]) (by kernel_rfl) (by simp) ?_
      refine AllReady.cons rfl (fun K hK => ?_) AllReady.nil
      go_simp
      refine hK _ _ ?_
      clear hK K
      refine wpAny_done (by kernel_rfl) ?_ _
      try go_simp
      clear d0 d1 d2 d3 d4 d5 d6 d7 hld
      go_wp2
      go_ret
      exact ⟨rfl, HBe.out⟩
    refine AllReady.cons rfl (fun K hK => ?_) AllReady.nil
    go_simp
    refine hK _ _ ?_
    clear hK K
    refine wpAny_take (i := 14) (v := ?v37) rfl (by kernel_rfl) (by kernel_rfl) (by kernel_rfl) (fun _ _ _ h => h) (Or.inl ⟨by kernel_rfl, ?h37⟩) ?r37
    case h37 => (intro w; go_simp; first | done | (with_reducible rfl))
    refine wpAny_ready (rs := [8, 15]) (by kernel_rfl) (by simp) ?_
    refine AllReady.cons rfl (fun K hK => ?_) ?_
    · skip
      go_simp
      refine hK _ _ ?_
      clear hK K
      obtain ⟨Y1, hD⟩ : ∃ W, W = Y.alloc (.cells #[] 41) := ⟨_, rfl⟩
      rw [← hD]
      have hbD : Below Y.heap.size Y Y1 := by rw [hD]; exact (Below.refl _ Y).alloc (Nat.le_refl _) _
      have Hrow := Lib.hid (show Y1.ownsRow Y.heap.size 41 2 (.slice (some ⟨Y.heap.size, 0, none⟩) 0 0) 0 [] from by rw [hD]; exact row_empty Y _ HbS.out.size)
      have HszY1 := Lib.hid (show Y1.heap.size = Y.heap.size + 1 from by rw [hD]; exact sz_alloc _ _)
      replace HbS := Lib.hid (HbS.out.trans (hbD.mono HbS.out.size))
      clear hbD hD
      clear d0 d1 d2 d3 d4 d5 d6 d7 hld
      obtain ⟨d0, d1, d2, d3, d4, d5, d6, d7⟩ := box8 (HV.out.under HbS.out)
      have hld := (HV.out.under HbS.out).lt
      refine wpAny_ready (rs := [10, 15]) (by kernel_rfl) (by simp) ?_
      refine AllReady.cons rfl (fun K hK => ?_) ?_
      · skip
        have hat := Hat4.out.under HbS.out
        obtain ⟨v10, Y2, hrun, hrow10, hg10⟩ := app_recs Y1 Y.heap.size _ Hrow.out hat HN.out Hcap.out.2 (by omega) HbS.out.size
        rw [if_pos (by kernel_rfl)]
        refine op_app (.tmp 135) (.tmp 136) (.slice (some ⟨Y.heap.size, 0, none⟩) 0 0) (.slice ad5 N cap5) (by kernel_rfl) (by kernel_rfl) rfl hrun ?_
        refine hK _ _ ?_
        clear hK K
        have hge : Y.heap.size ≤ Y.heap.size := (World.ownsRow.lt Hrow.out _ rfl).1
        have hbD : Below Y.heap.size Y1 Y2 := (Below.refl _ Y1).grown hg10 HbS.out.size (fun k e => by simp [Value.ownBlock] at e; omega)
        have Hrow10 := Lib.hid hrow10
        replace HbS := Lib.hid (HbS.out.trans hbD)
        clear hbD hrun hrow10 hg10 hge hat Hrow
        clear d0 d1 d2 d3 d4 d5 d6 d7 hld
        obtain ⟨d0, d1, d2, d3, d4, d5, d6, d7⟩ := box8 (HV.out.under HbS.out)
        have hld := (HV.out.under HbS.out).lt
        refine wpAny_ready (rs := [15]) (by kernel_rfl) (by simp) ?_
        refine AllReady.cons rfl (fun K hK => ?_) AllReady.nil
        go_simp
        refine hK _ _ ?_
        clear hK K
        obtain ⟨Y3, hD⟩ : ∃ W, W = Y2.alloc (.cells #[.int .u64 x, .string more] 41) := ⟨_, rfl⟩
        rw [← hD]
        have hbD : Below Y2.heap.size Y2 Y3 := by rw [hD]; exact (Below.refl _ Y2).alloc (Nat.le_refl _) _
        have Hbox := Lib.hid (show Y3.heap[Y2.heap.size]? = some (.cells #[.int .u64 x, .string more] 41 (0, 0)) from by rw [hD]; exact blk_new Y2 _)
        have HszY3 := Lib.hid (show Y3.heap.size = Y2.heap.size + 1 from by rw [hD]; exact sz_alloc _ _)
        replace Hrow10 := Lib.hid (row_under Hrow10.out hbD)
        replace HbS := Lib.hid (HbS.out.trans (hbD.mono HbS.out.size))
        clear hbD hD
        clear d0 d1 d2 d3 d4 d5 d6 d7 hld
        obtain ⟨d0, d1, d2, d3, d4, d5, d6, d7⟩ := box8 (HV.out.under HbS.out)
        have hld := (HV.out.under HbS.out).lt
        refine wpAny_ready (rs := [16]) (by kernel_rfl) (by simp) ?_
        refine AllReady.cons rfl (fun K hK => ?_) AllReady.nil
        obtain ⟨v16, Y4, hrun, hrow16, hg16⟩ := app_more Y3 Y.heap.size Y2.heap.size v10 rs3 xr HN.out HbS.out.size Hrow10.out (by omega) (by rw [Hxs.out, Hxd.out]; exact Hbox.out)
        rw [if_pos (by kernel_rfl)]
        refine op_app (.tmp 137) (.tmp 142) v10 (.slice (some ⟨Y2.heap.size, 0, none⟩) 1 1) (by kernel_rfl) (by kernel_rfl) rfl hrun ?_
        refine hK _ _ ?_
        clear hK K
        have hbD : Below Y.heap.size Y3 Y4 := (Below.refl _ Y3).grown hg16 HbS.out.size (fun k e => (World.ownsRow.lt Hrow10.out k e).1)
        obtain ⟨ad16, cap16, hv16, hat16, _⟩ := hrow16.form
        rw [HL1.out] at hv16
        subst hv16
        have Hat16 := Lib.hid hat16
        replace HbS := Lib.hid (HbS.out.trans hbD)
        clear hbD hrun hrow16 hg16 hat16
        clear d0 d1 d2 d3 d4 d5 d6 d7 hld
        obtain ⟨d0, d1, d2, d3, d4, d5, d6, d7⟩ := box8 (HV.out.under HbS.out)
        have hld := (HV.out.under HbS.out).lt
        refine wpAny_ready (rs := [17]) (by kernel_rfl) (by simp) ?_
        refine AllReady.cons rfl (fun K hK => ?_) AllReady.nil
        have hat := Hat7.out.under HbS.out
        have hsame := rsame_yes Y4 ad7 ad16 cap7 cap16 (rs3 ++ [xr]) hat Hat16.out (by rw [HL1.out]; omega)
        rw [HL1.out] at hsame
        have Hsame := Lib.hid hsame
        clear hsame hat
        go_simp
        go_at_call 13
        refine (Hsame.out).mono ?_
        rintro e w9 ⟨rfl, hb9⟩
        have HBe := Lib.hid ((HB.out.trans (HbS.out.mono HB.out.size)).trans (hb9.mono (by have h1 := HB.out.size; have h2 := HbS.out.size; omega)))
        clear hb9 Hsame
        refine hK _ _ ?_
        clear hK K
        refine wpAny_take (i := 18) (v := ?v38) rfl (by kernel_rfl) (by kernel_rfl) (by kernel_rfl) (fun _ _ _ h => h) (Or.inl ⟨by kernel_rfl, ?h38⟩) ?r38
        case h38 => (intro w; go_simp; first | done | (with_reducible rfl))
        refine wpAny_ready (rs := [19]) (by kernel_rfl) (by simp) ?_
        refine AllReady.cons rfl (fun K hK => ?_) AllReady.nil
        go_simp
        refine hK _ _ ?_
        clear hK K
        refine wpAny_done (by kernel_rfl) ?_ _
        try go_simp
        clear d0 d1 d2 d3 d4 d5 d6 d7 hld
        go_wp2
        go_ret
        exact ⟨rfl, HBe.out⟩
      refine AllReady.cons rfl (fun K hK => ?_) AllReady.nil
      go_simp
      refine hK _ _ ?_
      clear hK K
      obtain ⟨Y2, hD⟩ : ∃ W, W = Y1.alloc (.cells #[.int .u64 x, .string more] 41) := ⟨_, rfl⟩
      rw [← hD]
      have hbD : Below Y1.heap.size Y1 Y2 := by rw [hD]; exact (Below.refl _ Y1).alloc (Nat.le_refl _) _
      have Hbox := Lib.hid (show Y2.heap[Y1.heap.size]? = some (.cells #[.int .u64 x, .string more] 41 (0, 0)) from by rw [hD]; exact blk_new Y1 _)
      have HszY2 := Lib.hid (show Y2.heap.size = Y1.heap.size + 1 from by rw [hD]; exact sz_alloc _ _)
      replace Hrow := Lib.hid (row_under Hrow.out hbD)
      replace HbS := Lib.hid (HbS.out.trans (hbD.mono HbS.out.size))
      clear hbD hD
      clear d0 d1 d2 d3 d4 d5 d6 d7 hld
      obtain ⟨d0, d1, d2, d3, d4, d5, d6, d7⟩ := box8 (HV.out.under HbS.out)
      have hld := (HV.out.under HbS.out).lt
      refine wpAny_ready (rs := [10]) (by kernel_rfl) (by simp) ?_
      refine AllReady.cons rfl (fun K hK => ?_) AllReady.nil
      have hat := Hat4.out.under HbS.out
      obtain ⟨v10, Y3, hrun, hrow10, hg10⟩ := app_recs Y2 Y.heap.size _ Hrow.out hat HN.out Hcap.out.2 (by omega) HbS.out.size
      rw [if_pos (by kernel_rfl)]
      refine op_app (.tmp 135) (.tmp 136) (.slice (some ⟨Y.heap.size, 0, none⟩) 0 0) (.slice ad5 N cap5) (by kernel_rfl) (by kernel_rfl) rfl hrun ?_
      refine hK _ _ ?_
      clear hK K
      have hge : Y.heap.size ≤ Y.heap.size := (World.ownsRow.lt Hrow.out _ rfl).1
      have hbD : Below Y.heap.size Y2 Y3 := (Below.refl _ Y2).grown hg10 HbS.out.size (fun k e => by simp [Value.ownBlock] at e; omega)
      have Hrow10 := Lib.hid hrow10
      have hne : Y.heap.size ≠ Y1.heap.size := by have h1 := HszY1.out; have h2 := HszY2.out; omega
      replace Hbox := Lib.hid ((hg10.block _ (Array.getElem?_eq_some_iff.1 Hbox.out).1 (fun e => by simp [Value.ownBlock] at e; exact hne e.symm)).trans Hbox.out)
      clear hne
      replace HbS := Lib.hid (HbS.out.trans hbD)
      clear hbD hrun hrow10 hg10 hge hat Hrow
      clear d0 d1 d2 d3 d4 d5 d6 d7 hld
      obtain ⟨d0, d1, d2, d3, d4, d5, d6, d7⟩ := box8 (HV.out.under HbS.out)
      have hld := (HV.out.under HbS.out).lt
      refine wpAny_ready (rs := [16]) (by kernel_rfl) (by simp) ?_
      refine AllReady.cons rfl (fun K hK => ?_) AllReady.nil
      obtain ⟨v16, Y4, hrun, hrow16, hg16⟩ := app_more Y3 Y.heap.size Y1.heap.size v10 rs3 xr HN.out HbS.out.size Hrow10.out (by omega) (by rw [Hxs.out, Hxd.out]; exact Hbox.out)
      rw [if_pos (by kernel_rfl)]
      refine op_app (.tmp 137) (.tmp 142) v10 (.slice (some ⟨Y1.heap.size, 0, none⟩) 1 1) (by kernel_rfl) (by kernel_rfl) rfl hrun ?_
      refine hK _ _ ?_
      clear hK K
      have hbD : Below Y.heap.size Y3 Y4 := (Below.refl _ Y3).grown hg16 HbS.out.size (fun k e => (World.ownsRow.lt Hrow10.out k e).1)
      obtain ⟨ad16, cap16, hv16, hat16, _⟩ := hrow16.form
      rw [HL1.out] at hv16
      subst hv16
      have Hat16 := Lib.hid hat16
      replace HbS := Lib.hid (HbS.out.trans hbD)
      clear hbD hrun hrow16 hg16 hat16
      clear d0 d1 d2 d3 d4 d5 d6 d7 hld
      obtain ⟨d0, d1, d2, d3, d4, d5, d6, d7⟩ := box8 (HV.out.under HbS.out)
      have hld := (HV.out.under HbS.out).lt
      refine wpAny_ready (rs := [17]) (by kernel_rfl) (by simp) ?_
      refine AllReady.cons rfl (fun K hK => ?_) AllReady.nil
      have hat := Hat7.out.under HbS.out
      have hsame := rsame_yes Y4 ad7 ad16 cap7 cap16 (rs3 ++ [xr]) hat Hat16.out (by rw [HL1.out]; omega)
      rw [HL1.out] at hsame
      have Hsame := Lib.hid hsame
      clear hsame hat
      go_simp
      go_at_call 13
      refine (Hsame.out).mono ?_
      rintro e w9 ⟨rfl, hb9⟩
      have HBe := Lib.hid ((HB.out.trans (HbS.out.mono HB.out.size)).trans (hb9.mono (by have h1 := HB.out.size; have h2 := HbS.out.size; omega)))
      clear hb9 Hsame
      refine hK _ _ ?_
      clear hK K
      refine wpAny_take (i := 18) (v := ?v39) rfl (by kernel_rfl) (by kernel_rfl) (by kernel_rfl) (fun _ _ _ h => h) (Or.inl ⟨by kernel_rfl, ?h39⟩) ?r39
      case h39 => (intro w; go_simp; first | done | (with_reducible rfl))
      refine wpAny_ready (rs := [19]) (by kernel_rfl) (by simp) ?_
      refine AllReady.cons rfl (fun K hK => ?_) AllReady.nil
      go_simp
      refine hK _ _ ?_
      clear hK K
      refine wpAny_done (by kernel_rfl) ?_ _
      try go_simp
      clear d0 d1 d2 d3 d4 d5 d6 d7 hld
      go_wp2
      go_ret
      exact ⟨rfl, HBe.out⟩
    refine AllReady.cons rfl (fun K hK => ?_) AllReady.nil
    go_simp
    refine hK _ _ ?_
    clear hK K
    obtain ⟨Y1, hD⟩ : ∃ W, W = Y.alloc (.cells #[.int .u64 x, .string more] 41) := ⟨_, rfl⟩
    rw [← hD]
    have hbD : Below Y.heap.size Y Y1 := by rw [hD]; exact (Below.refl _ Y).alloc (Nat.le_refl _) _
    have Hbox := Lib.hid (show Y1.heap[Y.heap.size]? = some (.cells #[.int .u64 x, .string more] 41 (0, 0)) from by rw [hD]; exact blk_new Y _)
    have HszY1 := Lib.hid (show Y1.heap.size = Y.heap.size + 1 from by rw [hD]; exact sz_alloc _ _)
    replace HbS := Lib.hid (HbS.out.trans (hbD.mono HbS.out.size))
    clear hbD hD
    clear d0 d1 d2 d3 d4 d5 d6 d7 hld
    obtain ⟨d0, d1, d2, d3, d4, d5, d6, d7⟩ := box8 (HV.out.under HbS.out)
    have hld := (HV.out.under HbS.out).lt
    refine wpAny_ready (rs := [8]) (by kernel_rfl) (by simp) ?_
    refine AllReady.cons rfl (fun K hK => ?_) AllReady.nil
    go_simp
    refine hK _ _ ?_
    clear hK K
    obtain ⟨Y2, hD⟩ : ∃ W, W = Y1.alloc (.cells #[] 41) := ⟨_, rfl⟩
    rw [← hD]
    have hbD : Below Y1.heap.size Y1 Y2 := by rw [hD]; exact (Below.refl _ Y1).alloc (Nat.le_refl _) _
    have Hrow := Lib.hid (show Y2.ownsRow Y.heap.size 41 2 (.slice (some ⟨Y1.heap.size, 0, none⟩) 0 0) 0 [] from by rw [hD]; exact row_empty Y1 _ HbS.out.size)
    have HszY2 := Lib.hid (show Y2.heap.size = Y1.heap.size + 1 from by rw [hD]; exact sz_alloc _ _)
    replace Hbox := Lib.hid ((hbD.block _ (Array.getElem?_eq_some_iff.1 Hbox.out).1).trans Hbox.out)
    replace HbS := Lib.hid (HbS.out.trans (hbD.mono HbS.out.size))
    clear hbD hD
    clear d0 d1 d2 d3 d4 d5 d6 d7 hld
    obtain ⟨d0, d1, d2, d3, d4, d5, d6, d7⟩ := box8 (HV.out.under HbS.out)
    have hld := (HV.out.under HbS.out).lt
    refine wpAny_ready (rs := [10]) (by kernel_rfl) (by simp) ?_
    refine AllReady.cons rfl (fun K hK => ?_) AllReady.nil
    have hat := Hat4.out.under HbS.out
    obtain ⟨v10, Y3, hrun, hrow10, hg10⟩ := app_recs Y2 Y.heap.size _ Hrow.out hat HN.out Hcap.out.2 (by omega) HbS.out.size
    rw [if_pos (by kernel_rfl)]
    refine op_app (.tmp 135) (.tmp 136) (.slice (some ⟨Y1.heap.size, 0, none⟩) 0 0) (.slice ad5 N cap5) (by kernel_rfl) (by kernel_rfl) rfl hrun ?_
    refine hK _ _ ?_
    clear hK K
    have hge : Y.heap.size ≤ Y1.heap.size := (World.ownsRow.lt Hrow.out _ rfl).1
    have hbD : Below Y.heap.size Y2 Y3 := (Below.refl _ Y2).grown hg10 HbS.out.size (fun k e => by simp [Value.ownBlock] at e; omega)
    have Hrow10 := Lib.hid hrow10
    have hne : Y1.heap.size ≠ Y.heap.size := by have h1 := HszY2.out; have h2 := HszY1.out; omega
    replace Hbox := Lib.hid ((hg10.block _ (Array.getElem?_eq_some_iff.1 Hbox.out).1 (fun e => by simp [Value.ownBlock] at e; exact hne e.symm)).trans Hbox.out)
    clear hne
    replace HbS := Lib.hid (HbS.out.trans hbD)
    clear hbD hrun hrow10 hg10 hge hat Hrow
    clear d0 d1 d2 d3 d4 d5 d6 d7 hld
    obtain ⟨d0, d1, d2, d3, d4, d5, d6, d7⟩ := box8 (HV.out.under HbS.out)
    have hld := (HV.out.under HbS.out).lt
    refine wpAny_ready (rs := [16]) (by kernel_rfl) (by simp) ?_
    refine AllReady.cons rfl (fun K hK => ?_) AllReady.nil
    obtain ⟨v16, Y4, hrun, hrow16, hg16⟩ := app_more Y3 Y.heap.size Y.heap.size v10 rs3 xr HN.out HbS.out.size Hrow10.out (by omega) (by rw [Hxs.out, Hxd.out]; exact Hbox.out)
    rw [if_pos (by kernel_rfl)]
    refine op_app (.tmp 137) (.tmp 142) v10 (.slice (some ⟨Y.heap.size, 0, none⟩) 1 1) (by kernel_rfl) (by kernel_rfl) rfl hrun ?_
    refine hK _ _ ?_
    clear hK K
    have hbD : Below Y.heap.size Y3 Y4 := (Below.refl _ Y3).grown hg16 HbS.out.size (fun k e => (World.ownsRow.lt Hrow10.out k e).1)
    obtain ⟨ad16, cap16, hv16, hat16, _⟩ := hrow16.form
    rw [HL1.out] at hv16
    subst hv16
    have Hat16 := Lib.hid hat16
    replace HbS := Lib.hid (HbS.out.trans hbD)
    clear hbD hrun hrow16 hg16 hat16
    clear d0 d1 d2 d3 d4 d5 d6 d7 hld
    obtain ⟨d0, d1, d2, d3, d4, d5, d6, d7⟩ := box8 (HV.out.under HbS.out)
    have hld := (HV.out.under HbS.out).lt
    refine wpAny_ready (rs := [17]) (by kernel_rfl) (by simp) ?_
    refine AllReady.cons rfl (fun K hK => ?_) AllReady.nil
    have hat := Hat7.out.under HbS.out
    have hsame := rsame_yes Y4 ad7 ad16 cap7 cap16 (rs3 ++ [xr]) hat Hat16.out (by rw [HL1.out]; omega)
    rw [HL1.out] at hsame
    have Hsame := Lib.hid hsame
    clear hsame hat
    go_simp
    go_at_call 13
    refine (Hsame.out).mono ?_
    rintro e w9 ⟨rfl, hb9⟩
    have HBe := Lib.hid ((HB.out.trans (HbS.out.mono HB.out.size)).trans (hb9.mono (by have h1 := HB.out.size; have h2 := HbS.out.size; omega)))
    clear hb9 Hsame
    refine hK _ _ ?_
    clear hK K
    refine wpAny_take (i := 18) (v := ?v40) rfl (by kernel_rfl) (by kernel_rfl) (by kernel_rfl) (fun _ _ _ h => h) (Or.inl ⟨by kernel_rfl, ?h40⟩) ?r40
    case h40 => (intro w; go_simp; first | done | (with_reducible rfl))
    refine wpAny_ready (rs := [19]) (by kernel_rfl) (by simp) ?_
    refine AllReady.cons rfl (fun K hK => ?_) AllReady.nil
    go_simp
    refine hK _ _ ?_
    clear hK K
    refine wpAny_done (by kernel_rfl) ?_ _
    try go_simp
    clear d0 d1 d2 d3 d4 d5 d6 d7 hld
    go_wp2
    go_ret
    exact ⟨rfl, HBe.out⟩
  · have hz1 : (cd2 == 0) = false := by simp [hz]
    clear hz
    obtain ⟨d0, d1, d2, d3, d4, d5, d6, d7⟩ := box8 HV.out
    have hld := HV.out.lt
    go_wp2_with fail
    refine (append_is2 Hr.out W4 ad4 n4 cap4 HR3.out rfl hmore (lin_of Hd4.out HR3.out (by show (0 : Int) ≤ 1; decide)) HT.out HW.out).mono ?_
    rintro e w5 ⟨ad6, n6, cap6, rfl, hd6, _, hb⟩
    replace HT := Lib.hid (HT.out.under hb)
    replace HS := Lib.hid (HS.out.under hb)
    replace HW := Lib.hid (HW.out.under hb)
    replace HK := Lib.hid (HK.out.under hb)
    replace Hatv := Lib.hid (Hatv.out.under hb)
    replace Hd2 := Lib.hid (Hd2.out.under hb)
    replace HQ2 := Lib.hid (HQ2.out.under hb)
    replace Hd3 := Lib.hid (Hd3.out.under hb)
    replace HQ3 := Lib.hid (HQ3.out.under hb)
    replace Hd4 := Lib.hid (Hd4.out.under hb)
    replace Hat4 := Lib.hid (Hat4.out.under hb)
    replace HV := Lib.hid (HV.out.under hb)
    replace HB := Lib.hid (HB.out.trans (hb.mono HB.out.size))
    have Hd6 := Lib.hid (show DIn w5 ad6 n6 cap6 fu4 fa4 fs4 from hd6)
    clear hMNI hz1
    clear hb hd6 d0 d1 d2 d3 d4 d5 d6 d7 hld h1N
    obtain ⟨W5, hW5⟩ : ∃ W, W = w5.alloc (.cells #[.slice ad6 n6 cap6, .bool dn4, .int .i64 fu4, .int .i64 fa4, .int .i64 sz4, .int .u64 fr4, .int .u64 nx4, .bool br4] 30) := ⟨_, rfl⟩
    have hbW5 : Below w5.heap.size w5 W5 := by rw [hW5]; exact (Below.refl _ w5).alloc (Nat.le_refl _) _
    replace HT := Lib.hid (HT.out.under hbW5)
    replace HS := Lib.hid (HS.out.under hbW5)
    replace HW := Lib.hid (HW.out.under hbW5)
    replace HK := Lib.hid (HK.out.under hbW5)
    replace Hatv := Lib.hid (Hatv.out.under hbW5)
    replace Hd2 := Lib.hid (Hd2.out.under hbW5)
    replace HQ2 := Lib.hid (HQ2.out.under hbW5)
    replace Hd3 := Lib.hid (Hd3.out.under hbW5)
    replace HQ3 := Lib.hid (HQ3.out.under hbW5)
    replace Hd4 := Lib.hid (Hd4.out.under hbW5)
    replace Hat4 := Lib.hid (Hat4.out.under hbW5)
    replace HV := Lib.hid (HV.out.under hbW5)
    replace Hd6 := Lib.hid (Hd6.out.under hbW5)
    replace HB := Lib.hid (HB.out.trans (hbW5.mono HB.out.size))
    have HE := Lib.hid (show Blk W5 w5.heap.size #[.slice ad6 n6 cap6, .bool dn4, .int .i64 fu4, .int .i64 fa4, .int .i64 sz4, .int .u64 fr4, .int .u64 nx4, .bool br4] 30 from by rw [hW5]; exact blk_new w5 _)
    clear hbW5
    go_upto_region 13 with (fail)
    rw [← hW5]
    clear hW5
    by_cases hm : 65536 < more.size
    · have hcd : cd3 = 4 := HA2.out.long hm
      subst hcd
      clear HA2 Hr
      go_wp2
      go_ret
      exact ⟨rfl, HB.out⟩
    have hmI : ¬ (65536 : Int) < (more.size : Int) := by omega
    have hfull : cd3 = 0 ∨ (cd3 = 8 ∧ fs3.length = 64) := HA2.out.full (by omega) rfl rfl
    have Hfull := Lib.hid hfull
    clear hfull
    obtain ⟨c0, c1, c2, c3, c4, c5, c6, c7⟩ := box8 HE.out
    have hlc := HE.out.lt
    have HI6 := Lib.hid (show LIn W5 ad6 n6 cap6 ⟨⟨fs4, dn4, fu4, fa4⟩, sz4, fr4, nx4, br4⟩ from by
      have h1 := HA2.out.sz
      have h2 := HA2.out.fr
      have h3 := HA2.out.n0
      have h4 := HA2.out.n1
      simp only at h1 h2 h3 h4
      exact ⟨Hd6.out, by show _ ≤ sz4; omega, by show sz4 ≤ _; omega, by show 0 ≤ fr4; omega, by show fr4 ≤ _; omega, h3, by show nx4 ≤ _; omega⟩)
    have hrec := records_any W5 ad6 n6 cap6 ⟨⟨fs4, dn4, fu4, fa4⟩, sz4, fr4, nx4, br4⟩ HI6.out HT.out HW.out
    have Hrec := Lib.hid hrec
    clear hrec HI6
    by_cases h64 : 64 ≤ n4
    · go_wp2_with fail
      refine (Hrec.out).mono ?_
      rintro e w6 ⟨hb, ⟨_, c, _, rfl⟩ | ⟨_, _, _, ad7, cap7, rfl, _⟩⟩
      all_goals
        clear Hrec c0 c1 c2 c3 c4 c5 c6 c7 hlc
        replace HV := Lib.hid (HV.out.under hb)
        replace HB := Lib.hid (HB.out.trans (hb.mono HB.out.size))
        clear hb
        obtain ⟨d0, d1, d2, d3, d4, d5, d6, d7⟩ := box8 HV.out
        have hld := HV.out.lt
        have h64I : (64 : Int) ≤ (n4 : Int) := by omega
        rcases Hfull.out with e | ⟨e, _⟩
        · subst e
          clear Hfull HA2 Hr
          go_wp2
          go_ret
          exact ⟨rfl, HB.out⟩
        · subst e
          clear Hfull HA2 Hr
          go_wp2
          go_ret
          exact ⟨rfl, HB.out⟩
    have hcd : cd3 = 0 := Hfull.out.elim id (fun h => by have := HN4.out; omega)
    subst hcd
    obtain ⟨q1, q2, hK2, hr1⟩ := HA2.out.ok rfl
    simp only at hK2
    have e1 : dn4 = false := congrArg (fun l => l.d.down) hr1
    have e5 : br4 = false := congrArg L.broken hr1
    have e2 : sz4 = size := congrArg L.size hr1
    have e3 : fr4 = 1 := congrArg L.fr hr1
    have e4 : nx4 = ((1 + (rs3.length + 1) : Nat) : Int) := congrArg L.nx hr1
    have HR4 := Lib.hid (show LRight ⟨⟨fs4, dn4, fu4, fa4⟩, sz4, fr4, nx4, br4⟩ from ⟨hK2.R, by show 1 ≤ sz4 ∧ sz4 ≤ 262144; rw [e2]; exact Hhs.out, by show fr4 ≤ nx4; omega, by show nx4 ≤ _; have := HN.out; omega⟩)
    have Hbr := Lib.hid (show (⟨⟨fs4, dn4, fu4, fa4⟩, sz4, fr4, nx4, br4⟩ : L).broken = false from e5)
    have Hdn := Lib.hid (show (⟨⟨fs4, dn4, fu4, fa4⟩, sz4, fr4, nx4, br4⟩ : L).d.down = false from e1)
    have hrdl : (rdF fs4).rs = rs3 ++ [⟨1 + rs3.length, more, q1, q2⟩] := by rw [kk_rdF hK2]
    have Hrd := Lib.hid (show (rdF (⟨⟨fs4, dn4, fu4, fa4⟩, sz4, fr4, nx4, br4⟩ : L).d.files).rs = rs3 ++ [⟨1 + rs3.length, more, q1, q2⟩] from hrdl)
    have Hhd := Lib.hid (show fr4 = 1 from e3)
    have Hxs := Lib.hid (show ((⟨1 + rs3.length, more, q1, q2⟩ : Rec).seq : Int) = x from by show ((1 + rs3.length : Nat) : Int) = x; have := Hx.out; have := HN.out; omega)
    obtain ⟨xr, hxr⟩ : ∃ r : Rec, r = ⟨1 + rs3.length, more, q1, q2⟩ := ⟨_, rfl⟩
    have Hxd := Lib.hid (show xr.data = more from by rw [hxr])
    rw [← hxr] at Hrd Hxs
    have HL1 := Lib.hid (show (rs3 ++ [xr]).length = N + 1 from by rw [List.length_append, HN.out]; rfl)
    clear hK2 hr1 e1 e5 e2 e3 e4 hrdl hxr HA2 Hr Hfull Hrec hm
    go_wp2_with fail
    refine (records_is W5 ad6 n6 cap6 ⟨⟨fs4, dn4, fu4, fa4⟩, sz4, fr4, nx4, br4⟩ (lin_of Hd6.out HR4.out (by show 0 ≤ fr4; have := Hhd.out; omega)) HR4.out Hbr.out Hdn.out Hrd.out HT.out HW.out).mono ?_
    rintro e w6 ⟨ad7, cap7, rfl, hat7, hb⟩
    replace HT := Lib.hid (HT.out.under hb)
    replace HS := Lib.hid (HS.out.under hb)
    replace HW := Lib.hid (HW.out.under hb)
    replace HK := Lib.hid (HK.out.under hb)
    replace Hatv := Lib.hid (Hatv.out.under hb)
    replace Hd2 := Lib.hid (Hd2.out.under hb)
    replace HQ2 := Lib.hid (HQ2.out.under hb)
    replace Hd3 := Lib.hid (Hd3.out.under hb)
    replace HQ3 := Lib.hid (HQ3.out.under hb)
    replace Hd4 := Lib.hid (Hd4.out.under hb)
    replace Hat4 := Lib.hid (Hat4.out.under hb)
    replace HV := Lib.hid (HV.out.under hb)
    replace Hd6 := Lib.hid (Hd6.out.under hb)
    replace HE := Lib.hid (HE.out.under hb)
    replace HB := Lib.hid (HB.out.trans (hb.mono HB.out.size))
    rw [HL1.out]
    have Hat7 := Lib.hid hat7
    clear hb hat7 c0 c1 c2 c3 c4 c5 c6 c7 hlc
    have h64I : ¬ (64 : Int) ≤ (n4 : Int) := by omega
    obtain ⟨d0, d1, d2, d3, d4, d5, d6, d7⟩ := box8 HV.out
    have hld := HV.out.lt
    go_upto_region 18 with (fail)
    refine wp_region_any (by kernel_rfl) ?_
    obtain ⟨Y, hY⟩ : ∃ W, w6.drew = W := ⟨_, rfl⟩
    change wpAny _ _ _ _ _ _ _ (w6.drew)
    rw [hY]
    have hb : Below w6.heap.size w6 Y := by rw [← hY]; exact (Below.refl _ w6).drew
    replace HT := Lib.hid (HT.out.under hb)
    replace HS := Lib.hid (HS.out.under hb)
    replace HW := Lib.hid (HW.out.under hb)
    replace HK := Lib.hid (HK.out.under hb)
    replace Hatv := Lib.hid (Hatv.out.under hb)
    replace Hd2 := Lib.hid (Hd2.out.under hb)
    replace HQ2 := Lib.hid (HQ2.out.under hb)
    replace Hd3 := Lib.hid (Hd3.out.under hb)
    replace HQ3 := Lib.hid (HQ3.out.under hb)
    replace Hd4 := Lib.hid (Hd4.out.under hb)
    replace Hat4 := Lib.hid (Hat4.out.under hb)
    replace HV := Lib.hid (HV.out.under hb)
    replace Hd6 := Lib.hid (Hd6.out.under hb)
    replace HE := Lib.hid (HE.out.under hb)
    replace Hat7 := Lib.hid (Hat7.out.under hb)
    replace HB := Lib.hid (HB.out.trans (hb.mono HB.out.size))
    clear hb hY d0 d1 d2 d3 d4 d5 d6 d7 hld
    have HbS := Lib.hid (Below.refl Y.heap.size Y)
    obtain ⟨d0, d1, d2, d3, d4, d5, d6, d7⟩ := box8 HV.out
    have hld := HV.out.lt
    refine wpAny_take (i := 0) (v := ?v41) rfl (by kernel_rfl) (by kernel_rfl) (by kernel_rfl) (fun _ _ _ h => h) (Or.inl ⟨by kernel_rfl, ?h41⟩) ?r41
    case h41 => (intro w; go_simp; first | done | (with_reducible rfl))
    refine wpAny_take (i := 1) (v := ?v42) rfl (by kernel_rfl) (by kernel_rfl) (by kernel_rfl) (fun _ _ _ h => h) (Or.inl ⟨by kernel_rfl, ?h42⟩) ?r42
    case h42 => (intro w; go_simp; first | done | (with_reducible rfl))
    refine wpAny_take (i := 2) (v := ?v43) rfl (by kernel_rfl) (by kernel_rfl) (by kernel_rfl) (fun _ _ _ h => h) (Or.inl ⟨by kernel_rfl, ?h43⟩) ?r43
    case h43 => (intro w; go_simp; first | done | (with_reducible rfl))
    refine wpAny_take (i := 3) (v := ?v44) rfl (by kernel_rfl) (by kernel_rfl) (by kernel_rfl) (fun _ _ _ h => h) (Or.inl ⟨by kernel_rfl, ?h44⟩) ?r44
    case h44 => (intro w; go_simp; first | done | (with_reducible rfl))
    refine wpAny_take (i := 4) (v := ?v45) rfl (by kernel_rfl) (by kernel_rfl) (by kernel_rfl) (fun _ _ _ h => h) (Or.inl ⟨by kernel_rfl, ?h45⟩) ?r45
    case h45 => (intro w; go_simp; first | done | (with_reducible rfl))
    refine wpAny_take (i := 5) (v := ?v46) rfl (by kernel_rfl) (by kernel_rfl) (by kernel_rfl) (fun _ _ _ h => h) (Or.inl ⟨by kernel_rfl, ?h46⟩) ?r46
    case h46 => (intro w; go_simp; first | done | (with_reducible rfl))
    refine wpAny_take (i := 6) (v := ?v47) rfl (by kernel_rfl) (by kernel_rfl) (by kernel_rfl) (fun _ _ _ h => h) (Or.inl ⟨by kernel_rfl, ?h47⟩) ?r47
    case h47 => (intro w; go_simp; first | done | (with_reducible rfl))
    refine wpAny_take (i := 7) (v := ?v48) rfl (by kernel_rfl) (by kernel_rfl) (by kernel_rfl) (fun _ _ _ h => h) (Or.inl ⟨by kernel_rfl, ?h48⟩) ?r48
    case h48 => (intro w; go_simp; first | done | (with_reducible rfl))
    refine wpAny_take (i := 9) (v := ?v49) rfl (by kernel_rfl) (by kernel_rfl) (by kernel_rfl) (fun _ _ _ h => h) (Or.inl ⟨by kernel_rfl, ?h49⟩) ?r49
    case h49 => (intro w; go_simp; first | done | (with_reducible rfl))
    refine wpAny_take (i := 11) (v := ?v50) rfl (by kernel_rfl) (by kernel_rfl) (by kernel_rfl) (fun _ _ _ h => h) (Or.inl ⟨by kernel_rfl, ?h50⟩) ?r50
    case h50 => (intro w; go_simp; first | done | (with_reducible rfl))
    refine wpAny_take (i := 13) (v := ?v51) rfl (by kernel_rfl) (by kernel_rfl) (by kernel_rfl) (fun _ _ _ h => h) (Or.inl ⟨by kernel_rfl, ?h51⟩) ?r51
    case h51 => (intro w; go_simp; first | done | (with_reducible rfl))
    refine wpAny_ready (rs := [8, 12]) (by kernel_rfl) (by simp) ?_
    refine AllReady.cons rfl (fun K hK => ?_) ?_
    · skip
      go_simp
      refine hK _ _ ?_
      clear hK K
      obtain ⟨Y1, hD⟩ : ∃ W, W = Y.alloc (.cells #[] 41) := ⟨_, rfl⟩
      rw [← hD]
      have hbD : Below Y.heap.size Y Y1 := by rw [hD]; exact (Below.refl _ Y).alloc (Nat.le_refl _) _
      have Hrow := Lib.hid (show Y1.ownsRow Y.heap.size 41 2 (.slice (some ⟨Y.heap.size, 0, none⟩) 0 0) 0 [] from by rw [hD]; exact row_empty Y _ HbS.out.size)
      have HszY1 := Lib.hid (show Y1.heap.size = Y.heap.size + 1 from by rw [hD]; exact sz_alloc _ _)
      replace HbS := Lib.hid (HbS.out.trans (hbD.mono HbS.out.size))
      clear hbD hD
      clear d0 d1 d2 d3 d4 d5 d6 d7 hld
      obtain ⟨d0, d1, d2, d3, d4, d5, d6, d7⟩ := box8 (HV.out.under HbS.out)
      have hld := (HV.out.under HbS.out).lt
      refine wpAny_ready (rs := [10, 12]) (by kernel_rfl) (by simp) ?_
      refine AllReady.cons rfl (fun K hK => ?_) ?_
      · skip
        have hat := Hat4.out.under HbS.out
        obtain ⟨v10, Y2, hrun, hrow10, hg10⟩ := app_recs Y1 Y.heap.size _ Hrow.out hat HN.out Hcap.out.2 (by omega) HbS.out.size
        rw [if_pos (by kernel_rfl)]
        refine op_app (.tmp 135) (.tmp 136) (.slice (some ⟨Y.heap.size, 0, none⟩) 0 0) (.slice ad5 N cap5) (by kernel_rfl) (by kernel_rfl) rfl hrun ?_
        refine hK _ _ ?_
        clear hK K
        have hge : Y.heap.size ≤ Y.heap.size := (World.ownsRow.lt Hrow.out _ rfl).1
        have hbD : Below Y.heap.size Y1 Y2 := (Below.refl _ Y1).grown hg10 HbS.out.size (fun k e => by simp [Value.ownBlock] at e; omega)
        have Hrow10 := Lib.hid hrow10
        replace HbS := Lib.hid (HbS.out.trans hbD)
        clear hbD hrun hrow10 hg10 hge hat Hrow
        clear d0 d1 d2 d3 d4 d5 d6 d7 hld
        obtain ⟨d0, d1, d2, d3, d4, d5, d6, d7⟩ := box8 (HV.out.under HbS.out)
        have hld := (HV.out.under HbS.out).lt
        refine wpAny_ready (rs := [12]) (by kernel_rfl) (by simp) ?_
        refine AllReady.cons rfl (fun K hK => ?_) AllReady.nil
        go_simp
        refine hK _ _ ?_
        clear hK K
        refine wpAny_take (i := 14) (v := ?v52) rfl (by kernel_rfl) (by kernel_rfl) (by kernel_rfl) (fun _ _ _ h => h) (Or.inl ⟨by kernel_rfl, ?h52⟩) ?r52
        case h52 => (intro w; go_simp; first | done | (with_reducible rfl))
        refine wpAny_ready (rs := [15]) (by kernel_rfl) (by simp) ?_
        refine AllReady.cons rfl (fun K hK => ?_) AllReady.nil
        go_simp
        refine hK _ _ ?_
        clear hK K
        obtain ⟨Y3, hD⟩ : ∃ W, W = Y2.alloc (.cells #[.int .u64 x, .string more] 41) := ⟨_, rfl⟩
        rw [← hD]
        have hbD : Below Y2.heap.size Y2 Y3 := by rw [hD]; exact (Below.refl _ Y2).alloc (Nat.le_refl _) _
        have Hbox := Lib.hid (show Y3.heap[Y2.heap.size]? = some (.cells #[.int .u64 x, .string more] 41 (0, 0)) from by rw [hD]; exact blk_new Y2 _)
        have HszY3 := Lib.hid (show Y3.heap.size = Y2.heap.size + 1 from by rw [hD]; exact sz_alloc _ _)
        replace Hrow10 := Lib.hid (row_under Hrow10.out hbD)
        replace HbS := Lib.hid (HbS.out.trans (hbD.mono HbS.out.size))
        clear hbD hD
        clear d0 d1 d2 d3 d4 d5 d6 d7 hld
        obtain ⟨d0, d1, d2, d3, d4, d5, d6, d7⟩ := box8 (HV.out.under HbS.out)
        have hld := (HV.out.under HbS.out).lt
        refine wpAny_ready (rs := [16]) (by kernel_rfl) (by simp) ?_
        refine AllReady.cons rfl (fun K hK => ?_) AllReady.nil
        obtain ⟨v16, Y4, hrun, hrow16, hg16⟩ := app_more Y3 Y.heap.size Y2.heap.size v10 rs3 xr HN.out HbS.out.size Hrow10.out (by omega) (by rw [Hxs.out, Hxd.out]; exact Hbox.out)
        rw [if_pos (by kernel_rfl)]
        refine op_app (.tmp 137) (.tmp 142) v10 (.slice (some ⟨Y2.heap.size, 0, none⟩) 1 1) (by kernel_rfl) (by kernel_rfl) rfl hrun ?_
        refine hK _ _ ?_
        clear hK K
        have hbD : Below Y.heap.size Y3 Y4 := (Below.refl _ Y3).grown hg16 HbS.out.size (fun k e => (World.ownsRow.lt Hrow10.out k e).1)
        obtain ⟨ad16, cap16, hv16, hat16, _⟩ := hrow16.form
        rw [HL1.out] at hv16
        subst hv16
        have Hat16 := Lib.hid hat16
        replace HbS := Lib.hid (HbS.out.trans hbD)
        clear hbD hrun hrow16 hg16 hat16
        clear d0 d1 d2 d3 d4 d5 d6 d7 hld
        obtain ⟨d0, d1, d2, d3, d4, d5, d6, d7⟩ := box8 (HV.out.under HbS.out)
        have hld := (HV.out.under HbS.out).lt
        refine wpAny_ready (rs := [17]) (by kernel_rfl) (by simp) ?_
        refine AllReady.cons rfl (fun K hK => ?_) AllReady.nil
        have hat := Hat7.out.under HbS.out
        have hsame := rsame_yes Y4 ad7 ad16 cap7 cap16 (rs3 ++ [xr]) hat Hat16.out (by rw [HL1.out]; omega)
        rw [HL1.out] at hsame
        have Hsame := Lib.hid hsame
        clear hsame hat
        go_simp
        go_at_call 13
        refine (Hsame.out).mono ?_
        rintro e w9 ⟨rfl, hb9⟩
        have HBe := Lib.hid ((HB.out.trans (HbS.out.mono HB.out.size)).trans (hb9.mono (by have h1 := HB.out.size; have h2 := HbS.out.size; omega)))
        clear hb9 Hsame
        refine hK _ _ ?_
        clear hK K
        refine wpAny_take (i := 18) (v := ?v53) rfl (by kernel_rfl) (by kernel_rfl) (by kernel_rfl) (fun _ _ _ h => h) (Or.inl ⟨by kernel_rfl, ?h53⟩) ?r53
        case h53 => (intro w; go_simp; first | done | (with_reducible rfl))
        refine wpAny_ready (rs := [19]) (by kernel_rfl) (by simp) ?_
        refine AllReady.cons rfl (fun K hK => ?_) AllReady.nil
        go_simp
        refine hK _ _ ?_
        clear hK K
        refine wpAny_done (by kernel_rfl) ?_ _
        try go_simp
        clear d0 d1 d2 d3 d4 d5 d6 d7 hld
        go_wp2
        go_ret
        exact ⟨rfl, HBe.out⟩
      refine AllReady.cons rfl (fun K hK => ?_) AllReady.nil
      go_simp
      refine hK _ _ ?_
      clear hK K
      refine wpAny_take (i := 14) (v := ?v54) rfl (by kernel_rfl) (by kernel_rfl) (by kernel_rfl) (fun _ _ _ h => h) (Or.inl ⟨by kernel_rfl, ?h54⟩) ?r54
      case h54 => (intro w; go_simp; first | done | (with_reducible rfl))
      refine wpAny_ready (rs := [10, 15]) (by kernel_rfl) (by simp) ?_
      refine AllReady.cons rfl (fun K hK => ?_) ?_
      · skip
        have hat := Hat4.out.under HbS.out
        obtain ⟨v10, Y2, hrun, hrow10, hg10⟩ := app_recs Y1 Y.heap.size _ Hrow.out hat HN.out Hcap.out.2 (by omega) HbS.out.size
        rw [if_pos (by kernel_rfl)]
        refine op_app (.tmp 135) (.tmp 136) (.slice (some ⟨Y.heap.size, 0, none⟩) 0 0) (.slice ad5 N cap5) (by kernel_rfl) (by kernel_rfl) rfl hrun ?_
        refine hK _ _ ?_
        clear hK K
        have hge : Y.heap.size ≤ Y.heap.size := (World.ownsRow.lt Hrow.out _ rfl).1
        have hbD : Below Y.heap.size Y1 Y2 := (Below.refl _ Y1).grown hg10 HbS.out.size (fun k e => by simp [Value.ownBlock] at e; omega)
        have Hrow10 := Lib.hid hrow10
        replace HbS := Lib.hid (HbS.out.trans hbD)
        clear hbD hrun hrow10 hg10 hge hat Hrow
        clear d0 d1 d2 d3 d4 d5 d6 d7 hld
        obtain ⟨d0, d1, d2, d3, d4, d5, d6, d7⟩ := box8 (HV.out.under HbS.out)
        have hld := (HV.out.under HbS.out).lt
        refine wpAny_ready (rs := [15]) (by kernel_rfl) (by simp) ?_
        refine AllReady.cons rfl (fun K hK => ?_) AllReady.nil
        go_simp
        refine hK _ _ ?_
        clear hK K
        obtain ⟨Y3, hD⟩ : ∃ W, W = Y2.alloc (.cells #[.int .u64 x, .string more] 41) := ⟨_, rfl⟩
        rw [← hD]
        have hbD : Below Y2.heap.size Y2 Y3 := by rw [hD]; exact (Below.refl _ Y2).alloc (Nat.le_refl _) _
        have Hbox := Lib.hid (show Y3.heap[Y2.heap.size]? = some (.cells #[.int .u64 x, .string more] 41 (0, 0)) from by rw [hD]; exact blk_new Y2 _)
        have HszY3 := Lib.hid (show Y3.heap.size = Y2.heap.size + 1 from by rw [hD]; exact sz_alloc _ _)
        replace Hrow10 := Lib.hid (row_under Hrow10.out hbD)
        replace HbS := Lib.hid (HbS.out.trans (hbD.mono HbS.out.size))
        clear hbD hD
        clear d0 d1 d2 d3 d4 d5 d6 d7 hld
        obtain ⟨d0, d1, d2, d3, d4, d5, d6, d7⟩ := box8 (HV.out.under HbS.out)
        have hld := (HV.out.under HbS.out).lt
        refine wpAny_ready (rs := [16]) (by kernel_rfl) (by simp) ?_
        refine AllReady.cons rfl (fun K hK => ?_) AllReady.nil
        obtain ⟨v16, Y4, hrun, hrow16, hg16⟩ := app_more Y3 Y.heap.size Y2.heap.size v10 rs3 xr HN.out HbS.out.size Hrow10.out (by omega) (by rw [Hxs.out, Hxd.out]; exact Hbox.out)
        rw [if_pos (by kernel_rfl)]
        refine op_app (.tmp 137) (.tmp 142) v10 (.slice (some ⟨Y2.heap.size, 0, none⟩) 1 1) (by kernel_rfl) (by kernel_rfl) rfl hrun ?_
        refine hK _ _ ?_
        clear hK K
        have hbD : Below Y.heap.size Y3 Y4 := (Below.refl _ Y3).grown hg16 HbS.out.size (fun k e => (World.ownsRow.lt Hrow10.out k e).1)
        obtain ⟨ad16, cap16, hv16, hat16, _⟩ := hrow16.form
        rw [HL1.out] at hv16
        subst hv16
        have Hat16 := Lib.hid hat16
        replace HbS := Lib.hid (HbS.out.trans hbD)
        clear hbD hrun hrow16 hg16 hat16
        clear d0 d1 d2 d3 d4 d5 d6 d7 hld
        obtain ⟨d0, d1, d2, d3, d4, d5, d6, d7⟩ := box8 (HV.out.under HbS.out)
        have hld := (HV.out.under HbS.out).lt
        refine wpAny_ready (rs := [17]) (by kernel_rfl) (by simp) ?_
        refine AllReady.cons rfl (fun K hK => ?_) AllReady.nil
        have hat := Hat7.out.under HbS.out
        have hsame := rsame_yes Y4 ad7 ad16 cap7 cap16 (rs3 ++ [xr]) hat Hat16.out (by rw [HL1.out]; omega)
        rw [HL1.out] at hsame
        have Hsame := Lib.hid hsame
        clear hsame hat
        go_simp
        go_at_call 13
        refine (Hsame.out).mono ?_
        rintro e w9 ⟨rfl, hb9⟩
        have HBe := Lib.hid ((HB.out.trans (HbS.out.mono HB.out.size)).trans (hb9.mono (by have h1 := HB.out.size; have h2 := HbS.out.size; omega)))
        clear hb9 Hsame
        refine hK _ _ ?_
        clear hK K
        refine wpAny_take (i := 18) (v := ?v55) rfl (by kernel_rfl) (by kernel_rfl) (by kernel_rfl) (fun _ _ _ h => h) (Or.inl ⟨by kernel_rfl, ?h55⟩) ?r55
        case h55 => (intro w; go_simp; first | done | (with_reducible rfl))
        refine wpAny_ready (rs := [19]) (by kernel_rfl) (by simp) ?_
        refine AllReady.cons rfl (fun K hK => ?_) AllReady.nil
        go_simp
        refine hK _ _ ?_
        clear hK K
        refine wpAny_done (by kernel_rfl) ?_ _
        try go_simp
        clear d0 d1 d2 d3 d4 d5 d6 d7 hld
        go_wp2
        go_ret
        exact ⟨rfl, HBe.out⟩
      refine AllReady.cons rfl (fun K hK => ?_) AllReady.nil
      go_simp
      refine hK _ _ ?_
      clear hK K
      obtain ⟨Y2, hD⟩ : ∃ W, W = Y1.alloc (.cells #[.int .u64 x, .string more] 41) := ⟨_, rfl⟩
      rw [← hD]
      have hbD : Below Y1.heap.size Y1 Y2 := by rw [hD]; exact (Below.refl _ Y1).alloc (Nat.le_refl _) _
      have Hbox := Lib.hid (show Y2.heap[Y1.heap.size]? = some (.cells #[.int .u64 x, .string more] 41 (0, 0)) from by rw [hD]; exact blk_new Y1 _)
      have HszY2 := Lib.hid (show Y2.heap.size = Y1.heap.size + 1 from by rw [hD]; exact sz_alloc _ _)
      replace Hrow := Lib.hid (row_under Hrow.out hbD)
      replace HbS := Lib.hid (HbS.out.trans (hbD.mono HbS.out.size))
      clear hbD hD
      clear d0 d1 d2 d3 d4 d5 d6 d7 hld
      obtain ⟨d0, d1, d2, d3, d4, d5, d6, d7⟩ := box8 (HV.out.under HbS.out)
      have hld := (HV.out.under HbS.out).lt
      refine wpAny_ready (rs := [10]) (by kernel_rfl) (by simp) ?_
      refine AllReady.cons rfl (fun K hK => ?_) AllReady.nil
      have hat := Hat4.out.under HbS.out
      obtain ⟨v10, Y3, hrun, hrow10, hg10⟩ := app_recs Y2 Y.heap.size _ Hrow.out hat HN.out Hcap.out.2 (by omega) HbS.out.size
      rw [if_pos (by kernel_rfl)]
      refine op_app (.tmp 135) (.tmp 136) (.slice (some ⟨Y.heap.size, 0, none⟩) 0 0) (.slice ad5 N cap5) (by kernel_rfl) (by kernel_rfl) rfl hrun ?_
      refine hK _ _ ?_
      clear hK K
      have hge : Y.heap.size ≤ Y.heap.size := (World.ownsRow.lt Hrow.out _ rfl).1
      have hbD : Below Y.heap.size Y2 Y3 := (Below.refl _ Y2).grown hg10 HbS.out.size (fun k e => by simp [Value.ownBlock] at e; omega)
      have Hrow10 := Lib.hid hrow10
      have hne : Y.heap.size ≠ Y1.heap.size := by have h1 := HszY1.out; have h2 := HszY2.out; omega
      replace Hbox := Lib.hid ((hg10.block _ (Array.getElem?_eq_some_iff.1 Hbox.out).1 (fun e => by simp [Value.ownBlock] at e; exact hne e.symm)).trans Hbox.out)
      clear hne
      replace HbS := Lib.hid (HbS.out.trans hbD)
      clear hbD hrun hrow10 hg10 hge hat Hrow
      clear d0 d1 d2 d3 d4 d5 d6 d7 hld
      obtain ⟨d0, d1, d2, d3, d4, d5, d6, d7⟩ := box8 (HV.out.under HbS.out)
      have hld := (HV.out.under HbS.out).lt
      refine wpAny_ready (rs := [16]) (by kernel_rfl) (by simp) ?_
      refine AllReady.cons rfl (fun K hK => ?_) AllReady.nil
      obtain ⟨v16, Y4, hrun, hrow16, hg16⟩ := app_more Y3 Y.heap.size Y1.heap.size v10 rs3 xr HN.out HbS.out.size Hrow10.out (by omega) (by rw [Hxs.out, Hxd.out]; exact Hbox.out)
      rw [if_pos (by kernel_rfl)]
      refine op_app (.tmp 137) (.tmp 142) v10 (.slice (some ⟨Y1.heap.size, 0, none⟩) 1 1) (by kernel_rfl) (by kernel_rfl) rfl hrun ?_
      refine hK _ _ ?_
      clear hK K
      have hbD : Below Y.heap.size Y3 Y4 := (Below.refl _ Y3).grown hg16 HbS.out.size (fun k e => (World.ownsRow.lt Hrow10.out k e).1)
      obtain ⟨ad16, cap16, hv16, hat16, _⟩ := hrow16.form
      rw [HL1.out] at hv16
      subst hv16
      have Hat16 := Lib.hid hat16
      replace HbS := Lib.hid (HbS.out.trans hbD)
      clear hbD hrun hrow16 hg16 hat16
      clear d0 d1 d2 d3 d4 d5 d6 d7 hld
      obtain ⟨d0, d1, d2, d3, d4, d5, d6, d7⟩ := box8 (HV.out.under HbS.out)
      have hld := (HV.out.under HbS.out).lt
      refine wpAny_ready (rs := [17]) (by kernel_rfl) (by simp) ?_
      refine AllReady.cons rfl (fun K hK => ?_) AllReady.nil
      have hat := Hat7.out.under HbS.out
      have hsame := rsame_yes Y4 ad7 ad16 cap7 cap16 (rs3 ++ [xr]) hat Hat16.out (by rw [HL1.out]; omega)
      rw [HL1.out] at hsame
      have Hsame := Lib.hid hsame
      clear hsame hat
      go_simp
      go_at_call 13
      refine (Hsame.out).mono ?_
      rintro e w9 ⟨rfl, hb9⟩
      have HBe := Lib.hid ((HB.out.trans (HbS.out.mono HB.out.size)).trans (hb9.mono (by have h1 := HB.out.size; have h2 := HbS.out.size; omega)))
      clear hb9 Hsame
      refine hK _ _ ?_
      clear hK K
      refine wpAny_take (i := 18) (v := ?v56) rfl (by kernel_rfl) (by kernel_rfl) (by kernel_rfl) (fun _ _ _ h => h) (Or.inl ⟨by kernel_rfl, ?h56⟩) ?r56
      case h56 => (intro w; go_simp; first | done | (with_reducible rfl))
      refine wpAny_ready (rs := [19]) (by kernel_rfl) (by simp) ?_
      refine AllReady.cons rfl (fun K hK => ?_) AllReady.nil
      go_simp
      refine hK _ _ ?_
      clear hK K
      refine wpAny_done (by kernel_rfl) ?_ _
      try go_simp
      clear d0 d1 d2 d3 d4 d5 d6 d7 hld
      go_wp2
      go_ret
      exact ⟨rfl, HBe.out⟩
    refine AllReady.cons rfl (fun K hK => ?_) AllReady.nil
    go_simp
    refine hK _ _ ?_
    clear hK K
    refine wpAny_take (i := 14) (v := ?v57) rfl (by kernel_rfl) (by kernel_rfl) (by kernel_rfl) (fun _ _ _ h => h) (Or.inl ⟨by kernel_rfl, ?h57⟩) ?r57
    case h57 => (intro w; go_simp; first | done | (with_reducible rfl))
    refine wpAny_ready (rs := [8, 15]) (by kernel_rfl) (by simp) ?_
    refine AllReady.cons rfl (fun K hK => ?_) ?_
    · skip
      go_simp
      refine hK _ _ ?_
      clear hK K
      obtain ⟨Y1, hD⟩ : ∃ W, W = Y.alloc (.cells #[] 41) := ⟨_, rfl⟩
      rw [← hD]
      have hbD : Below Y.heap.size Y Y1 := by rw [hD]; exact (Below.refl _ Y).alloc (Nat.le_refl _) _
      have Hrow := Lib.hid (show Y1.ownsRow Y.heap.size 41 2 (.slice (some ⟨Y.heap.size, 0, none⟩) 0 0) 0 [] from by rw [hD]; exact row_empty Y _ HbS.out.size)
      have HszY1 := Lib.hid (show Y1.heap.size = Y.heap.size + 1 from by rw [hD]; exact sz_alloc _ _)
      replace HbS := Lib.hid (HbS.out.trans (hbD.mono HbS.out.size))
      clear hbD hD
      clear d0 d1 d2 d3 d4 d5 d6 d7 hld
      obtain ⟨d0, d1, d2, d3, d4, d5, d6, d7⟩ := box8 (HV.out.under HbS.out)
      have hld := (HV.out.under HbS.out).lt
      refine wpAny_ready (rs := [10, 15]) (by kernel_rfl) (by simp) ?_
      refine AllReady.cons rfl (fun K hK => ?_) ?_
      · skip
        have hat := Hat4.out.under HbS.out
        obtain ⟨v10, Y2, hrun, hrow10, hg10⟩ := app_recs Y1 Y.heap.size _ Hrow.out hat HN.out Hcap.out.2 (by omega) HbS.out.size
        rw [if_pos (by kernel_rfl)]
        refine op_app (.tmp 135) (.tmp 136) (.slice (some ⟨Y.heap.size, 0, none⟩) 0 0) (.slice ad5 N cap5) (by kernel_rfl) (by kernel_rfl) rfl hrun ?_
        refine hK _ _ ?_
        clear hK K
        have hge : Y.heap.size ≤ Y.heap.size := (World.ownsRow.lt Hrow.out _ rfl).1
        have hbD : Below Y.heap.size Y1 Y2 := (Below.refl _ Y1).grown hg10 HbS.out.size (fun k e => by simp [Value.ownBlock] at e; omega)
        have Hrow10 := Lib.hid hrow10
        replace HbS := Lib.hid (HbS.out.trans hbD)
        clear hbD hrun hrow10 hg10 hge hat Hrow
        clear d0 d1 d2 d3 d4 d5 d6 d7 hld
        obtain ⟨d0, d1, d2, d3, d4, d5, d6, d7⟩ := box8 (HV.out.under HbS.out)
        have hld := (HV.out.under HbS.out).lt
        refine wpAny_ready (rs := [15]) (by kernel_rfl) (by simp) ?_
        refine AllReady.cons rfl (fun K hK => ?_) AllReady.nil
        go_simp
        refine hK _ _ ?_
        clear hK K
        obtain ⟨Y3, hD⟩ : ∃ W, W = Y2.alloc (.cells #[.int .u64 x, .string more] 41) := ⟨_, rfl⟩
        rw [← hD]
        have hbD : Below Y2.heap.size Y2 Y3 := by rw [hD]; exact (Below.refl _ Y2).alloc (Nat.le_refl _) _
        have Hbox := Lib.hid (show Y3.heap[Y2.heap.size]? = some (.cells #[.int .u64 x, .string more] 41 (0, 0)) from by rw [hD]; exact blk_new Y2 _)
        have HszY3 := Lib.hid (show Y3.heap.size = Y2.heap.size + 1 from by rw [hD]; exact sz_alloc _ _)
        replace Hrow10 := Lib.hid (row_under Hrow10.out hbD)
        replace HbS := Lib.hid (HbS.out.trans (hbD.mono HbS.out.size))
        clear hbD hD
        clear d0 d1 d2 d3 d4 d5 d6 d7 hld
        obtain ⟨d0, d1, d2, d3, d4, d5, d6, d7⟩ := box8 (HV.out.under HbS.out)
        have hld := (HV.out.under HbS.out).lt
        refine wpAny_ready (rs := [16]) (by kernel_rfl) (by simp) ?_
        refine AllReady.cons rfl (fun K hK => ?_) AllReady.nil
        obtain ⟨v16, Y4, hrun, hrow16, hg16⟩ := app_more Y3 Y.heap.size Y2.heap.size v10 rs3 xr HN.out HbS.out.size Hrow10.out (by omega) (by rw [Hxs.out, Hxd.out]; exact Hbox.out)
        rw [if_pos (by kernel_rfl)]
        refine op_app (.tmp 137) (.tmp 142) v10 (.slice (some ⟨Y2.heap.size, 0, none⟩) 1 1) (by kernel_rfl) (by kernel_rfl) rfl hrun ?_
        refine hK _ _ ?_
        clear hK K
        have hbD : Below Y.heap.size Y3 Y4 := (Below.refl _ Y3).grown hg16 HbS.out.size (fun k e => (World.ownsRow.lt Hrow10.out k e).1)
        obtain ⟨ad16, cap16, hv16, hat16, _⟩ := hrow16.form
        rw [HL1.out] at hv16
        subst hv16
        have Hat16 := Lib.hid hat16
        replace HbS := Lib.hid (HbS.out.trans hbD)
        clear hbD hrun hrow16 hg16 hat16
        clear d0 d1 d2 d3 d4 d5 d6 d7 hld
        obtain ⟨d0, d1, d2, d3, d4, d5, d6, d7⟩ := box8 (HV.out.under HbS.out)
        have hld := (HV.out.under HbS.out).lt
        refine wpAny_ready (rs := [17]) (by kernel_rfl) (by simp) ?_
        refine AllReady.cons rfl (fun K hK => ?_) AllReady.nil
        have hat := Hat7.out.under HbS.out
        have hsame := rsame_yes Y4 ad7 ad16 cap7 cap16 (rs3 ++ [xr]) hat Hat16.out (by rw [HL1.out]; omega)
        rw [HL1.out] at hsame
        have Hsame := Lib.hid hsame
        clear hsame hat
        go_simp
        go_at_call 13
        refine (Hsame.out).mono ?_
        rintro e w9 ⟨rfl, hb9⟩
        have HBe := Lib.hid ((HB.out.trans (HbS.out.mono HB.out.size)).trans (hb9.mono (by have h1 := HB.out.size; have h2 := HbS.out.size; omega)))
        clear hb9 Hsame
        refine hK _ _ ?_
        clear hK K
        refine wpAny_take (i := 18) (v := ?v58) rfl (by kernel_rfl) (by kernel_rfl) (by kernel_rfl) (fun _ _ _ h => h) (Or.inl ⟨by kernel_rfl, ?h58⟩) ?r58
        case h58 => (intro w; go_simp; first | done | (with_reducible rfl))
        refine wpAny_ready (rs := [19]) (by kernel_rfl) (by simp) ?_
        refine AllReady.cons rfl (fun K hK => ?_) AllReady.nil
        go_simp
        refine hK _ _ ?_
        clear hK K
        refine wpAny_done (by kernel_rfl) ?_ _
        try go_simp
        clear d0 d1 d2 d3 d4 d5 d6 d7 hld
        go_wp2
        go_ret
        exact ⟨rfl, HBe.out⟩
      refine AllReady.cons rfl (fun K hK => ?_) AllReady.nil
      go_simp
      refine hK _ _ ?_
      clear hK K
      obtain ⟨Y2, hD⟩ : ∃ W, W = Y1.alloc (.cells #[.int .u64 x, .string more] 41) := ⟨_, rfl⟩
      rw [← hD]
      have hbD : Below Y1.heap.size Y1 Y2 := by rw [hD]; exact (Below.refl _ Y1).alloc (Nat.le_refl _) _
      have Hbox := Lib.hid (show Y2.heap[Y1.heap.size]? = some (.cells #[.int .u64 x, .string more] 41 (0, 0)) from by rw [hD]; exact blk_new Y1 _)
      have HszY2 := Lib.hid (show Y2.heap.size = Y1.heap.size + 1 from by rw [hD]; exact sz_alloc _ _)
      replace Hrow := Lib.hid (row_under Hrow.out hbD)
      replace HbS := Lib.hid (HbS.out.trans (hbD.mono HbS.out.size))
      clear hbD hD
      clear d0 d1 d2 d3 d4 d5 d6 d7 hld
      obtain ⟨d0, d1, d2, d3, d4, d5, d6, d7⟩ := box8 (HV.out.under HbS.out)
      have hld := (HV.out.under HbS.out).lt
      refine wpAny_ready (rs := [10]) (by kernel_rfl) (by simp) ?_
      refine AllReady.cons rfl (fun K hK => ?_) AllReady.nil
      have hat := Hat4.out.under HbS.out
      obtain ⟨v10, Y3, hrun, hrow10, hg10⟩ := app_recs Y2 Y.heap.size _ Hrow.out hat HN.out Hcap.out.2 (by omega) HbS.out.size
      rw [if_pos (by kernel_rfl)]
      refine op_app (.tmp 135) (.tmp 136) (.slice (some ⟨Y.heap.size, 0, none⟩) 0 0) (.slice ad5 N cap5) (by kernel_rfl) (by kernel_rfl) rfl hrun ?_
      refine hK _ _ ?_
      clear hK K
      have hge : Y.heap.size ≤ Y.heap.size := (World.ownsRow.lt Hrow.out _ rfl).1
      have hbD : Below Y.heap.size Y2 Y3 := (Below.refl _ Y2).grown hg10 HbS.out.size (fun k e => by simp [Value.ownBlock] at e; omega)
      have Hrow10 := Lib.hid hrow10
      have hne : Y.heap.size ≠ Y1.heap.size := by have h1 := HszY1.out; have h2 := HszY2.out; omega
      replace Hbox := Lib.hid ((hg10.block _ (Array.getElem?_eq_some_iff.1 Hbox.out).1 (fun e => by simp [Value.ownBlock] at e; exact hne e.symm)).trans Hbox.out)
      clear hne
      replace HbS := Lib.hid (HbS.out.trans hbD)
      clear hbD hrun hrow10 hg10 hge hat Hrow
      clear d0 d1 d2 d3 d4 d5 d6 d7 hld
      obtain ⟨d0, d1, d2, d3, d4, d5, d6, d7⟩ := box8 (HV.out.under HbS.out)
      have hld := (HV.out.under HbS.out).lt
      refine wpAny_ready (rs := [16]) (by kernel_rfl) (by simp) ?_
      refine AllReady.cons rfl (fun K hK => ?_) AllReady.nil
      obtain ⟨v16, Y4, hrun, hrow16, hg16⟩ := app_more Y3 Y.heap.size Y1.heap.size v10 rs3 xr HN.out HbS.out.size Hrow10.out (by omega) (by rw [Hxs.out, Hxd.out]; exact Hbox.out)
      rw [if_pos (by kernel_rfl)]
      refine op_app (.tmp 137) (.tmp 142) v10 (.slice (some ⟨Y1.heap.size, 0, none⟩) 1 1) (by kernel_rfl) (by kernel_rfl) rfl hrun ?_
      refine hK _ _ ?_
      clear hK K
      have hbD : Below Y.heap.size Y3 Y4 := (Below.refl _ Y3).grown hg16 HbS.out.size (fun k e => (World.ownsRow.lt Hrow10.out k e).1)
      obtain ⟨ad16, cap16, hv16, hat16, _⟩ := hrow16.form
      rw [HL1.out] at hv16
      subst hv16
      have Hat16 := Lib.hid hat16
      replace HbS := Lib.hid (HbS.out.trans hbD)
      clear hbD hrun hrow16 hg16 hat16
      clear d0 d1 d2 d3 d4 d5 d6 d7 hld
      obtain ⟨d0, d1, d2, d3, d4, d5, d6, d7⟩ := box8 (HV.out.under HbS.out)
      have hld := (HV.out.under HbS.out).lt
      refine wpAny_ready (rs := [17]) (by kernel_rfl) (by simp) ?_
      refine AllReady.cons rfl (fun K hK => ?_) AllReady.nil
      have hat := Hat7.out.under HbS.out
      have hsame := rsame_yes Y4 ad7 ad16 cap7 cap16 (rs3 ++ [xr]) hat Hat16.out (by rw [HL1.out]; omega)
      rw [HL1.out] at hsame
      have Hsame := Lib.hid hsame
      clear hsame hat
      go_simp
      go_at_call 13
      refine (Hsame.out).mono ?_
      rintro e w9 ⟨rfl, hb9⟩
      have HBe := Lib.hid ((HB.out.trans (HbS.out.mono HB.out.size)).trans (hb9.mono (by have h1 := HB.out.size; have h2 := HbS.out.size; omega)))
      clear hb9 Hsame
      refine hK _ _ ?_
      clear hK K
      refine wpAny_take (i := 18) (v := ?v59) rfl (by kernel_rfl) (by kernel_rfl) (by kernel_rfl) (fun _ _ _ h => h) (Or.inl ⟨by kernel_rfl, ?h59⟩) ?r59
      case h59 => (intro w; go_simp; first | done | (with_reducible rfl))
      refine wpAny_ready (rs := [19]) (by kernel_rfl) (by simp) ?_
      refine AllReady.cons rfl (fun K hK => ?_) AllReady.nil
      go_simp
      refine hK _ _ ?_
      clear hK K
      refine wpAny_done (by kernel_rfl) ?_ _
      try go_simp
      clear d0 d1 d2 d3 d4 d5 d6 d7 hld
      go_wp2
      go_ret
      exact ⟨rfl, HBe.out⟩
    refine AllReady.cons rfl (fun K hK => ?_) AllReady.nil
    go_simp
    refine hK _ _ ?_
    clear hK K
    obtain ⟨Y1, hD⟩ : ∃ W, W = Y.alloc (.cells #[.int .u64 x, .string more] 41) := ⟨_, rfl⟩
    rw [← hD]
    have hbD : Below Y.heap.size Y Y1 := by rw [hD]; exact (Below.refl _ Y).alloc (Nat.le_refl _) _
    have Hbox := Lib.hid (show Y1.heap[Y.heap.size]? = some (.cells #[.int .u64 x, .string more] 41 (0, 0)) from by rw [hD]; exact blk_new Y _)
    have HszY1 := Lib.hid (show Y1.heap.size = Y.heap.size + 1 from by rw [hD]; exact sz_alloc _ _)
    replace HbS := Lib.hid (HbS.out.trans (hbD.mono HbS.out.size))
    clear hbD hD
    clear d0 d1 d2 d3 d4 d5 d6 d7 hld
    obtain ⟨d0, d1, d2, d3, d4, d5, d6, d7⟩ := box8 (HV.out.under HbS.out)
    have hld := (HV.out.under HbS.out).lt
    refine wpAny_ready (rs := [8]) (by kernel_rfl) (by simp) ?_
    refine AllReady.cons rfl (fun K hK => ?_) AllReady.nil
    go_simp
    refine hK _ _ ?_
    clear hK K
    obtain ⟨Y2, hD⟩ : ∃ W, W = Y1.alloc (.cells #[] 41) := ⟨_, rfl⟩
    rw [← hD]
    have hbD : Below Y1.heap.size Y1 Y2 := by rw [hD]; exact (Below.refl _ Y1).alloc (Nat.le_refl _) _
    have Hrow := Lib.hid (show Y2.ownsRow Y.heap.size 41 2 (.slice (some ⟨Y1.heap.size, 0, none⟩) 0 0) 0 [] from by rw [hD]; exact row_empty Y1 _ HbS.out.size)
    have HszY2 := Lib.hid (show Y2.heap.size = Y1.heap.size + 1 from by rw [hD]; exact sz_alloc _ _)
    replace Hbox := Lib.hid ((hbD.block _ (Array.getElem?_eq_some_iff.1 Hbox.out).1).trans Hbox.out)
    replace HbS := Lib.hid (HbS.out.trans (hbD.mono HbS.out.size))
    clear hbD hD
    clear d0 d1 d2 d3 d4 d5 d6 d7 hld
    obtain ⟨d0, d1, d2, d3, d4, d5, d6, d7⟩ := box8 (HV.out.under HbS.out)
    have hld := (HV.out.under HbS.out).lt
    refine wpAny_ready (rs := [10]) (by kernel_rfl) (by simp) ?_
    refine AllReady.cons rfl (fun K hK => ?_) AllReady.nil
    have hat := Hat4.out.under HbS.out
    obtain ⟨v10, Y3, hrun, hrow10, hg10⟩ := app_recs Y2 Y.heap.size _ Hrow.out hat HN.out Hcap.out.2 (by omega) HbS.out.size
    rw [if_pos (by kernel_rfl)]
    refine op_app (.tmp 135) (.tmp 136) (.slice (some ⟨Y1.heap.size, 0, none⟩) 0 0) (.slice ad5 N cap5) (by kernel_rfl) (by kernel_rfl) rfl hrun ?_
    refine hK _ _ ?_
    clear hK K
    have hge : Y.heap.size ≤ Y1.heap.size := (World.ownsRow.lt Hrow.out _ rfl).1
    have hbD : Below Y.heap.size Y2 Y3 := (Below.refl _ Y2).grown hg10 HbS.out.size (fun k e => by simp [Value.ownBlock] at e; omega)
    have Hrow10 := Lib.hid hrow10
    have hne : Y1.heap.size ≠ Y.heap.size := by have h1 := HszY2.out; have h2 := HszY1.out; omega
    replace Hbox := Lib.hid ((hg10.block _ (Array.getElem?_eq_some_iff.1 Hbox.out).1 (fun e => by simp [Value.ownBlock] at e; exact hne e.symm)).trans Hbox.out)
    clear hne
    replace HbS := Lib.hid (HbS.out.trans hbD)
    clear hbD hrun hrow10 hg10 hge hat Hrow
    clear d0 d1 d2 d3 d4 d5 d6 d7 hld
    obtain ⟨d0, d1, d2, d3, d4, d5, d6, d7⟩ := box8 (HV.out.under HbS.out)
    have hld := (HV.out.under HbS.out).lt
    refine wpAny_ready (rs := [16]) (by kernel_rfl) (by simp) ?_
    refine AllReady.cons rfl (fun K hK => ?_) AllReady.nil
    obtain ⟨v16, Y4, hrun, hrow16, hg16⟩ := app_more Y3 Y.heap.size Y.heap.size v10 rs3 xr HN.out HbS.out.size Hrow10.out (by omega) (by rw [Hxs.out, Hxd.out]; exact Hbox.out)
    rw [if_pos (by kernel_rfl)]
    refine op_app (.tmp 137) (.tmp 142) v10 (.slice (some ⟨Y.heap.size, 0, none⟩) 1 1) (by kernel_rfl) (by kernel_rfl) rfl hrun ?_
    refine hK _ _ ?_
    clear hK K
    have hbD : Below Y.heap.size Y3 Y4 := (Below.refl _ Y3).grown hg16 HbS.out.size (fun k e => (World.ownsRow.lt Hrow10.out k e).1)
    obtain ⟨ad16, cap16, hv16, hat16, _⟩ := hrow16.form
    rw [HL1.out] at hv16
    subst hv16
    have Hat16 := Lib.hid hat16
    replace HbS := Lib.hid (HbS.out.trans hbD)
    clear hbD hrun hrow16 hg16 hat16
    clear d0 d1 d2 d3 d4 d5 d6 d7 hld
    obtain ⟨d0, d1, d2, d3, d4, d5, d6, d7⟩ := box8 (HV.out.under HbS.out)
    have hld := (HV.out.under HbS.out).lt
    refine wpAny_ready (rs := [17]) (by kernel_rfl) (by simp) ?_
    refine AllReady.cons rfl (fun K hK => ?_) AllReady.nil
    have hat := Hat7.out.under HbS.out
    have hsame := rsame_yes Y4 ad7 ad16 cap7 cap16 (rs3 ++ [xr]) hat Hat16.out (by rw [HL1.out]; omega)
    rw [HL1.out] at hsame
    have Hsame := Lib.hid hsame
    clear hsame hat
    go_simp
    go_at_call 13
    refine (Hsame.out).mono ?_
    rintro e w9 ⟨rfl, hb9⟩
    have HBe := Lib.hid ((HB.out.trans (HbS.out.mono HB.out.size)).trans (hb9.mono (by have h1 := HB.out.size; have h2 := HbS.out.size; omega)))
    clear hb9 Hsame
    refine hK _ _ ?_
    clear hK K
    refine wpAny_take (i := 18) (v := ?v60) rfl (by kernel_rfl) (by kernel_rfl) (by kernel_rfl) (fun _ _ _ h => h) (Or.inl ⟨by kernel_rfl, ?h60⟩) ?r60
    case h60 => (intro w; go_simp; first | done | (with_reducible rfl))
    refine wpAny_ready (rs := [19]) (by kernel_rfl) (by simp) ?_
    refine AllReady.cons rfl (fun K hK => ?_) AllReady.nil
    go_simp
    refine hK _ _ ?_
    clear hK K
    refine wpAny_done (by kernel_rfl) ?_ _
    try go_simp
    clear d0 d1 d2 d3 d4 d5 d6 d7 hld
    go_wp2
    go_ret
    exact ⟨rfl, HBe.out⟩
end Go.Proofs.YtcefhcailhediaaDoor
