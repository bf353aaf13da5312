/- SEGMENT: THE WALK OVER SegmentKeeps. -/
import Derived.Test.YtcefhcailhediaaDoorGaq
namespace Go.Proofs.YtcefhcailhediaaDoor
open Go.RowKit
set_option maxRecDepth 100000
set_option linter.unusedVariables false
set_option linter.unusedSimpArgs false
theorem crash_is (w : World) (ad : Option Addr) (n cap : Nat) (down : Bool) (fuse fault : Int) (fs : List F) (h : DIn w ad n cap fuse fault fs) (hR : Right fs) (adk : Option Addr) (nk capk : Nat) (ks : List Int) (hk : Ints w w.heap.size adk ks) (hnk : nk = ks.length) (hnk63 : nk ≤ 9223372036854775807) :
    Calls Tryd.prog 11 #[.agg (dcells (.slice ad n cap) down fuse fault), .slice adk nk capk] w fun e w' => ∃ ad2 n2 cap2, e = .returned (.tuple #[.agg (dcells (.slice ad2 n2 cap2) false (-1) (-1)), .int .i64 0]) ∧ DIn w' ad2 n2 cap2 (-1) (-1) (crashL ks fs) ∧ Below w.heap.size w w' := by
  have h1 := Crash_any w ad n cap down fuse fault fs h adk nk capk ks hk hnk hnk63
  rw [crv_right (d := ⟨fs, down, fuse, fault⟩) hR] at h1
  exact h1.mono fun e w' ⟨ad2, n2, cap2, he, hi, hb, _⟩ => ⟨ad2, n2, cap2, he, ⟨hi, fun f hf => okF_fit ((right_crash hR ks).ok f hf), by omega, by omega, by omega, by omega⟩, hb⟩
theorem RAt.pre {w : World} {B : Nat} {ad : Option Addr} {rs a : List Rec} (h : RAt w B ad rs) (hp : ∃ b, rs = a ++ b) : RAt w B ad a := fun hne => by
  obtain ⟨b, rfl⟩ := hp
  obtain ⟨g, off, e, hg, hc⟩ := h (by simp [hne])
  exact ⟨g, off, e, hg, fun i r hi => hc i r (by rw [List.getElem?_append_left (List.getElem?_eq_some_iff.1 hi).1]; exact hi)⟩
theorem kk_seq {fs : List F} {rs : List Rec} (h : KK fs 1 rs) {i : Nat} {r : Rec} (hi : rs[i]? = some r) : (r.seq : Int) = (i : Int) + 1 := by
  have := rdM_seq (filesM fs) 1 i r (by rw [h.rd]; exact hi)
  omega

set_option maxHeartbeats 4000000 in
theorem keeps_any (w : World) (size : Int) (ads : Option Addr) (ns caps : Nat) (ss : List ByteArray) (last : ByteArray) (fuse fault : Int) (adk : Option Addr) (nk capk : Nat) (ks : List Int) (hT : Tabs w) (hw : 3 < w.heap.size)
    (hsz : Num size) (hfu : Num fuse) (hfa : Num fault) (hlast : last.size ≤ 9223372036854775807) (hns : ns = ss.length) (hnb : ns ≤ 9223372036854775807) (hS : Strs w w.heap.size ads ss) (hSb : ∀ s ∈ ss, s.size ≤ 9223372036854775807)
    (hk : Ints w w.heap.size adk ks) (hnk : nk = ks.length) (hnk63 : nk ≤ 9223372036854775807) :
    Calls Tryd.prog 3 #[.int .i64 size, .slice ads ns caps, .string last, .int .i64 fuse, .int .i64 fault, .slice adk nk capk] w fun e w' => e = .returned (.bool true) ∧ Below w.heap.size w w' := by
  have HT := Lib.hid hT
  have HS := Lib.hid hS
  have HSb := Lib.hid hSb
  have Hns := Lib.hid hns
  have Hnk := Lib.hid hnk
  have HK := Lib.hid hk
  have Hsz := Lib.hid hsz
  have Hfu := Lib.hid hfu
  have Hfa := Lib.hid hfa
  obtain ⟨s0, s1⟩ := hsz
  clear hT hS hSb hns hfu hfa hk hnk
  go_enter Tryd.func3, Tryd.ntmps3
  go_wp2_with fail
  refine (slives_any w HT.out hw).mono ?_
  rintro e w1 ⟨rfl, hb1⟩
  have HT1 := Lib.hid (HT.out.under hb1)
  have Hb1 := Lib.hid hb1
  have hw1 : 3 < w1.heap.size := by have := hb1.size; omega
  clear hb1 HT
  go_wp2_with fail
  refine (kept_any w1 size ads ns caps ss last fuse fault HT1.out hw1 Hsz.out Hfu.out Hfa.out hlast Hns.out hnb ?hs HSb.out).mono ?_
  case hs => exact fun hne => by obtain ⟨g, off, e, hg, hi⟩ := (HS.out.keep Hb1.out) hne; exact ⟨g, off, e, Nat.lt_of_lt_of_le hg Hb1.out.size, hi⟩
  rintro e w2 ⟨hb2, ⟨hno, ad2, n2, cap2, rfl⟩ | ⟨hs, fs, rs, want, ad2, n2, cap2, v, hkk, hwant, rfl, hd2, hrow⟩⟩
  · have Hb2 := Lib.hid (Hb1.out.trans (hb2.mono Hb1.out.size))
    have hfin : Below w.heap.size w (w2.alloc (.cells #[.slice ad2 n2 cap2, .bool false, .int .i64 0, .int .i64 0, .int .i64 0, .int .u64 0, .int .u64 0, .bool false] 30)) := Hb2.out.alloc Hb2.out.size _
    have Hfin := Lib.hid hfin
    clear hb2 hfin
    by_cases h1 : size < 1
    · clear hno
      go_wp2
      go_ret
      exact ⟨rfl, Hfin.out⟩
    · have h2 : 262144 < size := by omega
      clear hno
      go_wp2
      go_ret
      exact ⟨rfl, Hfin.out⟩
  have hA : App fs rs fuse fault size last (appM (kl fs rs fuse fault size) last) := app_kk hkk hs Hfu.out Hfa.out
  obtain ⟨⟨⟨⟨fs2, dn2, fu2, fa2⟩, sz2, fr2, nx2, br2⟩, cd2⟩, hr⟩ : ∃ r, appM (kl fs rs fuse fault size) last = r := ⟨_, rfl⟩
  rw [hr] at hwant hd2 hA ⊢
  obtain ⟨fs3, rs3, hkk3, hop, hcase⟩ := aft_open hA.aft ks hs
  have hpre : ∃ b, rs3 = want ++ b := by
    rcases hwant with ⟨h1, rfl⟩ | ⟨h1, h2, h3, rfl⟩
    · rcases hcase with ⟨_, rfl⟩ | ⟨h4, h5, rfl⟩
      · exact ⟨[], by simp⟩
      · exact ⟨_, rfl⟩
    · rcases hcase with ⟨h4, _⟩ | ⟨h4, h5, rfl⟩
      · exact absurd h1 h4
      · exact ⟨[], by simp⟩
  obtain ⟨adv, capv, rfl, hatv, _⟩ := hrow.form
  obtain ⟨N, hN⟩ : ∃ N, rs3.length = N := ⟨_, rfl⟩
  obtain ⟨M, hM⟩ : ∃ M, want.length = M := ⟨_, rfl⟩
  have hMN : M ≤ N := by obtain ⟨b, e⟩ := hpre; rw [← hN, ← hM, e, List.length_append]; omega
  have hNb : N ≤ 16777216 := by rw [← hN]; exact kk_bound hkk3
  have hop2 : openM ⟨crashL ks fs2, false, -1, -1⟩ size = (⟨⟨fs3, false, -1, -1⟩, size, 1, (N : Int) + 1, false⟩, rs3, 0) := by
    rw [hop]
    simp only [kl, Prod.mk.injEq, L.mk.injEq, true_and, and_true]
    rw [← hN]; omega
  rw [hM]
  have Hop := Lib.hid hop2
  have Hkk3 := Lib.hid hkk3
  have Hpre := Lib.hid hpre
  have HM := Lib.hid hM
  have HN := Lib.hid hN
  have HR2 := Lib.hid (show Right fs2 from hA.R)
  have Hhs := Lib.hid hs
  have hs1 : ¬ size < 1 := by omega
  have hs2 : ¬ 262144 < size := by omega
  have HT2 := Lib.hid (HT1.out.under hb2)
  have Hd2 := Lib.hid hd2
  have Hatv := Lib.hid hatv
  have HK1 := Lib.hid (HK.out.keep Hb1.out)
  have Hb2 := Lib.hid (Hb1.out.trans (hb2.mono Hb1.out.size))
  clear hr hwant hd2 hA hkk3 hop hop2 hcase hpre hM hN hb2 hrow hatv hs hkk
  obtain ⟨W2, hW2⟩ : ∃ W, W = w2.alloc (.cells #[.slice ad2 n2 cap2, .bool dn2, .int .i64 fu2, .int .i64 fa2, .int .i64 sz2, .int .u64 fr2, .int .u64 nx2, .bool br2] 30) := ⟨_, rfl⟩
  have hbW : Below w2.heap.size w2 W2 := by rw [hW2]; exact (Below.refl _ w2).alloc (Nat.le_refl _) _
  have HQ2 := Lib.hid (show W2.heap[w2.heap.size]? = some (.cells #[.slice ad2 n2 cap2, .bool dn2, .int .i64 fu2, .int .i64 fa2, .int .i64 sz2, .int .u64 fr2, .int .u64 nx2, .bool br2] 30 (0, 0)) from by rw [hW2]; exact blk_new w2 _)
  have HTW := Lib.hid (HT2.out.under hbW)
  have HdW := Lib.hid (Hd2.out.under hbW)
  have HatW := Lib.hid (Hatv.out.under hbW)
  have HbW := Lib.hid (Hb2.out.trans (hbW.mono Hb2.out.size))
  clear hbW HT2 Hd2 Hatv Hb2
  go_upto_region 4 with (fail)
  rw [← hW2]
  clear hW2
  obtain ⟨c0, c1, c2, c3, c4, c5, c6, c7⟩ := box8 HQ2.out
  have hlc := (Array.getElem?_eq_some_iff.1 HQ2.out).1
  go_wp2_with fail
  refine (crash_is W2 ad2 n2 cap2 dn2 fu2 fa2 fs2 HdW.out HR2.out adk nk capk ks ?hk Hnk.out hnk63).mono ?_
  case hk => exact ⟨HK.out.1, fun hne => by obtain ⟨g, off, e, hg, hi⟩ := (HK.out.keep HbW.out).2 hne; exact ⟨g, off, e, Nat.lt_of_lt_of_le hg HbW.out.size, hi⟩⟩
  rintro e w3 ⟨ad3, n3, cap3, rfl, hd3, hb3⟩
  obtain ⟨W3, hW3⟩ : ∃ W, W = w3.alloc (.cells #[.slice ad3 n3 cap3, .bool false, .int .i64 (-1), .int .i64 (-1)] 27) := ⟨_, rfl⟩
  have hbW3 : Below w3.heap.size w3 W3 := by rw [hW3]; exact (Below.refl _ w3).alloc (Nat.le_refl _) _
  have HQ3 := Lib.hid (show W3.heap[w3.heap.size]? = some (.cells #[.slice ad3 n3 cap3, .bool false, .int .i64 (-1), .int .i64 (-1)] 27 (0, 0)) from by rw [hW3]; exact blk_new w3 _)
  have HT3 := Lib.hid ((HTW.out.under hb3).under hbW3)
  have Hd3 := Lib.hid (hd3.under hbW3)
  have Hat3 := Lib.hid ((HatW.out.under hb3).under hbW3)
  have Hb3 := Lib.hid ((HbW.out.trans (hb3.mono HbW.out.size)).trans (hbW3.mono (by have h1 := HbW.out.size; have h2 := hb3.size; omega)))
  have hw3 : 3 < W3.heap.size := by have := Hb3.out.size; omega
  clear hd3 hb3 hbW3 HTW HdW HatW HbW c0 c1 c2 c3 c4 c5 c6 c7 hlc
  go_upto_region 7 with (fail)
  rw [← hW3]
  clear hW3
  obtain ⟨c0, c1, c2, c3⟩ := box4' HQ3.out
  have hlc := (Array.getElem?_eq_some_iff.1 HQ3.out).1
  go_wp2_with fail
  refine (open_is Hop.out W3 ad3 n3 cap3 Hd3.out HT3.out hw3).mono ?_
  rintro e w4 ⟨ad4, n4, cap4, ad5, cap5, rfl, hd4, hat4, hc4, hb4⟩
  rw [HN.out]
  replace hc4 : N ≤ cap5 := by have := hc4.1; rw [show (_ : L × List Rec × Int).2.1.length = N from HN.out] at this; exact this
  obtain ⟨W4, hW4⟩ : ∃ W, W = w4.alloc (.cells #[.slice ad4 n4 cap4, .bool false, .int .i64 (-1), .int .i64 (-1), .int .i64 size, .int .u64 1, .int .u64 ((N : Int) + 1), .bool false] 30) := ⟨_, rfl⟩
  have hbW4 : Below w4.heap.size w4 W4 := by rw [hW4]; exact (Below.refl _ w4).alloc (Nat.le_refl _) _
  have hI4 : LIn w4 ad4 n4 cap4 ⟨⟨fs3, false, -1, -1⟩, size, 1, (N : Int) + 1, false⟩ := ⟨hd4, s0, s1, by show (0 : Int) ≤ 1; decide, by show (1 : Int) ≤ 18446744073709551615; decide, by show (0 : Int) ≤ (N : Int) + 1; omega, by show (N : Int) + 1 ≤ 18446744073709551615; omega⟩
  have HV4 := Lib.hid (show LVar W4 w4.heap.size ad4 n4 cap4 ⟨⟨fs3, false, -1, -1⟩, size, 1, (N : Int) + 1, false⟩ from by rw [hW4]; exact LVar.alloc hI4)
  have Hat4 := Lib.hid (hat4.under hbW4)
  have Hatv4 := Lib.hid ((Hat3.out.under hb4).under hbW4)
  have Hb4 := Lib.hid ((Hb3.out.trans (hb4.mono Hb3.out.size)).trans (hbW4.mono (by have h1 := Hb3.out.size; have h2 := hb4.size; omega)))
  clear hd4 hat4 hb4 hbW4 hI4 HT3 Hd3 Hat3 Hb3 c0 c1 c2 c3 hlc HQ3 HQ2
  go_upto_region 8 with (fail)
  rw [← hW4]
  clear hW4
  have hMN2 : (M : Int) ≤ (N : Int) := by omega
  have hMc : M ≤ cap5 := by omega
  have hNM : ¬ N < M := by omega
  go_wp2_with fail
  have hsame := rsame_yes W4 ad5 adv cap5 capv want (Hat4.out.pre Hpre.out) Hatv4.out (by rw [HM.out]; omega)
  rw [HM.out] at hsame
  refine hsame.mono ?_
  clear hsame
  rintro e w5 ⟨rfl, hb5⟩
  have HV5 := Lib.hid (HV4.out.under hb5)
  have Hat5 := Lib.hid (Hat4.out.under hb5)
  have Hb5 := Lib.hid (Hb4.out.trans (hb5.mono Hb4.out.size))
  clear hb5 Hat4 Hatv4 Hb4
  obtain ⟨c0, c1, c2, c3, c4, c5, c6, c7⟩ := box8 HV5.out.b
  have hlc := HV5.out.lt
  simp only at c1 c2 c3 c4 c5 c6 c7
  go_wp2_with fail
  refine (lcheck_any w5 ad4 n4 cap4 _ HV5.out.i).mono ?_
  rintro e w6 ⟨cd, rfl, hcd, hb6⟩
  obtain rfl : cd = 0 := by
    rcases hcd with ⟨_, h⟩ | ⟨h, _⟩
    · exact h
    · exact absurd ⟨Hkk3.out.R, Hhs.out, by show (1 : Int) ≤ (N : Int) + 1; omega, by show (N : Int) + 1 ≤ 4611686018427387904; omega⟩ h
  have HV6 := Lib.hid (HV5.out.under hb6)
  have Hat6 := Lib.hid (Hat5.out.under hb6)
  have Hb6 := Lib.hid (Hb5.out.trans (hb6.mono Hb5.out.size))
  have Hlc6 := Lib.hid (show w4.heap.size < w6.heap.size from HV6.out.lt)
  clear hb6 hcd Hat5 Hb5 HV5 HV4 c0 c1 c2 c3 c4 c5 c6 c7 hlc hs1 hs2 hMN2 hMc hNM
  go_wp2
  go_loopw [86] (fun i wr => ∃ (k : Nat), i = .int .i64 (k : Int) ∧ k ≤ N ∧ Below w6.heap.size w6 wr) (fun i _ => N - (intOf i).toNat)
  case atStart => exact ⟨0, rfl, Nat.zero_le _, Below.refl _ _⟩
  case round =>
    obtain ⟨k, rfl, hkN, hbel⟩ := hrel
    have Hbel := Lib.hid hbel
    by_cases hlt : k < N
    · obtain ⟨r, hr⟩ : ∃ r, rs3[k]? = some r := ⟨rs3[k]'(by have := HN.out; omega), by simp⟩
      obtain ⟨g1, o1, rfl, hg1, hc1⟩ := (Hat6.out.under hbel) (by rintro rfl; simp at hr)
      obtain ⟨p0, p1⟩ := hc1 k r hr
      rw [kk_seq Hkk3.out hr] at p0
      clear hbel hc1 hr
      go_wp2
      go_roundw
      case rel => exact ⟨k + 1, by go_num, by omega, Hbel.out.alloc Hbel.out.size _⟩
      case measure => simp [intOf]; omega
    · have hkn : k = N := by omega
      have HV7 := Lib.hid (HV6.out.under hbel)
      have Hb7 := Lib.hid (Hb6.out.trans (hbel.mono Hb6.out.size))
      clear hbel hkn
      obtain ⟨c0, c1, c2, c3, c4, c5, c6, c7⟩ := box8 HV7.out.b
      have hlc := HV7.out.lt
      simp only at c1 c2 c3 c4 c5 c6 c7
      go_wp2
      go_ret
      exact ⟨rfl, Hb7.out⟩
end Go.Proofs.YtcefhcailhediaaDoor
