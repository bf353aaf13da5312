/- SEGMENT: THE WALK OVER SegmentTwins. -/
import Derived.Test.YtcefhcailhediaaDoorHaq
namespace Go.Proofs.YtcefhcailhediaaDoor
open Go.RowKit
set_option maxRecDepth 100000
set_option linter.unusedVariables false
set_option linter.unusedSimpArgs false
theorem append_is3 {l : L} {data : ByteArray} {r : L × Int} (hr : appM l data = r) (w : World) (ad : Option Addr) (n cap : Nat) (hR : LRight l) (hbk : l.broken = false) (hds : data.size ≤ 9223372036854775807) (h : LIn w ad n cap l) (hT : Tabs w) (hw : 3 < w.heap.size) :
    Calls Tryd.prog 15 #[.agg (l.cells (.slice ad n cap)), .string data] w fun e w' => ∃ ad2 n2 cap2, e = .returned (.tuple #[.agg (r.1.cells (.slice ad2 n2 cap2)), .int .i64 r.2]) ∧ DIn w' ad2 n2 cap2 r.1.d.fuse r.1.d.fault r.1.d.files ∧ (∀ b, (Value.slice ad2 n2 cap2).ownBlock = some b → w.heap.size ≤ b ∧ Free w' b) ∧ Below w.heap.size w w' := by
  subst hr
  have hn : n ≤ 1000 := by have h1 := h.d.i.1; have h2 := hR.1.1; omega
  have hc : chM (fun l => appM l data) l = appM l data := by unfold chM; rw [if_neg (by rw [hbk]; decide)]
  refine (append_any w ad n cap l data hds h hn hT hw).mono fun e w' hP => ?_
  rcases hP with ⟨hb, ⟨hno, _⟩ | ⟨_, ad2, n2, cap2, he, hd, ho⟩⟩
  · exact absurd hR hno
  · rw [hc] at he hd
    exact ⟨ad2, n2, cap2, he, hd, ho, hb⟩
theorem Blk.other {w w' : World} {q g : Nat} {cs : Array Value} {t : TypeId} (h : Blk w q cs t) (hg : w.grownBy w' (some g)) (hne : q ≠ g) : Blk w' q cs t :=
  (hg.block _ (Array.getElem?_eq_some_iff.1 h).1 (fun e => hne (by injection e))).trans h
/-- the texts of a list's files are written over -/
def Junk (w : World) (n : Nat) (ad : Option Addr) : Prop := 0 < n → ∃ g off, ad = some ⟨g, off, none⟩ ∧ Free w g ∧ ∀ j, j < n → ∃ v, w.cell? ⟨g, off + j * 3 + 1, none⟩ = some v
theorem Junk.under {w w' : World} {n : Nat} {ad : Option Addr} (h : Junk w n ad) (hb : Below w.heap.size w w') : Junk w' n ad := fun hn => by
  obtain ⟨g, off, e, hf, hc⟩ := h hn
  refine ⟨g, off, e, hf.under hb, fun j hj => ?_⟩
  obtain ⟨v, hv⟩ := hc j hj
  exact ⟨v, (World.cell?_of_block (a := ⟨g, off + j * 3 + 1, none⟩) (hb.block g hf.lt)).trans hv⟩
theorem junk_of {w : World} {ad : Option Addr} {n cap : Nat} {fu fa : Int} {fs : List F} (h : DIn w ad n cap fu fa fs) (hf : ∀ b, (Value.slice ad n cap).ownBlock = some b → Free w b) : Junk w n ad := fun hn => by
  have h1 := h.i.1
  obtain ⟨g, off, rfl, hg, hc⟩ := h.i.2.2.2 (by rintro rfl; simp at h1; omega)
  refine ⟨g, off, rfl, hf g rfl, fun j hj => ?_⟩
  have hj2 : fs[j]? = some (fs[j]'(by omega)) := by simp
  exact ⟨_, (hc j _ hj2).q1⟩
theorem junk_set {w : World} {n g off j : Nat} {u : Value} (h : Junk w n (some ⟨g, off, none⟩)) (hj : j < n) : Junk (w.setCell ⟨g, off + j * 3 + 1, none⟩ u) n (some ⟨g, off, none⟩) := fun hn => by
  obtain ⟨g1, o1, e, hf, hc⟩ := h hn
  injection e with e
  injection e with e1 e2
  subst e1 e2
  refine ⟨g, off, rfl, hf.set _ _ _, fun i hi => ?_⟩
  by_cases hij : i = j
  · subst hij
    obtain ⟨cs, T, hb⟩ := hf
    have hb2 := heap_setCell_same w g (off + i * 3 + 1) cs T u hb
    obtain ⟨v, hv⟩ := hc i hi
    rw [cell_of_row w g _ cs T (0, 0) hb] at hv
    rw [cell_of_row _ g _ _ T (0, 0) hb2]
    have hlt := (Array.getElem?_eq_some_iff.1 hv).1
    exact ⟨u, by simp [hlt]⟩
  · obtain ⟨cs, T, hb⟩ := hf
    have hb2 := heap_setCell_same w g (off + j * 3 + 1) cs T u hb
    obtain ⟨v, hv⟩ := hc i hi
    rw [cell_of_row w g _ cs T (0, 0) hb] at hv
    rw [cell_of_row _ g _ _ T (0, 0) hb2]
    refine ⟨v, ?_⟩
    rw [Array.getElem?_setIfInBounds_ne (by omega)]
    exact hv

set_option maxHeartbeats 8000000 in
theorem twins_any (w : World) (size : Int) (ads : Option Addr) (ns caps : Nat) (ss : List ByteArray) (junk : ByteArray) (hT : Tabs w) (hw : 3 < w.heap.size)
    (hsz : Num size) (hns : ns = ss.length) (hnb : ns ≤ 9223372036854775807) (hS : Strs w w.heap.size ads ss) (hSb : ∀ s ∈ ss, s.size ≤ 9223372036854775807) :
    Calls Tryd.prog 8 #[.int .i64 size, .slice ads ns caps, .string junk] w fun e w' => e = .returned (.bool true) ∧ Below w.heap.size w w' := by
  have HT := Lib.hid hT
  have HS := Lib.hid hS
  have HSb := Lib.hid hSb
  have Hns := Lib.hid hns
  have HW := Lib.hid (show Big w from hw)
  have HB := Lib.hid (Below.refl w.heap.size w)
  obtain ⟨s0, s1⟩ := hsz
  clear hT hS hSb hw hns
  go_enter Tryd.func8, Tryd.ntmps8
  go_wp2_with fail
  refine (slives_any w HT.out HW.out).mono ?_
  rintro e w1 ⟨rfl, hb⟩
  replace HT := Lib.hid (HT.out.under hb)
  replace HW := Lib.hid (HW.out.under hb)
  replace HB := Lib.hid (HB.out.trans (hb.mono HB.out.size))
  clear hb
  go_wp2_with fail
  refine (swhole_any w1).mono ?_
  rintro e w2 ⟨rfl, hb⟩
  replace HT := Lib.hid (HT.out.under hb)
  replace HW := Lib.hid (HW.out.under hb)
  replace HB := Lib.hid (HB.out.trans (hb.mono HB.out.size))
  clear hb
  by_cases hs : 1 ≤ size ∧ size ≤ 262144
  rotate_left
  · have ho : openM ⟨[], false, -1, -1⟩ size = (zl, [], 2) := by unfold openM; rw [if_neg (fun h => h right_nil), if_pos hs]
    have Ho := Lib.hid ho
    clear hs ho
    go_wp2_with fail
    refine (open_is (r := (⟨⟨[], false, 0, 0⟩, 0, 0, 0, false⟩, [], 2)) Ho.out w2 none 0 0 (DIn.nothing w2 (fu := -1) (fa := -1) (by unfold Num; omega) (by unfold Num; omega)) HT.out HW.out).mono ?_
    rintro e w3 ⟨ad2, n2, cap2, ad3, cap3, rfl, hd2, _, _, hb⟩
    replace HT := Lib.hid (HT.out.under hb)
    replace HW := Lib.hid (HW.out.under hb)
    replace HB := Lib.hid (HB.out.trans (hb.mono HB.out.size))
    have HA := Lib.hid hd2
    have Hq3 := Lib.hid (show 3 < w3.heap.size ∧ w.heap.size ≤ w3.heap.size from ⟨HW.out, HB.out.size⟩)
    clear hb hd2
    obtain ⟨W3, hW3⟩ : ∃ W, W = w3.alloc (.cells #[.slice ad2 n2 cap2, .bool false, .int .i64 0, .int .i64 0, .int .i64 0, .int .u64 0, .int .u64 0, .bool false] 30) := ⟨_, rfl⟩
    have hbW3 : Below w3.heap.size w3 W3 := by rw [hW3]; exact (Below.refl _ w3).alloc (Nat.le_refl _) _
    replace HT := Lib.hid (HT.out.under hbW3)
    replace HW := Lib.hid (HW.out.under hbW3)
    replace HA := Lib.hid (HA.out.under hbW3)
    replace HB := Lib.hid (HB.out.trans (hbW3.mono HB.out.size))
    have HQa := Lib.hid (show Blk W3 w3.heap.size #[.slice ad2 n2 cap2, .bool false, .int .i64 0, .int .i64 0, .int .i64 0, .int .u64 0, .int .u64 0, .bool false] 30 from by rw [hW3]; exact blk_new w3 _)
    clear hbW3
    go_upto_region 4 with (fail)
    rw [← hW3]
    clear hW3
    go_wp2_with fail
    refine (swhole_any W3).mono ?_
    rintro e w4 ⟨rfl, hb⟩
    replace HT := Lib.hid (HT.out.under hb)
    replace HW := Lib.hid (HW.out.under hb)
    replace HA := Lib.hid (HA.out.under hb)
    replace HQa := Lib.hid (HQa.out.under hb)
    replace HB := Lib.hid (HB.out.trans (hb.mono HB.out.size))
    clear hb
    go_wp2_with fail
    refine (open_is (r := (⟨⟨[], false, 0, 0⟩, 0, 0, 0, false⟩, [], 2)) Ho.out w4 none 0 0 (DIn.nothing w4 (fu := -1) (fa := -1) (by unfold Num; omega) (by unfold Num; omega)) HT.out HW.out).mono ?_
    rintro e w5 ⟨ad4, n4, cap4, ad5, cap5, rfl, hd4, _, _, hb⟩
    replace HT := Lib.hid (HT.out.under hb)
    replace HW := Lib.hid (HW.out.under hb)
    replace HA := Lib.hid (HA.out.under hb)
    replace HQa := Lib.hid (HQa.out.under hb)
    replace HB := Lib.hid (HB.out.trans (hb.mono HB.out.size))
    have HC := Lib.hid hd4
    have Hq35 := Lib.hid (show w3.heap.size < w5.heap.size from HQa.out.lt)
    clear hb hd4
    obtain ⟨W5, hW5⟩ : ∃ W, W = w5.alloc (.cells #[.slice ad4 n4 cap4, .bool false, .int .i64 0, .int .i64 0, .int .i64 0, .int .u64 0, .int .u64 0, .bool false] 30) := ⟨_, rfl⟩
    have hbW5 : Below w5.heap.size w5 W5 := by rw [hW5]; exact (Below.refl _ w5).alloc (Nat.le_refl _) _
    replace HT := Lib.hid (HT.out.under hbW5)
    replace HW := Lib.hid (HW.out.under hbW5)
    replace HA := Lib.hid (HA.out.under hbW5)
    replace HQa := Lib.hid (HQa.out.under hbW5)
    replace HC := Lib.hid (HC.out.under hbW5)
    replace HB := Lib.hid (HB.out.trans (hbW5.mono HB.out.size))
    have HQb := Lib.hid (show Blk W5 w5.heap.size #[.slice ad4 n4 cap4, .bool false, .int .i64 0, .int .i64 0, .int .i64 0, .int .u64 0, .int .u64 0, .bool false] 30 from by rw [hW5]; exact blk_new w5 _)
    clear hbW5
    go_upto_region 5 with (fail)
    rw [← hW5]
    clear hW5
    go_wp2
    go_ret
    exact ⟨rfl, HB.out⟩
  have Hhs := Lib.hid hs
  have ho : openM ⟨[], false, -1, -1⟩ size = (⟨⟨[], false, -1, -1⟩, size, 1, 1, false⟩, [], 0) := open_kk kk_nil hs
  have Ho := Lib.hid ho
  obtain ⟨hs1, hs2⟩ := hs
  clear ho
  go_wp2_with fail
  refine (open_is (r := (⟨⟨[], false, -1, -1⟩, size, 1, 1, false⟩, [], 0)) Ho.out w2 none 0 0 (DIn.nothing w2 (fu := -1) (fa := -1) (by unfold Num; omega) (by unfold Num; omega)) HT.out HW.out).mono ?_
  rintro e w3 ⟨ad2, n2, cap2, ad3, cap3, rfl, hd2, _, _, hb⟩
  replace HT := Lib.hid (HT.out.under hb)
  replace HW := Lib.hid (HW.out.under hb)
  replace HB := Lib.hid (HB.out.trans (hb.mono HB.out.size))
  have HA := Lib.hid hd2
  have Hq3 := Lib.hid (show 3 < w3.heap.size ∧ w.heap.size ≤ w3.heap.size from ⟨HW.out, HB.out.size⟩)
  clear hb hd2
  obtain ⟨W3, hW3⟩ : ∃ W, W = w3.alloc (.cells #[.slice ad2 n2 cap2, .bool false, .int .i64 (-1), .int .i64 (-1), .int .i64 size, .int .u64 1, .int .u64 1, .bool false] 30) := ⟨_, rfl⟩
  have hbW3 : Below w3.heap.size w3 W3 := by rw [hW3]; exact (Below.refl _ w3).alloc (Nat.le_refl _) _
  replace HT := Lib.hid (HT.out.under hbW3)
  replace HW := Lib.hid (HW.out.under hbW3)
  replace HA := Lib.hid (HA.out.under hbW3)
  replace HB := Lib.hid (HB.out.trans (hbW3.mono HB.out.size))
  have HQa := Lib.hid (show Blk W3 w3.heap.size #[.slice ad2 n2 cap2, .bool false, .int .i64 (-1), .int .i64 (-1), .int .i64 size, .int .u64 1, .int .u64 1, .bool false] 30 from by rw [hW3]; exact blk_new w3 _)
  clear hbW3
  go_upto_region 4 with (fail)
  rw [← hW3]
  clear hW3
  go_wp2_with fail
  refine (swhole_any W3).mono ?_
  rintro e w4 ⟨rfl, hb⟩
  replace HT := Lib.hid (HT.out.under hb)
  replace HW := Lib.hid (HW.out.under hb)
  replace HA := Lib.hid (HA.out.under hb)
  replace HQa := Lib.hid (HQa.out.under hb)
  replace HB := Lib.hid (HB.out.trans (hb.mono HB.out.size))
  clear hb
  go_wp2_with fail
  refine (open_is (r := (⟨⟨[], false, -1, -1⟩, size, 1, 1, false⟩, [], 0)) Ho.out w4 none 0 0 (DIn.nothing w4 (fu := -1) (fa := -1) (by unfold Num; omega) (by unfold Num; omega)) HT.out HW.out).mono ?_
  rintro e w5 ⟨ad4, n4, cap4, ad5, cap5, rfl, hd4, _, _, hb⟩
  replace HT := Lib.hid (HT.out.under hb)
  replace HW := Lib.hid (HW.out.under hb)
  replace HA := Lib.hid (HA.out.under hb)
  replace HQa := Lib.hid (HQa.out.under hb)
  replace HB := Lib.hid (HB.out.trans (hb.mono HB.out.size))
  have HC := Lib.hid hd4
  have Hq35 := Lib.hid (show w3.heap.size < w5.heap.size from HQa.out.lt)
  clear hb hd4
  obtain ⟨W5, hW5⟩ : ∃ W, W = w5.alloc (.cells #[.slice ad4 n4 cap4, .bool false, .int .i64 (-1), .int .i64 (-1), .int .i64 size, .int .u64 1, .int .u64 1, .bool false] 30) := ⟨_, rfl⟩
  have hbW5 : Below w5.heap.size w5 W5 := by rw [hW5]; exact (Below.refl _ w5).alloc (Nat.le_refl _) _
  replace HT := Lib.hid (HT.out.under hbW5)
  replace HW := Lib.hid (HW.out.under hbW5)
  replace HA := Lib.hid (HA.out.under hbW5)
  replace HQa := Lib.hid (HQa.out.under hbW5)
  replace HC := Lib.hid (HC.out.under hbW5)
  replace HB := Lib.hid (HB.out.trans (hbW5.mono HB.out.size))
  have HQb := Lib.hid (show Blk W5 w5.heap.size #[.slice ad4 n4 cap4, .bool false, .int .i64 (-1), .int .i64 (-1), .int .i64 size, .int .u64 1, .int .u64 1, .bool false] 30 from by rw [hW5]; exact blk_new w5 _)
  clear hbW5
  go_upto_region 5 with (fail)
  rw [← hW5]
  clear hW5
  have hlin : ∀ (fs : List F) (rs : List Rec) (x : Int) (W : World) (ad : Option Addr) (n cap : Nat), KK fs 1 rs → x = ((1 + rs.length : Nat) : Int) → DIn W ad n cap (-1) (-1) fs → LIn W ad n cap ⟨⟨fs, false, -1, -1⟩, size, 1, x, false⟩ := fun fs rs x W ad n cap hk hx hd => by
    have := kk_bound hk
    exact ⟨hd, s0, s1, by show (0 : Int) ≤ 1; decide, by show (1 : Int) ≤ 18446744073709551615; decide, by show 0 ≤ x; omega, by show x ≤ 18446744073709551615; omega⟩
  have Hlin := Lib.hid hlin
  obtain ⟨qa, hqa⟩ : ∃ q, w3.heap.size = q := ⟨_, rfl⟩
  obtain ⟨qb, hqb⟩ : ∃ q, w5.heap.size = q := ⟨_, rfl⟩
  rw [hqa] at HQa
  rw [hqb] at HQb
  rw [hqa] at Hq3 Hq35
  rw [hqb] at Hq35
  have Hqs := Lib.hid (show w.heap.size ≤ qa ∧ 3 < qa ∧ qa < qb from ⟨Hq3.out.2, Hq3.out.1, Hq35.out⟩)
  have HqaW := Lib.hid HQa.out.lt
  have HqbW := Lib.hid HQb.out.lt
  rw [hqa, hqb]
  clear hlin hqa hqb
  go_wp2
  go_loopw [47] (fun i wr => ∃ (k : Nat) (fs : List F) (rs : List Rec) (x : Int) (ad : Option Addr) (n cap : Nat) (ad' : Option Addr) (n' cap' : Nat), i = .int .i64 (k : Int) ∧ k ≤ ns ∧ KK fs 1 rs ∧ x = ((1 + rs.length : Nat) : Int) ∧
    Blk wr qa (lcells (.slice ad n cap) false (-1) (-1) size 1 x false) 30 ∧ DIn wr ad n cap (-1) (-1) fs ∧ Blk wr qb (lcells (.slice ad' n' cap') false (-1) (-1) size 1 x false) 30 ∧ DIn wr ad' n' cap' (-1) (-1) fs ∧ Below w.heap.size w wr ∧ Tabs wr ∧ Big wr) (fun i _ => ns - (intOf i).toNat)
  case atStart => exact ⟨0, [], [], 1, ad2, n2, cap2, ad4, n4, cap4, rfl, Nat.zero_le _, kk_nil, rfl, HQa.out, HA.out, HQb.out, HC.out, HB.out, HT.out, HW.out⟩
  case round =>
    clear HQa HA HQb HC HB HT HW
    obtain ⟨k, fs, rs, x, ad, n, cap, ad', n', cap', rfl, hk, hkk, hx, hQa, hA, hQb, hC, hB, hTr, hWr⟩ := hrel
    obtain ⟨wo, rfl⟩ : ∃ wo : World, wo = wr := ⟨_, rfl⟩
    have Hkk := Lib.hid hkk
    have Hx := Lib.hid hx
    have HQa := Lib.hid hQa
    have HA := Lib.hid hA
    have HQb := Lib.hid hQb
    have HC := Lib.hid hC
    have HB := Lib.hid hB
    have HT := Lib.hid hTr
    have HW := Lib.hid hWr
    have hx0 : 1 ≤ x ∧ x ≤ 16777217 := by have := kk_bound hkk; omega
    obtain ⟨hx0, hx1⟩ := hx0
    have HR := Lib.hid (show LRight ⟨⟨fs, false, -1, -1⟩, size, 1, x, false⟩ from ⟨hkk.R, Hhs.out, hx0, by show x ≤ 4611686018427387904; omega⟩)
    clear hkk hx hQa hA hQb hC hB hTr hWr
    have Hwr := Lib.hid (show qa < wo.heap.size ∧ qb < wo.heap.size from ⟨HQa.out.lt, HQb.out.lt⟩)
    by_cases hlt : k < ns
    rotate_left
    · obtain ⟨c0, c1, c2, c3, c4, c5, c6, c7⟩ := box8 HQa.out
      obtain ⟨d0, d1, d2, d3, d4, d5, d6, d7⟩ := box8 HQb.out
      have hlc := HQa.out.lt
      have hld := HQb.out.lt
      go_wp2_with fail
      refine (lsame_yes wo ad ad' n cap n' cap' ⟨⟨fs, false, -1, -1⟩, size, 1, x, false⟩ HA.out.i HC.out.i (by have h1 := HA.out.i.1; have h2 := Hkk.out.R.1; omega)).mono ?_
      rintro e w6 ⟨rfl, hb6⟩
      have HB6 := Lib.hid (HB.out.trans (hb6.mono HB.out.size))
      clear hb6
      go_wp2
      go_ret
      exact ⟨rfl, HB6.out⟩
    obtain ⟨s, hs⟩ : ∃ s, ss[k]? = some s := ⟨ss[k]'(by have := Hns.out; omega), by simp⟩
    obtain ⟨gs, off, rfl, hgs, hgc⟩ := (HS.out.keep HB.out) (by rintro rfl; simp at hs)
    have hgs2 : gs < wo.heap.size := Nat.lt_of_lt_of_le hgs HB.out.size
    have hg0 := hgc k s hs
    have hsb := HSb.out s (List.mem_of_getElem? hs)
    clear hgc hs
    obtain ⟨⟨⟨⟨fs2, dn2, fu2, fa2⟩, sz2, fr2, nx2, br2⟩, cd2⟩, hr⟩ : ∃ r, appM ⟨⟨fs, false, -1, -1⟩, size, 1, x, false⟩ s = r := ⟨_, rfl⟩
    have hAp : App fs rs (-1) (-1) size s (⟨⟨fs2, dn2, fu2, fa2⟩, sz2, fr2, nx2, br2⟩, cd2) := by
      rw [← hr, Hx.out]; exact app_kk Hkk.out Hhs.out (by unfold Num; omega) (by unfold Num; omega)
    have HAp := Lib.hid hAp
    have Hr := Lib.hid hr
    have Hbr := Lib.hid (Below.refl wo.heap.size wo)
    have HQa0 := Lib.hid HQa.out
    have HA0 := Lib.hid HA.out
    have HQb0 := Lib.hid HQb.out
    have HC0 := Lib.hid HC.out
    have HT0 := Lib.hid HT.out
    have HW0 := Lib.hid HW.out
    clear hAp hr
    obtain ⟨c0, c1, c2, c3, c4, c5, c6, c7⟩ := box8 HQa.out
    have hlc := HQa.out.lt
    go_wp2_with fail
    refine (append_is3 Hr.out wo ad n cap HR.out rfl hsb (Hlin.out fs rs x wo ad n cap Hkk.out Hx.out HA.out) HT.out HW.out).mono ?_
    rintro e w6 ⟨ad6, n6, cap6, rfl, hd6, ho6, hb⟩
    replace HT := Lib.hid (HT.out.under hb)
    replace HW := Lib.hid (HW.out.under hb)
    replace HQa := Lib.hid (HQa.out.under hb)
    replace HA := Lib.hid (HA.out.under hb)
    replace HQb := Lib.hid (HQb.out.under hb)
    replace HC := Lib.hid (HC.out.under hb)
    replace Hbr := Lib.hid (Hbr.out.trans (hb.mono Hbr.out.size))
    have HX := Lib.hid (show DIn w6 ad6 n6 cap6 fu2 fa2 fs2 from hd6)
    have HJ := Lib.hid (junk_of hd6 (fun b e => (ho6 b e).2))
    have Ho6 := Lib.hid (fun b e => (ho6 b e).1)
    have Hlo6 := Lib.hid (show ∀ b, (Value.slice ad6 n6 cap6).ownBlock = some b → b < w6.heap.size from fun b e => (ho6 b e).2.lt)
    have Hs67 := Lib.hid hb.size
    clear hb hd6 ho6 c0 c1 c2 c3 c4 c5 c6 c7 hlc hg0 hgs hgs2
    obtain ⟨W6, hW6⟩ : ∃ W, W = w6.alloc (.cells #[.slice ad6 n6 cap6, .bool dn2, .int .i64 fu2, .int .i64 fa2, .int .i64 sz2, .int .u64 fr2, .int .u64 nx2, .bool br2] 30) := ⟨_, rfl⟩
    have hbW6 : Below w6.heap.size w6 W6 := by rw [hW6]; exact (Below.refl _ w6).alloc (Nat.le_refl _) _
    replace HT := Lib.hid (HT.out.under hbW6)
    replace HW := Lib.hid (HW.out.under hbW6)
    replace HQa := Lib.hid (HQa.out.under hbW6)
    replace HA := Lib.hid (HA.out.under hbW6)
    replace HQb := Lib.hid (HQb.out.under hbW6)
    replace HC := Lib.hid (HC.out.under hbW6)
    replace HX := Lib.hid (HX.out.under hbW6)
    replace HJ := Lib.hid (HJ.out.under hbW6)
    replace Hbr := Lib.hid (Hbr.out.trans (hbW6.mono Hbr.out.size))
    have HQx := Lib.hid (show Blk W6 w6.heap.size #[.slice ad6 n6 cap6, .bool dn2, .int .i64 fu2, .int .i64 fa2, .int .i64 sz2, .int .u64 fr2, .int .u64 nx2, .bool br2] 30 from by rw [hW6]; exact blk_new w6 _)
    clear hbW6
    go_upto_region 11 with (fail)
    rw [← hW6]
    clear hW6
    have HW6s := Lib.hid (show w6.heap.size < W6.heap.size from HQx.out.lt)
    obtain ⟨c0, c1, c2, c3, c4, c5, c6, c7⟩ := box8 HQb.out
    have hlc := HQb.out.lt
    go_wp2_with fail
    refine (append_is3 Hr.out W6 ad' n' cap' HR.out rfl hsb (Hlin.out fs rs x W6 ad' n' cap' Hkk.out Hx.out HC.out) HT.out HW.out).mono ?_
    rintro e w7 ⟨ad7, n7, cap7, rfl, hd7, ho7, hb⟩
    replace HT := Lib.hid (HT.out.under hb)
    replace HW := Lib.hid (HW.out.under hb)
    replace HQa := Lib.hid (HQa.out.under hb)
    replace HA := Lib.hid (HA.out.under hb)
    replace HQb := Lib.hid (HQb.out.under hb)
    replace HC := Lib.hid (HC.out.under hb)
    replace HX := Lib.hid (HX.out.under hb)
    replace HJ := Lib.hid (HJ.out.under hb)
    replace HQx := Lib.hid (HQx.out.under hb)
    replace Hbr := Lib.hid (Hbr.out.trans (hb.mono Hbr.out.size))
    have HY := Lib.hid (show DIn w7 ad7 n7 cap7 fu2 fa2 fs2 from hd7)
    have Ho7 := Lib.hid (fun b e => (ho7 b e).1)
    have Hsz7 := Lib.hid (show w6.heap.size < w7.heap.size from Nat.lt_of_lt_of_le HQx.out.lt (Nat.le_refl _))
    have Hs7 := Lib.hid (show W6.heap.size ≤ w7.heap.size from hb.size)
    clear hb hd7 ho7 c0 c1 c2 c3 c4 c5 c6 c7 hlc
    obtain ⟨W7, hW7⟩ : ∃ W, W = w7.alloc (.cells #[.slice ad7 n7 cap7, .bool dn2, .int .i64 fu2, .int .i64 fa2, .int .i64 sz2, .int .u64 fr2, .int .u64 nx2, .bool br2] 30) := ⟨_, rfl⟩
    have hbW7 : Below w7.heap.size w7 W7 := by rw [hW7]; exact (Below.refl _ w7).alloc (Nat.le_refl _) _
    replace HT := Lib.hid (HT.out.under hbW7)
    replace HW := Lib.hid (HW.out.under hbW7)
    replace HQa := Lib.hid (HQa.out.under hbW7)
    replace HA := Lib.hid (HA.out.under hbW7)
    replace HQb := Lib.hid (HQb.out.under hbW7)
    replace HC := Lib.hid (HC.out.under hbW7)
    replace HX := Lib.hid (HX.out.under hbW7)
    replace HJ := Lib.hid (HJ.out.under hbW7)
    replace HQx := Lib.hid (HQx.out.under hbW7)
    replace HY := Lib.hid (HY.out.under hbW7)
    replace Hbr := Lib.hid (Hbr.out.trans (hbW7.mono Hbr.out.size))
    have HQy := Lib.hid (show Blk W7 w7.heap.size #[.slice ad7 n7 cap7, .bool dn2, .int .i64 fu2, .int .i64 fa2, .int .i64 sz2, .int .u64 fr2, .int .u64 nx2, .bool br2] 30 from by rw [hW7]; exact blk_new w7 _)
    clear hbW7
    go_upto_region 12 with (fail)
    rw [← hW7]
    clear hW7
    have hn6 : n6 ≤ 1000 := by have h1 := HX.out.i.1; have h2 := HAp.out.R.1; simp only at h2; omega
    by_cases hcd : cd2 = 0
    rotate_left
    · have hc1 : (cd2 != 0) = true := by simp [hcd]
      have hc2 : (cd2 == 0) = false := by simp [hcd]
      have hc3 : (cd2 != cd2) = false := by simp
      clear hcd HAp
      obtain ⟨e0, e1, e2, e3, e4, e5, e6, e7⟩ := box8 HQx.out
      have hle := HQx.out.lt
      go_wp2
      go_loopw [67] (fun i wz => ∃ (j : Nat), i = .int .i64 (j : Int) ∧ j ≤ n6 ∧ Below wo.heap.size W7 wz ∧ Blk wz w6.heap.size #[.slice ad6 n6 cap6, .bool dn2, .int .i64 fu2, .int .i64 fa2, .int .i64 sz2, .int .u64 fr2, .int .u64 nx2, .bool br2] 30 ∧ Junk wz n6 ad6) (fun i _ => n6 - (intOf i).toNat)
      case atStart => exact ⟨0, rfl, Nat.zero_le _, Below.refl _ _, HQx.out, HJ.out⟩
      case round =>
        obtain ⟨j, rfl, hj, hbz, hqz, hjz⟩ := hrel
        have Hbz := Lib.hid hbz
        have Hqz := Lib.hid hqz
        have Hjz := Lib.hid hjz
        clear e0 e1 e2 e3 e4 e5 e6 e7 hle
        by_cases hjn : j < n6
        · have Hjn := Lib.hid hjn
          obtain ⟨gx, ox, rfl, hfx, hcx⟩ := hjz (by omega)
          obtain ⟨vx, hvx⟩ := hcx j hjn
          have fx : wr.frozen? ⟨gx, ox + j * 3 + 1, none⟩ = false := by obtain ⟨cs, T, hb⟩ := hfx; exact frozen_of_row wr gx _ cs T hb
          have hgx := hfx.lt
          have hlox := Ho6.out gx rfl
          have hhix := Hlo6.out gx rfl
          obtain ⟨e0, e1, e2, e3, e4, e5, e6, e7⟩ := box8 hqz
          have hle := Blk.lt hqz
          have hnex : w6.heap.size ≠ gx := by omega
          have HbN := Lib.hid (Hbz.out.setCell (p := ⟨gx, ox + j * 3 + 1, none⟩) hlox (.string junk))
          have HqN := Lib.hid (Hqz.out.other (grown_setc wr gx (ox + j * 3 + 1) (.string junk)) hnex)
          have HjN := Lib.hid (junk_set (u := .string junk) Hjz.out hjn)
          clear hbz hqz hjz hcx hfx hnex
          go_wp2
          go_roundw
          case rel => exact ⟨j + 1, by go_num, by have := Hjn.out; omega, HbN.out, HqN.out, HjN.out⟩
          case measure => simp [intOf]; have := Hjn.out; omega
        · have hjn2 : j = n6 := by omega
          have HbF := Lib.hid (Hbr.out.trans Hbz.out)
          clear hbz hqz hjz hjn2
          go_wp2
          go_roundw
          case rel => exact ⟨k + 1, fs, rs, x, ad, n, cap, ad', n', cap', by go_num, by omega, Hkk.out, Hx.out, HQa0.out.under HbF.out, HA0.out.under HbF.out, HQb0.out.under HbF.out, HC0.out.under HbF.out, HB.out.trans (HbF.out.mono HB.out.size), HT0.out.under HbF.out, HW0.out.under HbF.out⟩
          case measure => simp [intOf]; omega
    subst hcd
    obtain ⟨q1, q2, hK2, hr1⟩ := HAp.out.ok rfl
    obtain ⟨hf1, hf2⟩ := HAp.out.free rfl rfl rfl
    simp only [L.mk.injEq, D.mk.injEq, true_and] at hK2 hr1 hf1 hf2
    obtain ⟨⟨e1, _⟩, e2, e3, e4, e5⟩ := hr1
    subst e1 e3 e5 hf1 hf2
    obtain rfl := e2.symm
    have Hx2 := Lib.hid (show nx2 = ((1 + (rs ++ [(⟨1 + rs.length, s, q1, q2⟩ : Rec)]).length : Nat) : Int) by rw [e4, List.length_append]; rfl)
    have HK2 := Lib.hid hK2
    clear e2 e4 hK2 HAp
    obtain ⟨e0, e1, e2, e3, e4, e5, e6, e7⟩ := box8 HQx.out
    have hle := HQx.out.lt
    have hc3 : ((0 : Int) != 0) = false := rfl
    go_wp2
    go_loopw [67] (fun i wz => ∃ (j : Nat), i = .int .i64 (j : Int) ∧ j ≤ n6 ∧ wz = W7) (fun i _ => n6 - (intOf i).toNat)
    case atStart => exact ⟨0, rfl, Nat.zero_le _, rfl⟩
    case round =>
      obtain ⟨j, rfl, hj, rfl⟩ := hrel
      by_cases hjn : j < n6
      · have Hjn := Lib.hid hjn
        go_wp2
        go_roundw
        case rel => exact ⟨j + 1, by go_num, by have := Hjn.out; omega, by first | exact rfl | trivial⟩
        case measure => simp [intOf]; have := Hjn.out; omega
      · have hjn2 : j = n6 := by omega
        clear hjn2 e0 e1 e2 e3 e4 e5 e6 e7 hle
        go_upto_region 21 with (fail)
        refine wp_region_any (by kernel_rfl) ?_
        obtain ⟨Y, hY⟩ : ∃ W, wr.drew = W := ⟨_, rfl⟩
        change wpAny _ _ _ _ _ _ _ (wr.drew)
        rw [hY]
        have hb : Below wr.heap.size wr Y := by rw [← hY]; exact (Below.refl _ wr).drew
        replace HT := Lib.hid (HT.out.under hb)
        replace HW := Lib.hid (HW.out.under hb)
        replace HQa := Lib.hid (HQa.out.under hb)
        replace HA := Lib.hid (HA.out.under hb)
        replace HQb := Lib.hid (HQb.out.under hb)
        replace HC := Lib.hid (HC.out.under hb)
        replace HX := Lib.hid (HX.out.under hb)
        replace HJ := Lib.hid (HJ.out.under hb)
        replace HQx := Lib.hid (HQx.out.under hb)
        replace HY := Lib.hid (HY.out.under hb)
        replace HQy := Lib.hid (HQy.out.under hb)
        replace Hbr := Lib.hid (Hbr.out.trans (hb.mono Hbr.out.size))
        clear hb hY
        have HBc := Lib.hid (HB.out.trans (Hbr.out.mono HB.out.size))
        obtain ⟨x0, x1, x2, x3, x4, x5, x6, x7⟩ := box8 HQx.out
        have hlx := HQx.out.lt
        obtain ⟨y0, y1, y2, y3, y4, y5, y6, y7⟩ := box8 HQy.out
        have hly := HQy.out.lt
        obtain ⟨a0, a1, a2, a3, a4, a5, a6, a7⟩ := box8 HQa.out
        have hla := HQa.out.lt
        obtain ⟨b0, b1, b2, b3, b4, b5, b6, b7⟩ := box8 HQb.out
        have hlb := HQb.out.lt
        have fa0 := frozen_of_row Y qa 0 _ 30 HQa.out
        have fa1 := frozen_of_row Y qa 1 _ 30 HQa.out
        have fa2 := frozen_of_row Y qa 2 _ 30 HQa.out
        have fa3 := frozen_of_row Y qa 3 _ 30 HQa.out
        have fa4 := frozen_of_row Y qa 4 _ 30 HQa.out
        have fa5 := frozen_of_row Y qa 5 _ 30 HQa.out
        have fa6 := frozen_of_row Y qa 6 _ 30 HQa.out
        have fa7 := frozen_of_row Y qa 7 _ 30 HQa.out
        have fb0 := frozen_of_row Y qb 0 _ 30 HQb.out
        have fb1 := frozen_of_row Y qb 1 _ 30 HQb.out
        have fb2 := frozen_of_row Y qb 2 _ 30 HQb.out
        have fb3 := frozen_of_row Y qb 3 _ 30 HQb.out
        have fb4 := frozen_of_row Y qb 4 _ 30 HQb.out
        have fb5 := frozen_of_row Y qb 5 _ 30 HQb.out
        have fb6 := frozen_of_row Y qb 6 _ 30 HQb.out
        have fb7 := frozen_of_row Y qb 7 _ 30 HQb.out
        refine wpAny_ready (rs := [0, 1]) (by kernel_rfl) (by simp) ?_
        refine AllReady.cons rfl (fun K hK => ?_) ?_
        · skip
          go_simp
          refine hK _ _ ?_
          clear hK K
          refine wpAny_ready (rs := [1, 2]) (by kernel_rfl) (by simp) ?_
          refine AllReady.cons rfl (fun K hK => ?_) ?_
          · skip
            go_simp
            refine hK _ _ ?_
            clear hK K
            refine wpAny_ready (rs := [2]) (by kernel_rfl) (by simp) ?_
            refine AllReady.cons rfl (fun K hK => ?_) AllReady.nil
            go_simp
            refine hK _ _ ?_
            clear hK K
            clear x0 x1 x2 x3 x4 x5 x6 x7 y0 y1 y2 y3 y4 y5 y6 y7 a0 a1 a2 a3 a4 a5 a6 a7 b0 b1 b2 b3 b4 b5 b6 b7 fa0 fa1 fa2 fa3 fa4 fa5 fa6 fa7 fb0 fb1 fb2 fb3 fb4 fb5 fb6 fb7 hlx hly hla hlb
            obtain ⟨Z3, hD⟩ : ∃ W, W = (((((((Y.setCell ⟨qa, 0, none⟩ (.slice ad6 n6 cap6)).setCell ⟨qa, 1, none⟩ (.bool false)).setCell ⟨qa, 2, none⟩ (.int .i64 (-1))).setCell ⟨qa, 3, none⟩ (.int .i64 (-1))).setCell ⟨qa, 4, none⟩ (.int .i64 size)).setCell ⟨qa, 5, none⟩ (.int .u64 1)).setCell ⟨qa, 6, none⟩ (.int .u64 nx2)).setCell ⟨qa, 7, none⟩ (.bool false) := ⟨_, rfl⟩
            rw [← hD]
            have hgD : Y.grownBy Z3 (some qa) := by rw [hD]; exact put8_grown Y qa (.slice ad6 n6 cap6) (.bool false) (.int .i64 (-1)) (.int .i64 (-1)) (.int .i64 size) (.int .u64 1) (.int .u64 nx2) (.bool false)
            replace HQa := Lib.hid (show Blk Z3 qa (lcells (.slice ad6 n6 cap6) false (-1) (-1) size 1 nx2 false) 30 from by rw [hD]; exact blk_put8 HQa.out (.slice ad6 n6 cap6) (.bool false) (.int .i64 (-1)) (.int .i64 (-1)) (.int .i64 size) (.int .u64 1) (.int .u64 nx2) (.bool false))
            replace HQb := Lib.hid (HQb.out.other hgD (by have := Hqs.out; omega))
            replace HQx := Lib.hid (HQx.out.other hgD (by have h1 := Hwr.out; have h2 := Hs67.out; omega))
            replace HQy := Lib.hid (HQy.out.other hgD (by have h1 := Hwr.out; have h2 := Hs67.out; have h3 := Hsz7.out; omega))
            replace HX := Lib.hid (HX.out.grown hgD (fun b e e2 => by injection e2 with e2; have h1 := Ho6.out b e; have h2 := Hwr.out; omega))
            replace HY := Lib.hid (HY.out.grown hgD (fun b e e2 => by injection e2 with e2; have h1 := Ho7.out b e; have h2 := Hwr.out; have h3 := HW6s.out; have h4 := Hs67.out; omega))
            replace HT := Lib.hid (HT.out.other hgD (show 4 ≤ _ from HW.out) (fun b e => by injection e with e; have := Hqs.out; omega))
            replace HW := Lib.hid (show Big Z3 from Nat.lt_of_lt_of_le HW.out hgD.size)
            replace HBc := Lib.hid (kd_to_below HBc.out hgD (by have := Hqs.out; omega) HBc.out.size)
            clear hgD hD
            obtain ⟨x0, x1, x2, x3, x4, x5, x6, x7⟩ := box8 HQx.out
            have hlx := HQx.out.lt
            obtain ⟨y0, y1, y2, y3, y4, y5, y6, y7⟩ := box8 HQy.out
            have hly := HQy.out.lt
            obtain ⟨a0, a1, a2, a3, a4, a5, a6, a7⟩ := box8 HQa.out
            have hla := HQa.out.lt
            obtain ⟨b0, b1, b2, b3, b4, b5, b6, b7⟩ := box8 HQb.out
            have hlb := HQb.out.lt
            have fa0 := frozen_of_row Z3 qa 0 _ 30 HQa.out
            have fa1 := frozen_of_row Z3 qa 1 _ 30 HQa.out
            have fa2 := frozen_of_row Z3 qa 2 _ 30 HQa.out
            have fa3 := frozen_of_row Z3 qa 3 _ 30 HQa.out
            have fa4 := frozen_of_row Z3 qa 4 _ 30 HQa.out
            have fa5 := frozen_of_row Z3 qa 5 _ 30 HQa.out
            have fa6 := frozen_of_row Z3 qa 6 _ 30 HQa.out
            have fa7 := frozen_of_row Z3 qa 7 _ 30 HQa.out
            have fb0 := frozen_of_row Z3 qb 0 _ 30 HQb.out
            have fb1 := frozen_of_row Z3 qb 1 _ 30 HQb.out
            have fb2 := frozen_of_row Z3 qb 2 _ 30 HQb.out
            have fb3 := frozen_of_row Z3 qb 3 _ 30 HQb.out
            have fb4 := frozen_of_row Z3 qb 4 _ 30 HQb.out
            have fb5 := frozen_of_row Z3 qb 5 _ 30 HQb.out
            have fb6 := frozen_of_row Z3 qb 6 _ 30 HQb.out
            have fb7 := frozen_of_row Z3 qb 7 _ 30 HQb.out
            refine wpAny_ready (rs := [3]) (by kernel_rfl) (by simp) ?_
            refine AllReady.cons rfl (fun K hK => ?_) AllReady.nil
            go_simp
            refine hK _ _ ?_
            clear hK K
            clear x0 x1 x2 x3 x4 x5 x6 x7 y0 y1 y2 y3 y4 y5 y6 y7 a0 a1 a2 a3 a4 a5 a6 a7 b0 b1 b2 b3 b4 b5 b6 b7 fa0 fa1 fa2 fa3 fa4 fa5 fa6 fa7 fb0 fb1 fb2 fb3 fb4 fb5 fb6 fb7 hlx hly hla hlb
            obtain ⟨Z4, hD⟩ : ∃ W, W = (((((((Z3.setCell ⟨qb, 0, none⟩ (.slice ad7 n7 cap7)).setCell ⟨qb, 1, none⟩ (.bool false)).setCell ⟨qb, 2, none⟩ (.int .i64 (-1))).setCell ⟨qb, 3, none⟩ (.int .i64 (-1))).setCell ⟨qb, 4, none⟩ (.int .i64 size)).setCell ⟨qb, 5, none⟩ (.int .u64 1)).setCell ⟨qb, 6, none⟩ (.int .u64 nx2)).setCell ⟨qb, 7, none⟩ (.bool false) := ⟨_, rfl⟩
            rw [← hD]
            have hgD : Z3.grownBy Z4 (some qb) := by rw [hD]; exact put8_grown Z3 qb (.slice ad7 n7 cap7) (.bool false) (.int .i64 (-1)) (.int .i64 (-1)) (.int .i64 size) (.int .u64 1) (.int .u64 nx2) (.bool false)
            replace HQb := Lib.hid (show Blk Z4 qb (lcells (.slice ad7 n7 cap7) false (-1) (-1) size 1 nx2 false) 30 from by rw [hD]; exact blk_put8 HQb.out (.slice ad7 n7 cap7) (.bool false) (.int .i64 (-1)) (.int .i64 (-1)) (.int .i64 size) (.int .u64 1) (.int .u64 nx2) (.bool false))
            replace HQa := Lib.hid (HQa.out.other hgD (by have := Hqs.out; omega))
            replace HQx := Lib.hid (HQx.out.other hgD (by have h1 := Hwr.out; have h2 := Hs67.out; omega))
            replace HQy := Lib.hid (HQy.out.other hgD (by have h1 := Hwr.out; have h2 := Hs67.out; have h3 := Hsz7.out; omega))
            replace HX := Lib.hid (HX.out.grown hgD (fun b e e2 => by injection e2 with e2; have h1 := Ho6.out b e; have h2 := Hwr.out; omega))
            replace HY := Lib.hid (HY.out.grown hgD (fun b e e2 => by injection e2 with e2; have h1 := Ho7.out b e; have h2 := Hwr.out; have h3 := HW6s.out; have h4 := Hs67.out; omega))
            replace HT := Lib.hid (HT.out.other hgD (show 4 ≤ _ from HW.out) (fun b e => by injection e with e; have := Hqs.out; omega))
            replace HW := Lib.hid (show Big Z4 from Nat.lt_of_lt_of_le HW.out hgD.size)
            replace HBc := Lib.hid (kd_to_below HBc.out hgD (by have := Hqs.out; omega) HBc.out.size)
            clear hgD hD
            obtain ⟨x0, x1, x2, x3, x4, x5, x6, x7⟩ := box8 HQx.out
            have hlx := HQx.out.lt
            obtain ⟨y0, y1, y2, y3, y4, y5, y6, y7⟩ := box8 HQy.out
            have hly := HQy.out.lt
            obtain ⟨a0, a1, a2, a3, a4, a5, a6, a7⟩ := box8 HQa.out
            have hla := HQa.out.lt
            obtain ⟨b0, b1, b2, b3, b4, b5, b6, b7⟩ := box8 HQb.out
            have hlb := HQb.out.lt
            have fa0 := frozen_of_row Z4 qa 0 _ 30 HQa.out
            have fa1 := frozen_of_row Z4 qa 1 _ 30 HQa.out
            have fa2 := frozen_of_row Z4 qa 2 _ 30 HQa.out
            have fa3 := frozen_of_row Z4 qa 3 _ 30 HQa.out
            have fa4 := frozen_of_row Z4 qa 4 _ 30 HQa.out
            have fa5 := frozen_of_row Z4 qa 5 _ 30 HQa.out
            have fa6 := frozen_of_row Z4 qa 6 _ 30 HQa.out
            have fa7 := frozen_of_row Z4 qa 7 _ 30 HQa.out
            have fb0 := frozen_of_row Z4 qb 0 _ 30 HQb.out
            have fb1 := frozen_of_row Z4 qb 1 _ 30 HQb.out
            have fb2 := frozen_of_row Z4 qb 2 _ 30 HQb.out
            have fb3 := frozen_of_row Z4 qb 3 _ 30 HQb.out
            have fb4 := frozen_of_row Z4 qb 4 _ 30 HQb.out
            have fb5 := frozen_of_row Z4 qb 5 _ 30 HQb.out
            have fb6 := frozen_of_row Z4 qb 6 _ 30 HQb.out
            have fb7 := frozen_of_row Z4 qb 7 _ 30 HQb.out
            refine wpAny_done (by kernel_rfl) ?_ _
            try go_simp
            clear x0 x1 x2 x3 x4 x5 x6 x7 y0 y1 y2 y3 y4 y5 y6 y7 a0 a1 a2 a3 a4 a5 a6 a7 b0 b1 b2 b3 b4 b5 b6 b7 fa0 fa1 fa2 fa3 fa4 fa5 fa6 fa7 fb0 fb1 fb2 fb3 fb4 fb5 fb6 fb7 hlx hly hla hlb
            go_wp2
            go_roundw
            case rel => exact ⟨k + 1, fs2, _, nx2, ad6, n6, cap6, ad7, n7, cap7, by go_num, by omega, HK2.out, Hx2.out, HQa.out, HX.out, HQb.out, HY.out, HBc.out, HT.out, HW.out⟩
            case measure => simp [intOf]; omega
          refine AllReady.cons rfl (fun K hK => ?_) AllReady.nil
          go_simp
          refine hK _ _ ?_
          clear hK K
          clear x0 x1 x2 x3 x4 x5 x6 x7 y0 y1 y2 y3 y4 y5 y6 y7 a0 a1 a2 a3 a4 a5 a6 a7 b0 b1 b2 b3 b4 b5 b6 b7 fa0 fa1 fa2 fa3 fa4 fa5 fa6 fa7 fb0 fb1 fb2 fb3 fb4 fb5 fb6 fb7 hlx hly hla hlb
          obtain ⟨Z2, hD⟩ : ∃ W, W = (((((((Y.setCell ⟨qa, 0, none⟩ (.slice ad6 n6 cap6)).setCell ⟨qa, 1, none⟩ (.bool false)).setCell ⟨qa, 2, none⟩ (.int .i64 (-1))).setCell ⟨qa, 3, none⟩ (.int .i64 (-1))).setCell ⟨qa, 4, none⟩ (.int .i64 size)).setCell ⟨qa, 5, none⟩ (.int .u64 1)).setCell ⟨qa, 6, none⟩ (.int .u64 nx2)).setCell ⟨qa, 7, none⟩ (.bool false) := ⟨_, rfl⟩
          rw [← hD]
          have hgD : Y.grownBy Z2 (some qa) := by rw [hD]; exact put8_grown Y qa (.slice ad6 n6 cap6) (.bool false) (.int .i64 (-1)) (.int .i64 (-1)) (.int .i64 size) (.int .u64 1) (.int .u64 nx2) (.bool false)
          replace HQa := Lib.hid (show Blk Z2 qa (lcells (.slice ad6 n6 cap6) false (-1) (-1) size 1 nx2 false) 30 from by rw [hD]; exact blk_put8 HQa.out (.slice ad6 n6 cap6) (.bool false) (.int .i64 (-1)) (.int .i64 (-1)) (.int .i64 size) (.int .u64 1) (.int .u64 nx2) (.bool false))
          replace HQb := Lib.hid (HQb.out.other hgD (by have := Hqs.out; omega))
          replace HQx := Lib.hid (HQx.out.other hgD (by have h1 := Hwr.out; have h2 := Hs67.out; omega))
          replace HQy := Lib.hid (HQy.out.other hgD (by have h1 := Hwr.out; have h2 := Hs67.out; have h3 := Hsz7.out; omega))
          replace HX := Lib.hid (HX.out.grown hgD (fun b e e2 => by injection e2 with e2; have h1 := Ho6.out b e; have h2 := Hwr.out; omega))
          replace HY := Lib.hid (HY.out.grown hgD (fun b e e2 => by injection e2 with e2; have h1 := Ho7.out b e; have h2 := Hwr.out; have h3 := HW6s.out; have h4 := Hs67.out; omega))
          replace HT := Lib.hid (HT.out.other hgD (show 4 ≤ _ from HW.out) (fun b e => by injection e with e; have := Hqs.out; omega))
          replace HW := Lib.hid (show Big Z2 from Nat.lt_of_lt_of_le HW.out hgD.size)
          replace HBc := Lib.hid (kd_to_below HBc.out hgD (by have := Hqs.out; omega) HBc.out.size)
          clear hgD hD
          obtain ⟨x0, x1, x2, x3, x4, x5, x6, x7⟩ := box8 HQx.out
          have hlx := HQx.out.lt
          obtain ⟨y0, y1, y2, y3, y4, y5, y6, y7⟩ := box8 HQy.out
          have hly := HQy.out.lt
          obtain ⟨a0, a1, a2, a3, a4, a5, a6, a7⟩ := box8 HQa.out
          have hla := HQa.out.lt
          obtain ⟨b0, b1, b2, b3, b4, b5, b6, b7⟩ := box8 HQb.out
          have hlb := HQb.out.lt
          have fa0 := frozen_of_row Z2 qa 0 _ 30 HQa.out
          have fa1 := frozen_of_row Z2 qa 1 _ 30 HQa.out
          have fa2 := frozen_of_row Z2 qa 2 _ 30 HQa.out
          have fa3 := frozen_of_row Z2 qa 3 _ 30 HQa.out
          have fa4 := frozen_of_row Z2 qa 4 _ 30 HQa.out
          have fa5 := frozen_of_row Z2 qa 5 _ 30 HQa.out
          have fa6 := frozen_of_row Z2 qa 6 _ 30 HQa.out
          have fa7 := frozen_of_row Z2 qa 7 _ 30 HQa.out
          have fb0 := frozen_of_row Z2 qb 0 _ 30 HQb.out
          have fb1 := frozen_of_row Z2 qb 1 _ 30 HQb.out
          have fb2 := frozen_of_row Z2 qb 2 _ 30 HQb.out
          have fb3 := frozen_of_row Z2 qb 3 _ 30 HQb.out
          have fb4 := frozen_of_row Z2 qb 4 _ 30 HQb.out
          have fb5 := frozen_of_row Z2 qb 5 _ 30 HQb.out
          have fb6 := frozen_of_row Z2 qb 6 _ 30 HQb.out
          have fb7 := frozen_of_row Z2 qb 7 _ 30 HQb.out
          refine wpAny_ready (rs := [1]) (by kernel_rfl) (by simp) ?_
          refine AllReady.cons rfl (fun K hK => ?_) AllReady.nil
          go_simp
          refine hK _ _ ?_
          clear hK K
          refine wpAny_ready (rs := [3]) (by kernel_rfl) (by simp) ?_
          refine AllReady.cons rfl (fun K hK => ?_) AllReady.nil
          go_simp
          refine hK _ _ ?_
          clear hK K
          clear x0 x1 x2 x3 x4 x5 x6 x7 y0 y1 y2 y3 y4 y5 y6 y7 a0 a1 a2 a3 a4 a5 a6 a7 b0 b1 b2 b3 b4 b5 b6 b7 fa0 fa1 fa2 fa3 fa4 fa5 fa6 fa7 fb0 fb1 fb2 fb3 fb4 fb5 fb6 fb7 hlx hly hla hlb
          obtain ⟨Z4, hD⟩ : ∃ W, W = (((((((Z2.setCell ⟨qb, 0, none⟩ (.slice ad7 n7 cap7)).setCell ⟨qb, 1, none⟩ (.bool false)).setCell ⟨qb, 2, none⟩ (.int .i64 (-1))).setCell ⟨qb, 3, none⟩ (.int .i64 (-1))).setCell ⟨qb, 4, none⟩ (.int .i64 size)).setCell ⟨qb, 5, none⟩ (.int .u64 1)).setCell ⟨qb, 6, none⟩ (.int .u64 nx2)).setCell ⟨qb, 7, none⟩ (.bool false) := ⟨_, rfl⟩
          rw [← hD]
          have hgD : Z2.grownBy Z4 (some qb) := by rw [hD]; exact put8_grown Z2 qb (.slice ad7 n7 cap7) (.bool false) (.int .i64 (-1)) (.int .i64 (-1)) (.int .i64 size) (.int .u64 1) (.int .u64 nx2) (.bool false)
          replace HQb := Lib.hid (show Blk Z4 qb (lcells (.slice ad7 n7 cap7) false (-1) (-1) size 1 nx2 false) 30 from by rw [hD]; exact blk_put8 HQb.out (.slice ad7 n7 cap7) (.bool false) (.int .i64 (-1)) (.int .i64 (-1)) (.int .i64 size) (.int .u64 1) (.int .u64 nx2) (.bool false))
          replace HQa := Lib.hid (HQa.out.other hgD (by have := Hqs.out; omega))
          replace HQx := Lib.hid (HQx.out.other hgD (by have h1 := Hwr.out; have h2 := Hs67.out; omega))
          replace HQy := Lib.hid (HQy.out.other hgD (by have h1 := Hwr.out; have h2 := Hs67.out; have h3 := Hsz7.out; omega))
          replace HX := Lib.hid (HX.out.grown hgD (fun b e e2 => by injection e2 with e2; have h1 := Ho6.out b e; have h2 := Hwr.out; omega))
          replace HY := Lib.hid (HY.out.grown hgD (fun b e e2 => by injection e2 with e2; have h1 := Ho7.out b e; have h2 := Hwr.out; have h3 := HW6s.out; have h4 := Hs67.out; omega))
          replace HT := Lib.hid (HT.out.other hgD (show 4 ≤ _ from HW.out) (fun b e => by injection e with e; have := Hqs.out; omega))
          replace HW := Lib.hid (show Big Z4 from Nat.lt_of_lt_of_le HW.out hgD.size)
          replace HBc := Lib.hid (kd_to_below HBc.out hgD (by have := Hqs.out; omega) HBc.out.size)
          clear hgD hD
          obtain ⟨x0, x1, x2, x3, x4, x5, x6, x7⟩ := box8 HQx.out
          have hlx := HQx.out.lt
          obtain ⟨y0, y1, y2, y3, y4, y5, y6, y7⟩ := box8 HQy.out
          have hly := HQy.out.lt
          obtain ⟨a0, a1, a2, a3, a4, a5, a6, a7⟩ := box8 HQa.out
          have hla := HQa.out.lt
          obtain ⟨b0, b1, b2, b3, b4, b5, b6, b7⟩ := box8 HQb.out
          have hlb := HQb.out.lt
          have fa0 := frozen_of_row Z4 qa 0 _ 30 HQa.out
          have fa1 := frozen_of_row Z4 qa 1 _ 30 HQa.out
          have fa2 := frozen_of_row Z4 qa 2 _ 30 HQa.out
          have fa3 := frozen_of_row Z4 qa 3 _ 30 HQa.out
          have fa4 := frozen_of_row Z4 qa 4 _ 30 HQa.out
          have fa5 := frozen_of_row Z4 qa 5 _ 30 HQa.out
          have fa6 := frozen_of_row Z4 qa 6 _ 30 HQa.out
          have fa7 := frozen_of_row Z4 qa 7 _ 30 HQa.out
          have fb0 := frozen_of_row Z4 qb 0 _ 30 HQb.out
          have fb1 := frozen_of_row Z4 qb 1 _ 30 HQb.out
          have fb2 := frozen_of_row Z4 qb 2 _ 30 HQb.out
          have fb3 := frozen_of_row Z4 qb 3 _ 30 HQb.out
          have fb4 := frozen_of_row Z4 qb 4 _ 30 HQb.out
          have fb5 := frozen_of_row Z4 qb 5 _ 30 HQb.out
          have fb6 := frozen_of_row Z4 qb 6 _ 30 HQb.out
          have fb7 := frozen_of_row Z4 qb 7 _ 30 HQb.out
          refine wpAny_done (by kernel_rfl) ?_ _
          try go_simp
          clear x0 x1 x2 x3 x4 x5 x6 x7 y0 y1 y2 y3 y4 y5 y6 y7 a0 a1 a2 a3 a4 a5 a6 a7 b0 b1 b2 b3 b4 b5 b6 b7 fa0 fa1 fa2 fa3 fa4 fa5 fa6 fa7 fb0 fb1 fb2 fb3 fb4 fb5 fb6 fb7 hlx hly hla hlb
          go_wp2
          go_roundw
          case rel => exact ⟨k + 1, fs2, _, nx2, ad6, n6, cap6, ad7, n7, cap7, by go_num, by omega, HK2.out, Hx2.out, HQa.out, HX.out, HQb.out, HY.out, HBc.out, HT.out, HW.out⟩
          case measure => simp [intOf]; omega
        refine AllReady.cons rfl (fun K hK => ?_) AllReady.nil
        go_simp
        refine hK _ _ ?_
        clear hK K
        refine wpAny_ready (rs := [0]) (by kernel_rfl) (by simp) ?_
        refine AllReady.cons rfl (fun K hK => ?_) AllReady.nil
        go_simp
        refine hK _ _ ?_
        clear hK K
        refine wpAny_ready (rs := [2]) (by kernel_rfl) (by simp) ?_
        refine AllReady.cons rfl (fun K hK => ?_) AllReady.nil
        go_simp
        refine hK _ _ ?_
        clear hK K
        clear x0 x1 x2 x3 x4 x5 x6 x7 y0 y1 y2 y3 y4 y5 y6 y7 a0 a1 a2 a3 a4 a5 a6 a7 b0 b1 b2 b3 b4 b5 b6 b7 fa0 fa1 fa2 fa3 fa4 fa5 fa6 fa7 fb0 fb1 fb2 fb3 fb4 fb5 fb6 fb7 hlx hly hla hlb
        obtain ⟨Z3, hD⟩ : ∃ W, W = (((((((Y.setCell ⟨qa, 0, none⟩ (.slice ad6 n6 cap6)).setCell ⟨qa, 1, none⟩ (.bool false)).setCell ⟨qa, 2, none⟩ (.int .i64 (-1))).setCell ⟨qa, 3, none⟩ (.int .i64 (-1))).setCell ⟨qa, 4, none⟩ (.int .i64 size)).setCell ⟨qa, 5, none⟩ (.int .u64 1)).setCell ⟨qa, 6, none⟩ (.int .u64 nx2)).setCell ⟨qa, 7, none⟩ (.bool false) := ⟨_, rfl⟩
        rw [← hD]
        have hgD : Y.grownBy Z3 (some qa) := by rw [hD]; exact put8_grown Y qa (.slice ad6 n6 cap6) (.bool false) (.int .i64 (-1)) (.int .i64 (-1)) (.int .i64 size) (.int .u64 1) (.int .u64 nx2) (.bool false)
        replace HQa := Lib.hid (show Blk Z3 qa (lcells (.slice ad6 n6 cap6) false (-1) (-1) size 1 nx2 false) 30 from by rw [hD]; exact blk_put8 HQa.out (.slice ad6 n6 cap6) (.bool false) (.int .i64 (-1)) (.int .i64 (-1)) (.int .i64 size) (.int .u64 1) (.int .u64 nx2) (.bool false))
        replace HQb := Lib.hid (HQb.out.other hgD (by have := Hqs.out; omega))
        replace HQx := Lib.hid (HQx.out.other hgD (by have h1 := Hwr.out; have h2 := Hs67.out; omega))
        replace HQy := Lib.hid (HQy.out.other hgD (by have h1 := Hwr.out; have h2 := Hs67.out; have h3 := Hsz7.out; omega))
        replace HX := Lib.hid (HX.out.grown hgD (fun b e e2 => by injection e2 with e2; have h1 := Ho6.out b e; have h2 := Hwr.out; omega))
        replace HY := Lib.hid (HY.out.grown hgD (fun b e e2 => by injection e2 with e2; have h1 := Ho7.out b e; have h2 := Hwr.out; have h3 := HW6s.out; have h4 := Hs67.out; omega))
        replace HT := Lib.hid (HT.out.other hgD (show 4 ≤ _ from HW.out) (fun b e => by injection e with e; have := Hqs.out; omega))
        replace HW := Lib.hid (show Big Z3 from Nat.lt_of_lt_of_le HW.out hgD.size)
        replace HBc := Lib.hid (kd_to_below HBc.out hgD (by have := Hqs.out; omega) HBc.out.size)
        clear hgD hD
        obtain ⟨x0, x1, x2, x3, x4, x5, x6, x7⟩ := box8 HQx.out
        have hlx := HQx.out.lt
        obtain ⟨y0, y1, y2, y3, y4, y5, y6, y7⟩ := box8 HQy.out
        have hly := HQy.out.lt
        obtain ⟨a0, a1, a2, a3, a4, a5, a6, a7⟩ := box8 HQa.out
        have hla := HQa.out.lt
        obtain ⟨b0, b1, b2, b3, b4, b5, b6, b7⟩ := box8 HQb.out
        have hlb := HQb.out.lt
        have fa0 := frozen_of_row Z3 qa 0 _ 30 HQa.out
        have fa1 := frozen_of_row Z3 qa 1 _ 30 HQa.out
        have fa2 := frozen_of_row Z3 qa 2 _ 30 HQa.out
        have fa3 := frozen_of_row Z3 qa 3 _ 30 HQa.out
        have fa4 := frozen_of_row Z3 qa 4 _ 30 HQa.out
        have fa5 := frozen_of_row Z3 qa 5 _ 30 HQa.out
        have fa6 := frozen_of_row Z3 qa 6 _ 30 HQa.out
        have fa7 := frozen_of_row Z3 qa 7 _ 30 HQa.out
        have fb0 := frozen_of_row Z3 qb 0 _ 30 HQb.out
        have fb1 := frozen_of_row Z3 qb 1 _ 30 HQb.out
        have fb2 := frozen_of_row Z3 qb 2 _ 30 HQb.out
        have fb3 := frozen_of_row Z3 qb 3 _ 30 HQb.out
        have fb4 := frozen_of_row Z3 qb 4 _ 30 HQb.out
        have fb5 := frozen_of_row Z3 qb 5 _ 30 HQb.out
        have fb6 := frozen_of_row Z3 qb 6 _ 30 HQb.out
        have fb7 := frozen_of_row Z3 qb 7 _ 30 HQb.out
        refine wpAny_ready (rs := [3]) (by kernel_rfl) (by simp) ?_
        refine AllReady.cons rfl (fun K hK => ?_) AllReady.nil
        go_simp
        refine hK _ _ ?_
        clear hK K
        clear x0 x1 x2 x3 x4 x5 x6 x7 y0 y1 y2 y3 y4 y5 y6 y7 a0 a1 a2 a3 a4 a5 a6 a7 b0 b1 b2 b3 b4 b5 b6 b7 fa0 fa1 fa2 fa3 fa4 fa5 fa6 fa7 fb0 fb1 fb2 fb3 fb4 fb5 fb6 fb7 hlx hly hla hlb
        obtain ⟨Z4, hD⟩ : ∃ W, W = (((((((Z3.setCell ⟨qb, 0, none⟩ (.slice ad7 n7 cap7)).setCell ⟨qb, 1, none⟩ (.bool false)).setCell ⟨qb, 2, none⟩ (.int .i64 (-1))).setCell ⟨qb, 3, none⟩ (.int .i64 (-1))).setCell ⟨qb, 4, none⟩ (.int .i64 size)).setCell ⟨qb, 5, none⟩ (.int .u64 1)).setCell ⟨qb, 6, none⟩ (.int .u64 nx2)).setCell ⟨qb, 7, none⟩ (.bool false) := ⟨_, rfl⟩
        rw [← hD]
        have hgD : Z3.grownBy Z4 (some qb) := by rw [hD]; exact put8_grown Z3 qb (.slice ad7 n7 cap7) (.bool false) (.int .i64 (-1)) (.int .i64 (-1)) (.int .i64 size) (.int .u64 1) (.int .u64 nx2) (.bool false)
        replace HQb := Lib.hid (show Blk Z4 qb (lcells (.slice ad7 n7 cap7) false (-1) (-1) size 1 nx2 false) 30 from by rw [hD]; exact blk_put8 HQb.out (.slice ad7 n7 cap7) (.bool false) (.int .i64 (-1)) (.int .i64 (-1)) (.int .i64 size) (.int .u64 1) (.int .u64 nx2) (.bool false))
        replace HQa := Lib.hid (HQa.out.other hgD (by have := Hqs.out; omega))
        replace HQx := Lib.hid (HQx.out.other hgD (by have h1 := Hwr.out; have h2 := Hs67.out; omega))
        replace HQy := Lib.hid (HQy.out.other hgD (by have h1 := Hwr.out; have h2 := Hs67.out; have h3 := Hsz7.out; omega))
        replace HX := Lib.hid (HX.out.grown hgD (fun b e e2 => by injection e2 with e2; have h1 := Ho6.out b e; have h2 := Hwr.out; omega))
        replace HY := Lib.hid (HY.out.grown hgD (fun b e e2 => by injection e2 with e2; have h1 := Ho7.out b e; have h2 := Hwr.out; have h3 := HW6s.out; have h4 := Hs67.out; omega))
        replace HT := Lib.hid (HT.out.other hgD (show 4 ≤ _ from HW.out) (fun b e => by injection e with e; have := Hqs.out; omega))
        replace HW := Lib.hid (show Big Z4 from Nat.lt_of_lt_of_le HW.out hgD.size)
        replace HBc := Lib.hid (kd_to_below HBc.out hgD (by have := Hqs.out; omega) HBc.out.size)
        clear hgD hD
        obtain ⟨x0, x1, x2, x3, x4, x5, x6, x7⟩ := box8 HQx.out
        have hlx := HQx.out.lt
        obtain ⟨y0, y1, y2, y3, y4, y5, y6, y7⟩ := box8 HQy.out
        have hly := HQy.out.lt
        obtain ⟨a0, a1, a2, a3, a4, a5, a6, a7⟩ := box8 HQa.out
        have hla := HQa.out.lt
        obtain ⟨b0, b1, b2, b3, b4, b5, b6, b7⟩ := box8 HQb.out
        have hlb := HQb.out.lt
        have fa0 := frozen_of_row Z4 qa 0 _ 30 HQa.out
        have fa1 := frozen_of_row Z4 qa 1 _ 30 HQa.out
        have fa2 := frozen_of_row Z4 qa 2 _ 30 HQa.out
        have fa3 := frozen_of_row Z4 qa 3 _ 30 HQa.out
        have fa4 := frozen_of_row Z4 qa 4 _ 30 HQa.out
        have fa5 := frozen_of_row Z4 qa 5 _ 30 HQa.out
        have fa6 := frozen_of_row Z4 qa 6 _ 30 HQa.out
        have fa7 := frozen_of_row Z4 qa 7 _ 30 HQa.out
        have fb0 := frozen_of_row Z4 qb 0 _ 30 HQb.out
        have fb1 := frozen_of_row Z4 qb 1 _ 30 HQb.out
        have fb2 := frozen_of_row Z4 qb 2 _ 30 HQb.out
        have fb3 := frozen_of_row Z4 qb 3 _ 30 HQb.out
        have fb4 := frozen_of_row Z4 qb 4 _ 30 HQb.out
        have fb5 := frozen_of_row Z4 qb 5 _ 30 HQb.out
        have fb6 := frozen_of_row Z4 qb 6 _ 30 HQb.out
        have fb7 := frozen_of_row Z4 qb 7 _ 30 HQb.out
        refine wpAny_done (by kernel_rfl) ?_ _
        try go_simp
        clear x0 x1 x2 x3 x4 x5 x6 x7 y0 y1 y2 y3 y4 y5 y6 y7 a0 a1 a2 a3 a4 a5 a6 a7 b0 b1 b2 b3 b4 b5 b6 b7 fa0 fa1 fa2 fa3 fa4 fa5 fa6 fa7 fb0 fb1 fb2 fb3 fb4 fb5 fb6 fb7 hlx hly hla hlb
        go_wp2
        go_roundw
        case rel => exact ⟨k + 1, fs2, _, nx2, ad6, n6, cap6, ad7, n7, cap7, by go_num, by omega, HK2.out, Hx2.out, HQa.out, HX.out, HQb.out, HY.out, HBc.out, HT.out, HW.out⟩
        case measure => simp [intOf]; omega
end Go.Proofs.YtcefhcailhediaaDoor
