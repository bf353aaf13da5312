/- SEGMENT: THE WALK OVER kept. -/
import Derived.Test.YtcefhcailhediaaDoorHap
namespace Go.Proofs.YtcefhcailhediaaDoor
open Go.RowKit
set_option maxRecDepth 100000
set_option linter.unusedVariables false
set_option linter.unusedSimpArgs false
/-- texts that came in -/
def Strs (w : World) (B : Nat) (ad : Option Addr) (ss : List ByteArray) : Prop := ss ≠ [] → ∃ g off, ad = some ⟨g, off, none⟩ ∧ g < B ∧ ∀ i s, ss[i]? = some s → w.cell? ⟨g, off + i, none⟩ = some (.string s)
theorem Strs.keep {w w' : World} {B : Nat} {ad : Option Addr} {ss : List ByteArray} (h : Strs w B ad ss) (hb : Below B w w') : Strs w' B ad ss :=
  fun hne => by obtain ⟨g, off, e, hg, hi⟩ := h hne; exact ⟨g, off, e, hg, fun i k hk => (hb.cell (p := ⟨g, off + i, none⟩) hg).trans (hi i k hk)⟩
theorem RRow.under {w w' : World} {base : Nat} {v : Value} {rs : List Rec} (h : RRow w base v rs) (hb : Below w.heap.size w w') : RRow w' base v rs :=
  h.kept (row := none) ⟨hb.os, hb.tape, hb.output, hb.size, fun k hk _ => hb.block k hk⟩ (by simp)
theorem LIn.set {w : World} {g o : Nat} {v : Value} {ad : Option Addr} {n cap : Nat} {l : L} (h : LIn w ad n cap l) (ho : l.d.files ≠ [] → (Value.slice ad n cap).ownBlock ≠ some g) : LIn (w.setCell ⟨g, o, none⟩ v) ad n cap l := by
  by_cases e : l.d.files = []
  · exact ⟨⟨⟨h.d.i.1, h.d.i.2.1, h.d.i.2.2.1, fun hh => absurd e hh⟩, h.d.fit, h.d.u0, h.d.u1, h.d.f0, h.d.f1⟩, h.s0, h.s1, h.f0, h.f1, h.n0, h.n1⟩
  · exact ⟨⟨(Inp.set h.d.i (ho e)).mono (by simp [World.setCell]), h.d.fit, h.d.u0, h.d.u1, h.d.f0, h.d.f1⟩, h.s0, h.s1, h.f0, h.f1, h.n0, h.n1⟩
/-- fuse and fault are set -/
theorem LVar.fz {w : World} {q : Nat} {ad : Option Addr} {n cap : Nat} {l : L} (h : LVar w q ad n cap l) (ho : l.d.files ≠ [] → (Value.slice ad n cap).ownBlock ≠ some q) {u v : Int} (hu : Num u) (hv : Num v) :
    LVar ((w.setCell ⟨q, 2, none⟩ (.int .i64 u)).setCell ⟨q, 3, none⟩ (.int .i64 v)) q ad n cap { l with d := ⟨l.d.files, l.d.down, u, v⟩ } := by
  have h1 := LIn.set (o := 3) (v := .int .i64 v) (LIn.set (o := 2) (v := .int .i64 u) h.i ho) ho
  exact ⟨heap_setCell_same _ q 3 _ 30 _ (heap_setCell_same w q 2 _ 30 _ h.b), ⟨⟨h1.d.i, h1.d.fit, hu.1, hu.2, hv.1, hv.2⟩, h1.s0, h1.s1, h1.f0, h1.f1, h1.n0, h1.n1⟩⟩
/-- another row has grown -/
theorem DIn.grown {w w' : World} {row : Option Nat} {ad : Option Addr} {n cap : Nat} {fu fa : Int} {fs : List F} (h : DIn w ad n cap fu fa fs) (hg : w.grownBy w' row) (hne : ∀ b, (Value.slice ad n cap).ownBlock = some b → row ≠ some b) : DIn w' ad n cap fu fa fs := by
  refine ⟨⟨h.i.1, h.i.2.1, h.i.2.2.1, fun hn => ?_⟩, h.fit, h.u0, h.u1, h.f0, h.f1⟩
  obtain ⟨g, off, rfl, hgs, hc⟩ := h.i.2.2.2 hn
  refine ⟨g, off, rfl, Nat.lt_of_lt_of_le hgs hg.size, fun i f hf => ?_⟩
  have hb := hg.block g hgs (fun e => hne g rfl e.symm)
  obtain ⟨c0, c1, c2⟩ := hc i f hf
  exact ⟨(World.cell?_of_block hb).trans c0, (World.cell?_of_block hb).trans c1, (World.cell?_of_block hb).trans c2⟩
theorem append_is2 {l : L} {data : ByteArray} {r : L × Int} (hr : appM l data = r) (w : World) (ad : Option Addr) (n cap : Nat) (hR : LRight l) (hbk : l.broken = false) (hds : data.size ≤ 9223372036854775807) (h : LIn w ad n cap l) (hT : Tabs w) (hw : 3 < w.heap.size) :
    Calls Tryd.prog 15 #[.agg (l.cells (.slice ad n cap)), .string data] w fun e w' => ∃ ad2 n2 cap2, e = .returned (.tuple #[.agg (r.1.cells (.slice ad2 n2 cap2)), .int .i64 r.2]) ∧ DIn w' ad2 n2 cap2 r.1.d.fuse r.1.d.fault r.1.d.files ∧ (∀ b, (Value.slice ad2 n2 cap2).ownBlock = some b → w.heap.size ≤ b) ∧ Below w.heap.size w w' := by
  subst hr
  have hn : n ≤ 1000 := by have h1 := h.d.i.1; have h2 := hR.1.1; omega
  have hc : chM (fun l => appM l data) l = appM l data := by unfold chM; rw [if_neg (by rw [hbk]; decide)]
  refine (append_any w ad n cap l data hds h hn hT hw).mono fun e w' hP => ?_
  rcases hP with ⟨hb, ⟨hno, _⟩ | ⟨_, ad2, n2, cap2, he, hd, ho⟩⟩
  · exact absurd hR hno
  · rw [hc] at he hd
    exact ⟨ad2, n2, cap2, he, hd, fun b e => (ho b e).1, hb⟩
/-- what kept answers with -/
def KeptP (w : World) (size : Int) (last : ByteArray) (fuse fault : Int) (e : Ending) (w' : World) : Prop := Below w.heap.size w w' ∧
  ((¬ (1 ≤ size ∧ size ≤ 262144) ∧ ∃ ad n cap, e = .returned (.tuple #[.agg (zl.cells (.slice ad n cap)), nilV, .int .i64 2])) ∨
   ((1 ≤ size ∧ size ≤ 262144) ∧ ∃ fs rs want ad n cap v, KK fs 1 rs ∧ ((¬ (appM (kl fs rs fuse fault size) last).2 = 0 ∧ want = rs) ∨ ((appM (kl fs rs fuse fault size) last).2 = 0 ∧ ∃ h1 h2, want = rs ++ [⟨1 + rs.length, last, h1, h2⟩])) ∧
     e = .returned (.tuple #[.agg ((appM (kl fs rs fuse fault size) last).1.cells (.slice ad n cap)), v, .int .i64 (appM (kl fs rs fuse fault size) last).2]) ∧
     DIn w' ad n cap (appM (kl fs rs fuse fault size) last).1.d.fuse (appM (kl fs rs fuse fault size) last).1.d.fault (appM (kl fs rs fuse fault size) last).1.d.files ∧ RRow w' w.heap.size v want))

theorem RRow.other {w w' : World} {base g : Nat} {v : Value} {rs : List Rec} (h : RRow w base v rs) (hg : w.grownBy w' (some g)) (hne : v.ownBlock ≠ some g) : RRow w' base v rs := ⟨h.1.kept hg (.inr hne), h.2⟩
theorem put8_grown (w : World) (q : Nat) (v0 v1 v2 v3 v4 v5 v6 v7 : Value) :
    w.grownBy ((((((((w.setCell ⟨q, 0, none⟩ v0).setCell ⟨q, 1, none⟩ v1).setCell ⟨q, 2, none⟩ v2).setCell ⟨q, 3, none⟩ v3).setCell ⟨q, 4, none⟩ v4).setCell ⟨q, 5, none⟩ v5).setCell ⟨q, 6, none⟩ v6).setCell ⟨q, 7, none⟩ v7) (some q) :=
  kd_set (kd_set (kd_set (kd_set (kd_set (kd_set (kd_set (kd_set (kd_refl q w) _) _) _) _) _) _) _) _
theorem Tabs.other {w w' : World} {row : Option Nat} (h : Tabs w) (hg : w.grownBy w' row) (hw : 4 ≤ w.heap.size) (hr : ∀ b, row = some b → 4 ≤ b) : Tabs w' :=
  h.low (n₀ := 4) (Nat.le_refl _) (fun k hk => hg.block k (by omega) (fun e => by have := hr k e.symm; omega)) hg.size

set_option maxHeartbeats 4000000 in
theorem kept_any (w : World) (size : Int) (ads : Option Addr) (ns caps : Nat) (ss : List ByteArray) (last : ByteArray) (fuse fault : Int) (hT : Tabs w) (hw : 3 < w.heap.size)
    (hsz : Num size) (hfu : Num fuse) (hfa : Num fault) (hlast : last.size ≤ 9223372036854775807) (hns : ns = ss.length) (hnb : ns ≤ 9223372036854775807) (hS : Strs w w.heap.size ads ss) (hSb : ∀ s ∈ ss, s.size ≤ 9223372036854775807) :
    Calls Tryd.prog 10 #[.int .i64 size, .slice ads ns caps, .string last, .int .i64 fuse, .int .i64 fault] w fun e w' => KeptP w size last fuse fault e w' := by
  have HT := Lib.hid hT
  have HS := Lib.hid hS
  have HSb := Lib.hid hSb
  have Hns := Lib.hid hns
  have Hfu := Lib.hid hfu
  have Hfa := Lib.hid hfa
  obtain ⟨s0, s1⟩ := hsz
  obtain ⟨u0, u1⟩ := hfu
  obtain ⟨v0, v1⟩ := hfa
  clear hT hS hSb hns
  have hb0 : Below w.heap.size w (w.alloc (.cells zlog 30)) := (Below.refl _ w).alloc (Nat.le_refl _) _
  have hz0 := blk_new w (.cells zlog 30)
  obtain ⟨W0, hW0⟩ : ∃ W, W = w.alloc (.cells #[.slice none 0 0, .bool false, .int .i64 0, .int .i64 0, .int .i64 0, .int .u64 0, .int .u64 0, .bool false] 30) := ⟨_, rfl⟩
  rw [← hW0] at hb0 hz0
  have HT0 := Lib.hid (HT.out.under hb0)
  have Hb0 := Lib.hid hb0
  have Hz0 := Lib.hid hz0
  have hw0 : 3 < W0.heap.size := by have := hb0.size; omega
  clear hb0 hz0 HT
  go_enter Tryd.func10, Tryd.ntmps10
  go_upto_region 1 with (fail)
  rw [← hW0]
  clear hW0
  go_wp2_with fail
  refine (swhole_any W0).mono ?_
  rintro e w1 ⟨rfl, hb1⟩
  have HT1 := Lib.hid (HT0.out.under hb1)
  have Hz1 := Lib.hid ((hb1.block _ (Array.getElem?_eq_some_iff.1 Hz0.out).1).trans Hz0.out)
  have Hb1 := Lib.hid (Hb0.out.trans (hb1.mono Hb0.out.size))
  have hw1 : 3 < w1.heap.size := by have := hb1.size; omega
  clear hb1 HT0 Hz0 Hb0
  go_wp2_with fail
  by_cases hs : 1 ≤ size ∧ size ≤ 262144
  rotate_left
  · have ho : openM ⟨[], false, -1, -1⟩ size = (zl, [], 2) := by unfold openM; rw [if_neg (fun h => h right_nil), if_pos hs]
    have HS1 := Lib.hid hs
    clear hs
    refine (open_is (r := (⟨⟨[], false, 0, 0⟩, 0, 0, 0, false⟩, [], 2)) ho w1 none 0 0 (DIn.nothing w1 (fu := -1) (fa := -1) (by unfold Num; omega) (by unfold Num; omega)) HT1.out hw1).mono ?_
    rintro e w2 ⟨ad2, n2, cap2, ad3, cap3, rfl, hd2, _, _, hb2⟩
    have hn2 : n2 = 0 := hd2.i.1
    obtain ⟨W2, hW2⟩ : ∃ W, W = w2.alloc (.cells #[.slice ad2 n2 cap2, .bool false, .int .i64 0, .int .i64 0, .int .i64 0, .int .u64 0, .int .u64 0, .bool false] 30) := ⟨_, rfl⟩
    have hbW2 : Below w2.heap.size w2 W2 := by rw [hW2]; exact (Below.refl _ w2).alloc (Nat.le_refl _) _
    have hq2 : W2.heap[w2.heap.size]? = some (.cells #[.slice ad2 n2 cap2, .bool false, .int .i64 0, .int .i64 0, .int .i64 0, .int .u64 0, .int .u64 0, .bool false] 30 (0, 0)) := by rw [hW2]; exact blk_new w2 _
    have hz2 := (hb2.block _ (Array.getElem?_eq_some_iff.1 Hz1.out).1).trans Hz1.out
    have hz3 := (hbW2.block _ (Array.getElem?_eq_some_iff.1 hz2).1).trans hz2
    have HzW2 := Lib.hid hz3
    have HqW2 := Lib.hid hq2
    have HbW2 := Lib.hid ((Hb1.out.trans (hb2.mono Hb1.out.size)).trans (hbW2.mono (by have h1 := Hb1.out.size; have h2 := hb2.size; omega)))
    clear hz2 hz3 hq2 hb2 hbW2 hd2 hn2 ho
    go_upto_region 2 with (fail)
    rw [← hW2]
    clear hW2
    obtain ⟨c0, c1, c2, c3, c4, c5, c6, c7⟩ := box8 HqW2.out
    have hlc := (Array.getElem?_eq_some_iff.1 HqW2.out).1
    obtain ⟨y0, y1, y2, y3, y4, y5, y6, y7⟩ := box8 HzW2.out
    have hlz := (Array.getElem?_eq_some_iff.1 HzW2.out).1
    have f0 := frozen_of_row W2 w.heap.size 0 _ 30 HzW2.out
    have f1 := frozen_of_row W2 w.heap.size 1 _ 30 HzW2.out
    have f2 := frozen_of_row W2 w.heap.size 2 _ 30 HzW2.out
    have f3 := frozen_of_row W2 w.heap.size 3 _ 30 HzW2.out
    have f4 := frozen_of_row W2 w.heap.size 4 _ 30 HzW2.out
    have f5 := frozen_of_row W2 w.heap.size 5 _ 30 HzW2.out
    have f6 := frozen_of_row W2 w.heap.size 6 _ 30 HzW2.out
    have f7 := frozen_of_row W2 w.heap.size 7 _ 30 HzW2.out

    have Hput := Lib.hid (cell_put8 HzW2.out (.slice ad2 n2 cap2) (.bool false) (.int .i64 0) (.int .i64 0) (.int .i64 0) (.int .u64 0) (.int .u64 0) (.bool false))
    go_wp2
    exact bodyPost_ret (v := .tuple #[.agg (lcells (.slice ad2 n2 cap2) false 0 0 0 0 0 false), nilV, .int .i64 2]) (by simp [results, Tryd.results10, go_sem, y0, y1, y2, y3, y4, y5, y6, y7, Hput.out.1, Hput.out.2.1, Hput.out.2.2.1, Hput.out.2.2.2.1, Hput.out.2.2.2.2.1, Hput.out.2.2.2.2.2.1, Hput.out.2.2.2.2.2.2.1, Hput.out.2.2.2.2.2.2.2]) rfl
      ⟨below_put8 HbW2.out (Nat.le_refl _) _ _ _ _ _ _ _ _, .inl ⟨HS1.out, ad2, n2, cap2, rfl⟩⟩
  have HS1 := Lib.hid hs
  have ho : openM ⟨[], false, -1, -1⟩ size = (kl [] [] (-1) (-1) size, [], 0) := open_kk kk_nil hs
  obtain ⟨hs1, hs2⟩ := hs
  refine (open_is (r := (⟨⟨[], false, -1, -1⟩, size, 1, 1, false⟩, [], 0)) ho w1 none 0 0 (DIn.nothing w1 (fu := -1) (fa := -1) (by unfold Num; omega) (by unfold Num; omega)) HT1.out hw1).mono ?_
  rintro e w2 ⟨ad2, n2, cap2, ad3, cap3, rfl, hd2, _, _, hb2⟩
  have HT2 := Lib.hid (HT1.out.under hb2)
  have Hz2 := Lib.hid ((hb2.block _ (Array.getElem?_eq_some_iff.1 Hz1.out).1).trans Hz1.out)
  have Hb2 := Lib.hid (Hb1.out.trans (hb2.mono Hb1.out.size))
  have hI2 : LIn w2 ad2 n2 cap2 ⟨⟨[], false, -1, -1⟩, size, 1, 1, false⟩ := ⟨hd2, s0, s1, by show (0 : Int) ≤ 1; decide, by show (1 : Int) ≤ 18446744073709551615; decide, by show (0 : Int) ≤ 1; decide, by show (1 : Int) ≤ 18446744073709551615; decide⟩
  have HV2 := Lib.hid (LVar.alloc hI2)
  obtain ⟨W2, hW2⟩ : ∃ W, W = w2.alloc (.cells #[.slice ad2 n2 cap2, .bool false, .int .i64 (-1), .int .i64 (-1), .int .i64 size, .int .u64 1, .int .u64 1, .bool false] 30) := ⟨_, rfl⟩
  rw [← hW2] at HV2
  have hbW2 : Below w2.heap.size w2 W2 := by rw [hW2]; exact (Below.refl _ w2).alloc (Nat.le_refl _) _
  have HTW2 := Lib.hid (HT2.out.under hbW2)
  have HzW2 := Lib.hid ((hbW2.block _ (Array.getElem?_eq_some_iff.1 Hz2.out).1).trans Hz2.out)
  have HbW2 := Lib.hid (Hb2.out.trans (hbW2.mono Hb2.out.size))
  have Hq := Lib.hid (show w.heap.size < w2.heap.size from (Array.getElem?_eq_some_iff.1 Hz2.out).1)
  have hw2 : 3 < w2.heap.size := by have := hb2.size; omega
  have hlq := HV2.out.lt
  have Hlq := Lib.hid hlq
  obtain ⟨q, hq⟩ : ∃ q, w2.heap.size = q := ⟨_, rfl⟩
  clear hd2 hb2 hI2 hbW2 HT2 Hb2 HT1 Hb1 Hz2 Hz1
  go_upto_region 2 with (fail)
  rw [← hW2]
  clear hW2
  rw [hq] at HV2 Hq Hlq hlq hw2
  clear hq
  go_wp2
  go_loopw [16, 35] (fun out i wr => ∃ (k : Nat) (fs : List F) (rs : List Rec) (ad : Option Addr) (n cap : Nat) (x : Int), i = .int .i64 (k : Int) ∧ k ≤ ns ∧ KK fs 1 rs ∧ x = ((1 + rs.length : Nat) : Int) ∧ LVar wr q ad n cap ⟨⟨fs, false, -1, -1⟩, size, 1, x, false⟩ ∧
     (fs ≠ [] → (Value.slice ad n cap).ownBlock ≠ some q) ∧ RRow wr W2.heap.size out rs ∧ Below w.heap.size w wr ∧ W2.heap.size ≤ wr.heap.size ∧ wr.heap[w.heap.size]? = some (.cells zlog 30 (0, 0)) ∧ Tabs wr) (fun _ i _ => ns - (intOf i).toNat)
  case atStart => exact ⟨0, [], [], ad2, n2, cap2, 1, rfl, by omega, kk_nil, rfl, HV2.out, fun h => absurd rfl h, ⟨World.ownsRow_nil _ _ _ _, fun _ => rfl⟩, HbW2.out, Nat.le_refl _, HzW2.out, HTW2.out⟩
  case round =>
    obtain ⟨k, fs, rs, ad, n, cap, x, rfl, hk, hkk, hx, hV, hne, hrow, hbel, hsz, hz, hTr⟩ := hrel
    have Hkk := Lib.hid hkk
    have Hx := Lib.hid hx
    have HV := Lib.hid hV
    have Hne := Lib.hid hne
    have Hrow := Lib.hid hrow
    have Hbel := Lib.hid hbel
    have Howr := Lib.hid (fun (b : Nat) (e : u16.ownBlock = some b) => World.ownsRow.lt hrow.1 b e)
    have Hsz := Lib.hid hsz
    have Hz := Lib.hid hz
    have HTr := Lib.hid hTr
    have hx0 : 1 ≤ x ∧ x ≤ 16777217 := by have := kk_bound hkk; omega
    obtain ⟨hx0, hx1⟩ := hx0
    obtain ⟨c0, c1, c2, c3, c4, c5, c6, c7⟩ := box8 hV.b
    have hlqr := hV.lt
    have hwr : 3 < wr.heap.size := by omega
    simp only at c1 c2 c3 c4 c5 c6 c7
    clear hkk hx hV hne hrow hbel hz hTr
    by_cases hlt : k < ns
    · obtain ⟨s, hs⟩ : ∃ s, ss[k]? = some s := ⟨ss[k]'(by have := Hns.out; omega), by simp⟩
      obtain ⟨gs, off, rfl, hgs, hgc⟩ := (HS.out.keep Hbel.out) (by rintro rfl; simp at hs)
      have hg0 := hgc k s hs
      have hgs2 : gs < wr.heap.size := Nat.lt_of_lt_of_le hgs Hbel.out.size
      have hsb := HSb.out s (List.mem_of_getElem? hs)
      clear hgc hs
      obtain ⟨⟨⟨⟨fs2, dn2, fu2, fa2⟩, sz2, fr2, nx2, br2⟩, cd2⟩, hr⟩ : ∃ r, appM ⟨⟨fs, false, -1, -1⟩, size, 1, x, false⟩ s = r := ⟨_, rfl⟩
      have hA : App fs rs (-1) (-1) size s (⟨⟨fs2, dn2, fu2, fa2⟩, sz2, fr2, nx2, br2⟩, cd2) := by
        rw [← hr, Hx.out]; exact app_kk Hkk.out HS1.out (by unfold Num; omega) (by unfold Num; omega)
      have HA := Lib.hid hA
      go_wp2_with fail
      refine (append_is2 hr wr ad n cap ⟨Hkk.out.R, HS1.out, by show (1 : Int) ≤ x; omega, by show x ≤ 4611686018427387904; omega⟩ rfl hsb HV.out.i HTr.out hwr).mono ?_
      clear hr hA
      rintro e w3 ⟨ad4, n4, cap4, rfl, hd3, ho3, hb3⟩
      have HV3 := Lib.hid (HV.out.under hb3)
      have HT3 := Lib.hid (HTr.out.under hb3)
      have Hrow3 := Lib.hid (Hrow.out.under hb3)
      have Hb3 := Lib.hid (Hbel.out.trans (hb3.mono Hbel.out.size))
      have Hb3s := Lib.hid hb3.size
      have Hz3 := Lib.hid ((hb3.block _ (Array.getElem?_eq_some_iff.1 Hz.out).1).trans Hz.out)
      have Hd3 := Lib.hid hd3
      have Ho3 := Lib.hid ho3
      obtain ⟨W3, hW3⟩ : ∃ W, W = w3.alloc (.cells #[.slice ad4 n4 cap4, .bool dn2, .int .i64 fu2, .int .i64 fa2, .int .i64 sz2, .int .u64 fr2, .int .u64 nx2, .bool br2] 30) := ⟨_, rfl⟩
      have hbW3 : Below w3.heap.size w3 W3 := by rw [hW3]; exact (Below.refl _ w3).alloc (Nat.le_refl _) _
      have hk3 : W3.heap[w3.heap.size]? = some (.cells #[.slice ad4 n4 cap4, .bool dn2, .int .i64 fu2, .int .i64 fa2, .int .i64 sz2, .int .u64 fr2, .int .u64 nx2, .bool br2] 30 (0, 0)) := by rw [hW3]; exact blk_new w3 _
      have Hk3 := Lib.hid hk3
      have HbW3 := Lib.hid hbW3
      have HVW := Lib.hid (HV3.out.under hbW3)
      have HTW := Lib.hid (HT3.out.under hbW3)
      have HrowW := Lib.hid (Hrow3.out.under hbW3)
      have HBW := Lib.hid (Hb3.out.trans (hbW3.mono Hb3.out.size))
      have HzW := Lib.hid ((hbW3.block _ (Array.getElem?_eq_some_iff.1 Hz3.out).1).trans Hz3.out)
      clear hd3 ho3 hb3 hbW3 hk3 HV HTr Hrow Hbel Hz HV3 HT3 Hrow3 Hb3 Hz3 c0 c1 c2 c3 c4 c5 c6 c7 hlqr hg0 hgs hgs2
      go_upto_region 9 with (fail)
      rw [← hW3]
      clear hW3
      by_cases hcd : cd2 = 0
      · subst hcd
        obtain ⟨h1, h2, hK2, hr1⟩ := HA.out.ok rfl
        obtain ⟨hf1, hf2⟩ := HA.out.free rfl rfl rfl
        simp only [L.mk.injEq, D.mk.injEq, true_and] at hK2 hr1 hf1 hf2
        obtain ⟨⟨e1, _⟩, e2, e3, e4, e5⟩ := hr1
        subst e1 e3 e5 hf1 hf2
        obtain rfl := e2.symm
        have Hx2 := Lib.hid (show nx2 = ((1 + (rs ++ [(⟨1 + rs.length, s, h1, h2⟩ : Rec)]).length : Nat) : Int) by rw [e4, List.length_append]; rfl)
        have HK2 := Lib.hid hK2
        clear e2 e4 hK2 HA
        have hbX : Below W3.heap.size W3 (W3.alloc (.cells #[.int .u64 x, .string s] 41)) := (Below.refl _ W3).alloc (Nat.le_refl _) _
        have hbx := blk_new W3 (.cells #[.int .u64 x, .string s] 41)
        obtain ⟨X, hX⟩ : ∃ W, W = W3.alloc (.cells #[.int .u64 x, .string s] 41) := ⟨_, rfl⟩
        rw [← hX] at hbX hbx
        have hXs : W2.heap.size ≤ X.heap.size := by have h1 := Hsz.out; have h2 := Hb3s.out; have h3 := HbW3.out.size; have h4 := hbX.size; omega
        obtain ⟨v5, w5, hrun, hrow5, hkap⟩ := app_rec X W2.heap.size W3.heap.size u16 rs ⟨1 + rs.length, s, h1, h2⟩ hXs (HrowW.out.under hbX) (by have := kk_bound Hkk.out; omega) (by simp only; rw [← Hx.out]; exact hbx)
        have hr4 : (Builtin.append_ #[31, 31] 31 #[u16, .slice (some ⟨W3.heap.size, 0, none⟩) 1 1]).run Tryd.prog (W3.alloc (.cells #[.int .u64 x, .string s] 41)) = .ok v5 w5 := by rw [← hX]; exact hrun
        have hown : ∀ b, u16.ownBlock = some b → W2.heap.size ≤ b ∧ b < W3.heap.size ∧ b ≠ w3.heap.size ∧ b < wr.heap.size := fun b e => by have h1 := Howr.out b e; have h2 := Hb3s.out; have h3 := HbW3.out.size; omega
        have Hk5 := Lib.hid ((hkap.g.block _ (Nat.lt_of_lt_of_le (Array.getElem?_eq_some_iff.1 Hk3.out).1 hbX.size) (fun e => (hown _ e.symm).2.2.1 rfl)).trans ((hbX.block _ (Array.getElem?_eq_some_iff.1 Hk3.out).1).trans Hk3.out))
        have HVX := HVW.out.under hbX
        have hqX : q < X.heap.size := HVX.lt
        have Hq5 := Lib.hid ((hkap.g.block _ hqX (fun e => by have := (hown _ e.symm).1; have := Hlq.out; omega)).trans HVX.b)
        have hzX := (hbX.block _ (Array.getElem?_eq_some_iff.1 HzW.out).1).trans HzW.out
        have Hz5 := Lib.hid ((hkap.g.block _ (Array.getElem?_eq_some_iff.1 hzX).1 (fun e => by have := (hown _ e.symm).1; have := Hlq.out; have := Hq.out; omega)).trans hzX)
        have Hrow5 := Lib.hid hrow5
        have HT5 := Lib.hid ((HTW.out.under hbX).other hkap.g (by omega) (fun b e => by have := (hown b e).1; have := Hlq.out; omega))
        have HB5 := Lib.hid ((HBW.out.trans (hbX.mono HBW.out.size)).grown hkap.g (by have h1 := HBW.out.size; have h2 := hbX.size; omega) (fun b e => by have := (hown b e).1; have := Hlq.out; have := Hq.out; omega))
        have hd5 : DIn w5 ad4 n4 cap4 (-1) (-1) fs2 := ((Hd3.out.under HbW3.out).under hbX).grown hkap.g (fun b e e2 => by have h1 := (hown b e2).2.2.2; have h2 := Ho3.out b e; omega)
        have hI5 : LIn w5 ad4 n4 cap4 ⟨⟨fs2, false, -1, -1⟩, size, 1, nx2, false⟩ := ⟨hd5, by show -9223372036854775808 ≤ size; omega, by show size ≤ 9223372036854775807; omega, by show (0 : Int) ≤ 1; decide, by show (1 : Int) ≤ 18446744073709551615; decide, by show 0 ≤ nx2; have := Hx2.out; omega, by show nx2 ≤ 18446744073709551615; have := Hx2.out; have := kk_bound HK2.out; omega⟩
        have hne5 : (Value.slice ad4 n4 cap4).ownBlock ≠ some q := fun e => by have h2 := Ho3.out _ e; have h3 := Hlq.out; have h4 := Hsz.out; omega
        have HV6 := Lib.hid (LVar.put Hq5.out hI5 (fun _ => hne5))
        have Hne5 := Lib.hid (show fs2 ≠ [] → (Value.slice ad4 n4 cap4).ownBlock ≠ some q from fun _ => hne5)
        have Hs5 := Lib.hid hkap.g.size
        have HXs := Lib.hid hXs
        clear hbX hbx hX hXs hrun hrow5 hkap hown HVX hqX hzX hd5 hI5 hne5
        obtain ⟨e0, e1, e2, e3, e4, e5, e6, e7⟩ := box8 Hk5.out
        have hlk := (Array.getElem?_eq_some_iff.1 Hk5.out).1
        obtain ⟨d0, d1, d2, d3, d4, d5, d6, d7⟩ := box8 Hq5.out
        have hlq5 := (Array.getElem?_eq_some_iff.1 Hq5.out).1
        have f0 := frozen_of_row w5 q 0 _ 30 Hq5.out
        have f1 := frozen_of_row w5 q 1 _ 30 Hq5.out
        have f2 := frozen_of_row w5 q 2 _ 30 Hq5.out
        have f3 := frozen_of_row w5 q 3 _ 30 Hq5.out
        have f4 := frozen_of_row w5 q 4 _ 30 Hq5.out
        have f5 := frozen_of_row w5 q 5 _ 30 Hq5.out
        have f6 := frozen_of_row w5 q 6 _ 30 Hq5.out
        have f7 := frozen_of_row w5 q 7 _ 30 Hq5.out

        obtain ⟨c0, c1, c2, c3, c4, c5, c6, c7⟩ := box8 HVW.out.b
        simp only at c1 c2 c3 c4 c5 c6 c7
        have hlqW := HVW.out.lt
        go_wp2_with (at_builtin; refine wp_app rfl (.tmp 47) (.tmp 52) u16 (.slice (some ⟨W3.heap.size, 0, none⟩) 1 1) (by rfl) (by rfl) rfl hr4 ?_)
        clear hr4 c0 c1 c2 c3 c4 c5 c6 c7 hlqW
        go_wp2
        clear e0 e1 e2 e3 e4 e5 e6 e7 d0 d1 d2 d3 d4 d5 d6 d7 f0 f1 f2 f3 f4 f5 f6 f7
        go_roundw
        case rel =>
          have hg6 := put8_grown w5 q (.slice ad4 n4 cap4) (.bool false) (.int .i64 (-1)) (.int .i64 (-1)) (.int .i64 size) (.int .u64 1) (.int .u64 nx2) (.bool false)
          exact ⟨k + 1, fs2, _, ad4, n4, cap4, nx2, by go_num, by omega, HK2.out, Hx2.out, HV6.out, Hne5.out, Hrow5.out.other hg6 (Hrow5.out.not_blk Hq5.out (by decide)), kd_to_below HB5.out hg6 (by have := Hq.out; omega) HB5.out.size, by have h1 := hg6.size; have h2 := Hs5.out; have h3 := HXs.out; omega, (hg6.block _ (Array.getElem?_eq_some_iff.1 Hz5.out).1 (fun e => by injection e with e; have := Hq.out; omega)).trans Hz5.out, HT5.out.other hg6 (by have h2 := Hs5.out; have h3 := HXs.out; have h4 := Hlq.out; omega) (fun b e => by injection e with e; omega)⟩
        case measure => simp [intOf]; omega
      · have hc1 : (cd2 != 0) = true := by simp [hcd]
        clear hcd
        go_wp2
        go_roundw
        case rel => exact ⟨k + 1, fs, rs, ad, n, cap, x, by go_num, by omega, Hkk.out, Hx.out, HVW.out, Hne.out, HrowW.out, HBW.out, by have h1 := HbW3.out.size; have h2 := Hb3s.out; omega, HzW.out, HTW.out⟩
        case measure => simp [intOf]; omega
    · skip
      have hkn : k = ns := by omega
      clear hkn HS Hns HSb
      have HF7 := Lib.hid (HV.out.fz Hne.out Hfu.out Hfa.out)
      obtain ⟨W7, hW7⟩ : ∃ W, W = (wr.setCell ⟨q, 2, none⟩ (.int .i64 fuse)).setCell ⟨q, 3, none⟩ (.int .i64 fault) := ⟨_, rfl⟩
      rw [← hW7] at HF7
      have hg7 : wr.grownBy W7 (some q) := by rw [hW7]; exact kd_set (kd_set (kd_refl q wr) _) _
      have Hrow7 := Lib.hid (Hrow.out.other hg7 (Hrow.out.not_blk HV.out.b (by decide)))
      have HT7 := Lib.hid (HTr.out.other hg7 (by omega) (fun b e => by injection e with e; omega))
      have HB7 := Lib.hid (kd_to_below Hbel.out hg7 (by have := Hq.out; omega) Hbel.out.size)
      have HZ7 := Lib.hid ((hg7.block _ (Array.getElem?_eq_some_iff.1 Hz.out).1 (fun e => by injection e with e; have := Hq.out; omega)).trans Hz.out)
      have Hs7 := Lib.hid hg7.size
      have hw7 : 3 < W7.heap.size := by have := hg7.size; omega
      have f2 := frozen_of_row wr q 2 _ 30 HV.out.b
      have f3 := frozen_of_row wr q 3 _ 30 HV.out.b
      clear hg7
      go_upto_region 14 with (fail)
      rw [← hW7]
      clear hW7 c0 c1 c2 c3 c4 c5 c6 c7 f2 f3 HV Hrow HTr Hbel Hz Hne
      obtain ⟨c0, c1, c2, c3, c4, c5, c6, c7⟩ := box8 HF7.out.b
      have hl7 := HF7.out.lt
      simp only at c1 c2 c3 c4 c5 c6 c7
      obtain ⟨⟨⟨⟨fs2, dn2, fu2, fa2⟩, sz2, fr2, nx2, br2⟩, cd2⟩, hr⟩ : ∃ r, appM ⟨⟨fs, false, fuse, fault⟩, size, 1, x, false⟩ last = r := ⟨_, rfl⟩
      have Hr := Lib.hid (show appM (kl fs rs fuse fault size) last = (⟨⟨fs2, dn2, fu2, fa2⟩, sz2, fr2, nx2, br2⟩, cd2) from by rw [← hr, Hx.out])
      go_wp2_with fail
      refine (append_is2 hr W7 ad n cap ⟨Hkk.out.R, HS1.out, by show (1 : Int) ≤ x; omega, by show x ≤ 4611686018427387904; omega⟩ rfl hlast HF7.out.i HT7.out hw7).mono ?_
      clear hr
      rintro e w8 ⟨ad8, n8, cap8, rfl, hd8, ho8, hb8⟩
      have hq8 := (hb8.block _ HF7.out.lt).trans HF7.out.b
      have Ho8 := Lib.hid ho8
      have hne8 : (Value.slice ad8 n8 cap8).ownBlock ≠ some q := fun e => by have h2 := ho8 _ e; omega
      obtain ⟨W8, hW8⟩ : ∃ W, W = (((((((w8.setCell ⟨q, 0, none⟩ (.slice ad8 n8 cap8)).setCell ⟨q, 1, none⟩ (.bool dn2)).setCell ⟨q, 2, none⟩ (.int .i64 fu2)).setCell ⟨q, 3, none⟩ (.int .i64 fa2)).setCell ⟨q, 4, none⟩ (.int .i64 sz2)).setCell ⟨q, 5, none⟩ (.int .u64 fr2)).setCell ⟨q, 6, none⟩ (.int .u64 nx2)).setCell ⟨q, 7, none⟩ (.bool br2) := ⟨_, rfl⟩
      have hg8 : w8.grownBy W8 (some q) := by rw [hW8]; exact put8_grown w8 q _ _ _ _ _ _ _ _
      have HQ8 := Lib.hid (show W8.heap[q]? = some (.cells #[.slice ad8 n8 cap8, .bool dn2, .int .i64 fu2, .int .i64 fa2, .int .i64 sz2, .int .u64 fr2, .int .u64 nx2, .bool br2] 30 (0, 0)) from by rw [hW8]; exact blk_put8 hq8 _ _ _ _ _ _ _ _)
      have HD8 := Lib.hid (show DIn W8 ad8 n8 cap8 fu2 fa2 fs2 from by rw [hW8]; exact hd8.put8 hne8 _ _ _ _ _ _ _ _)
      have hrow8 := Hrow7.out.under hb8
      have Hrow8 := Lib.hid (hrow8.other hg8 (hrow8.not_blk hq8 (by decide)))
      have hz8 := (hb8.block _ (Array.getElem?_eq_some_iff.1 HZ7.out).1).trans HZ7.out
      have HZ8 := Lib.hid ((hg8.block _ (Array.getElem?_eq_some_iff.1 hz8).1 (fun e => by injection e with e; have := Hq.out; omega)).trans hz8)
      have hB8 := HB7.out.trans (hb8.mono HB7.out.size)
      have HB8 := Lib.hid (kd_to_below hB8 hg8 (by have := Hq.out; omega) hB8.size)
      have Hs8 := Lib.hid (show W7.heap.size ≤ W8.heap.size from by have h1 := hb8.size; have h2 := hg8.size; omega)
      have Hw8 := Lib.hid hW8
      obtain ⟨d0, d1, d2, d3, d4, d5, d6, d7⟩ := box8 hq8
      have hlq8 := (Array.getElem?_eq_some_iff.1 hq8).1
      have f0 := frozen_of_row w8 q 0 _ 30 hq8
      have f1 := frozen_of_row w8 q 1 _ 30 hq8
      have f2 := frozen_of_row w8 q 2 _ 30 hq8
      have f3 := frozen_of_row w8 q 3 _ 30 hq8
      have f4 := frozen_of_row w8 q 4 _ 30 hq8
      have f5 := frozen_of_row w8 q 5 _ 30 hq8
      have f6 := frozen_of_row w8 q 6 _ 30 hq8
      have f7 := frozen_of_row w8 q 7 _ 30 hq8

      clear hd8 ho8 hb8 hne8 hg8 hrow8 hz8 hB8 hW8 hq8 c0 c1 c2 c3 c4 c5 c6 c7 hl7
      go_upto_region 16 with (fail)
      rw [← Hw8.out]
      clear Hw8 d0 d1 d2 d3 d4 d5 d6 d7 hlq8 f0 f1 f2 f3 f4 f5 f6 f7
      have hA : App fs rs fuse fault size last (⟨⟨fs2, dn2, fu2, fa2⟩, sz2, fr2, nx2, br2⟩, cd2) := by
        rw [← Hr.out]; exact app_kk Hkk.out HS1.out Hfu.out Hfa.out
      by_cases hcd : cd2 = 0
      · subst hcd
        obtain ⟨h1, h2, _⟩ := hA.ok rfl
        clear hA
        have hbX : Below W8.heap.size W8 (W8.alloc (.cells #[.int .u64 x, .string last] 41)) := (Below.refl _ W8).alloc (Nat.le_refl _) _
        have hbx := blk_new W8 (.cells #[.int .u64 x, .string last] 41)
        obtain ⟨X, hX⟩ : ∃ W, W = W8.alloc (.cells #[.int .u64 x, .string last] 41) := ⟨_, rfl⟩
        rw [← hX] at hbX hbx
        have hXs : W2.heap.size ≤ X.heap.size := by have h1 := Hsz.out; have h2 := Hs7.out; have h3 := Hs8.out; have h4 := hbX.size; omega
        obtain ⟨v9, w9, hrun, hrow9, hkap⟩ := app_rec X W2.heap.size W8.heap.size u16 rs ⟨1 + rs.length, last, h1, h2⟩ hXs (Hrow8.out.under hbX) (by have := kk_bound Hkk.out; omega) (by simp only; rw [← Hx.out]; exact hbx)
        have hr4 : (Builtin.append_ #[31, 31] 31 #[u16, .slice (some ⟨W8.heap.size, 0, none⟩) 1 1]).run Tryd.prog (W8.alloc (.cells #[.int .u64 x, .string last] 41)) = .ok v9 w9 := by rw [← hX]; exact hrun
        have hown : ∀ b, u16.ownBlock = some b → W2.heap.size ≤ b ∧ b < wr.heap.size := fun b e => Howr.out b e
        have hqX := (hbX.block _ (Array.getElem?_eq_some_iff.1 HQ8.out).1).trans HQ8.out
        have HQ9 := Lib.hid ((hkap.g.block _ (Array.getElem?_eq_some_iff.1 hqX).1 (fun e => by have := (hown _ e.symm).1; have := Hlq.out; omega)).trans hqX)
        have hzX := (hbX.block _ (Array.getElem?_eq_some_iff.1 HZ8.out).1).trans HZ8.out
        have HZ9 := Lib.hid ((hkap.g.block _ (Array.getElem?_eq_some_iff.1 hzX).1 (fun e => by have := (hown _ e.symm).1; have := Hlq.out; have := Hq.out; omega)).trans hzX)
        have Hrow9 := Lib.hid hrow9
        have HB9 := Lib.hid ((HB8.out.trans (hbX.mono HB8.out.size)).grown hkap.g (by have h1 := HB8.out.size; have h2 := hbX.size; omega) (fun b e => by have := (hown b e).1; have := Hlq.out; have := Hq.out; omega))
        have HD9 := Lib.hid ((HD8.out.under hbX).grown hkap.g (fun b e e2 => by have h1 := (hown b e2).2; have h2 := Ho8.out b e; have h3 := Hs7.out; omega))
        have H1 := Lib.hid h1
        clear hbX hbx hX hXs hrun hrow9 hkap hown hqX hzX
        obtain ⟨c0, c1, c2, c3, c4, c5, c6, c7⟩ := box8 HQ9.out
        have hlc := (Array.getElem?_eq_some_iff.1 HQ9.out).1
        obtain ⟨y0, y1, y2, y3, y4, y5, y6, y7⟩ := box8 HZ9.out
        have hlz := (Array.getElem?_eq_some_iff.1 HZ9.out).1
        have f0 := frozen_of_row w9 w.heap.size 0 _ 30 HZ9.out
        have f1 := frozen_of_row w9 w.heap.size 1 _ 30 HZ9.out
        have f2 := frozen_of_row w9 w.heap.size 2 _ 30 HZ9.out
        have f3 := frozen_of_row w9 w.heap.size 3 _ 30 HZ9.out
        have f4 := frozen_of_row w9 w.heap.size 4 _ 30 HZ9.out
        have f5 := frozen_of_row w9 w.heap.size 5 _ 30 HZ9.out
        have f6 := frozen_of_row w9 w.heap.size 6 _ 30 HZ9.out
        have f7 := frozen_of_row w9 w.heap.size 7 _ 30 HZ9.out

        have Hput := Lib.hid (cell_put8 HZ9.out (.slice ad8 n8 cap8) (.bool dn2) (.int .i64 fu2) (.int .i64 fa2) (.int .i64 sz2) (.int .u64 fr2) (.int .u64 nx2) (.bool br2))
        go_wp2_with (at_builtin; refine wp_app rfl (.tmp 72) (.tmp 76) u16 (.slice (some ⟨W8.heap.size, 0, none⟩) 1 1) (by rfl) (by rfl) rfl hr4 ?_)
        exact bodyPost_ret (v := .tuple #[.agg (lcells (.slice ad8 n8 cap8) dn2 fu2 fa2 sz2 fr2 nx2 br2), v9, .int .i64 0]) (by simp [results, Tryd.results10, go_sem, y0, y1, y2, y3, y4, y5, y6, y7, Hput.out.1, Hput.out.2.1, Hput.out.2.2.1, Hput.out.2.2.2.1, Hput.out.2.2.2.2.1, Hput.out.2.2.2.2.2.1, Hput.out.2.2.2.2.2.2.1, Hput.out.2.2.2.2.2.2.2]) rfl
          ⟨below_put8 HB9.out (Nat.le_refl _) _ _ _ _ _ _ _ _, .inr ⟨HS1.out, fs, rs, _, ad8, n8, cap8, v9, Hkk.out, by rw [Hr.out]; exact .inr ⟨rfl, H1.out, h2, rfl⟩, by rw [Hr.out], by rw [Hr.out]; exact HD9.out.put8 (fun e => by have h1 := Ho8.out _ e; have h2 := Hs7.out; have h3 := Hlq.out; have h4 := Hq.out; have h5 := Hsz.out; omega) _ _ _ _ _ _ _ _, ⟨ownsRow_base ((Hrow9.out.other (put8_grown w9 w.heap.size _ _ _ _ _ _ _ _) (Hrow9.out.not_blk HZ9.out (by decide))).1) (by have := Hlq.out; have := Hq.out; omega), (Hrow9.out).2⟩⟩⟩

      · have hc1 : (cd2 == 0) = false := by simp [hcd]
        have Hcd := Lib.hid hcd
        clear hcd hA
        obtain ⟨c0, c1, c2, c3, c4, c5, c6, c7⟩ := box8 HQ8.out
        have hlc := (Array.getElem?_eq_some_iff.1 HQ8.out).1
        obtain ⟨y0, y1, y2, y3, y4, y5, y6, y7⟩ := box8 HZ8.out
        have hlz := (Array.getElem?_eq_some_iff.1 HZ8.out).1
        have f0 := frozen_of_row W8 w.heap.size 0 _ 30 HZ8.out
        have f1 := frozen_of_row W8 w.heap.size 1 _ 30 HZ8.out
        have f2 := frozen_of_row W8 w.heap.size 2 _ 30 HZ8.out
        have f3 := frozen_of_row W8 w.heap.size 3 _ 30 HZ8.out
        have f4 := frozen_of_row W8 w.heap.size 4 _ 30 HZ8.out
        have f5 := frozen_of_row W8 w.heap.size 5 _ 30 HZ8.out
        have f6 := frozen_of_row W8 w.heap.size 6 _ 30 HZ8.out
        have f7 := frozen_of_row W8 w.heap.size 7 _ 30 HZ8.out

        have Hput := Lib.hid (cell_put8 HZ8.out (.slice ad8 n8 cap8) (.bool dn2) (.int .i64 fu2) (.int .i64 fa2) (.int .i64 sz2) (.int .u64 fr2) (.int .u64 nx2) (.bool br2))
        go_wp2
        exact bodyPost_ret (v := .tuple #[.agg (lcells (.slice ad8 n8 cap8) dn2 fu2 fa2 sz2 fr2 nx2 br2), u16, .int .i64 cd2]) (by simp [results, Tryd.results10, go_sem, y0, y1, y2, y3, y4, y5, y6, y7, Hput.out.1, Hput.out.2.1, Hput.out.2.2.1, Hput.out.2.2.2.1, Hput.out.2.2.2.2.1, Hput.out.2.2.2.2.2.1, Hput.out.2.2.2.2.2.2.1, Hput.out.2.2.2.2.2.2.2]) rfl
          ⟨below_put8 HB8.out (Nat.le_refl _) _ _ _ _ _ _ _ _, .inr ⟨HS1.out, fs, rs, rs, ad8, n8, cap8, u16, Hkk.out, by rw [Hr.out]; exact .inl ⟨Hcd.out, rfl⟩, by rw [Hr.out], by rw [Hr.out]; exact HD8.out.put8 (fun e => by have h1 := Ho8.out _ e; have h2 := Hs7.out; have h3 := Hlq.out; have h4 := Hq.out; have h5 := Hsz.out; omega) _ _ _ _ _ _ _ _, ⟨ownsRow_base ((Hrow8.out.other (put8_grown W8 w.heap.size _ _ _ _ _ _ _ _) (Hrow8.out.not_blk HZ8.out (by decide))).1) (by have := Hlq.out; have := Hq.out; omega), (Hrow8.out).2⟩⟩⟩
end Go.Proofs.YtcefhcailhediaaDoor

/- SEGMENT, MATHEMATICS: what was opened, opened again. -/
namespace Go.Proofs.YtcefhcailhediaaDoor
open Go.RowKit
set_option maxRecDepth 100000
set_option linter.unusedVariables false
set_option linter.unusedSimpArgs false
theorem rdF_count {fs : List F} (hR : Right fs) : (rdF fs).rs.length ≤ 16777216 := by
  have h1 := rdM_count (filesM fs) (fromM (filesM fs)) (fun s hs => (hR.ok _ (filesM_mem hs).1).2.1)
  have h2 := filesM_len fs
  have h3 := hR.1
  show (rdM _ _).rs.length ≤ _
  omega
theorem rdF_len (fs : List F) : (rdF fs).nx = fromM (filesM fs) + (rdF fs).rs.length := rdM_len _ _
theorem rdF_bd (fs : List F) : (rdF fs).nx ≤ 4611686018427387904 := rdM_bd _ _ (fromM_bd _)
theorem rdF_seq {fs : List F} {i : Nat} {r : Rec} (h : (rdF fs).rs[i]? = some r) : r.seq = fromM (filesM fs) + i := rdM_seq _ _ i r h
theorem openM_err {d : D} {size : Int} {l : L} {rs : List Rec} {c : Int} (h : openM d size = (l, rs, c)) (hc : c ≠ 0) : rs = [] := by
  unfold openM at h
  split at h
  · injection h with _ h; injection h with h _; exact h.symm
  split at h
  · injection h with _ h; injection h with h _; exact h.symm
  split at h
  · injection h with _ h; injection h with h _; exact h.symm
  split at h
  · injection h with _ h; injection h with _ h; exact absurd h.symm hc
  · injection h with _ h; injection h with h _; exact h.symm
/-- what an opening that was OK left -/
structure Opened (l : L) (rs : List Rec) (size : Int) : Prop where
  again : openM l.d size = (l, rs, 0)
  R : LRight l
  br : l.broken = false
  dn : l.d.down = false
  rd : (rdF l.d.files).rs = rs
  len : rs.length ≤ 16777216
  sz : l.size = size
  md : mendM l.d.files = []
  seq : ∃ n : Nat, l.fr = (n : Int) ∧ l.nx = ((n + rs.length : Nat) : Int) ∧ n + rs.length ≤ 4611686018427387904 ∧ ∀ i r, rs[i]? = some r → r.seq = n + i
theorem opened {d : D} {size : Int} {l : L} {rs : List Rec} (h : openM d size = (l, rs, 0)) : Opened l rs size := by
  have hR : Right d.files := Classical.byContradiction fun hn => by
    unfold openM at h; rw [if_pos hn] at h; injection h with _ h; injection h with _ h; cases h
  have hs : 1 ≤ size ∧ size ≤ 262144 := Classical.byContradiction fun hn => by
    unfold openM at h; rw [if_neg (fun q => q hR), if_pos hn] at h; injection h with _ h; injection h with _ h; cases h
  have hd : d.down = false := by
    cases e : d.down with
    | false => rfl
    | true => unfold openM at h; rw [if_neg (fun q => q hR), if_neg (fun q => q hs), if_pos e] at h; injection h with _ h; injection h with _ h; cases h
  obtain ⟨r, _, hM, ho⟩ := open_ok hR hs hd
  rw [h] at ho
  by_cases hc : r.2 = 0
  · rw [if_pos hc] at ho
    obtain ⟨m1, m2, m3, m4⟩ := hM.ok hc
    have e1 := congrArg Prod.fst ho
    have e2 : rs = (rdF d.files).rs := congrArg (fun x => x.2.1) ho
    simp only at e1
    have hsz := hM.sz
    obtain ⟨⟨⟨gs, dn, fu, fa⟩, sz, fr, nx, br⟩, c⟩ := r
    simp only at m1 m2 m3 m4 hsz e1
    have q1 := hM.R
    have q2 := hM.rs
    have q3 := hM.nx
    have q4 := hM.fm
    simp only at q1 q2 q3 q4
    subst e1 m2 m3 hsz e2
    have hlen := rdF_len d.files
    have hbd := rdF_bd d.files
    refine ⟨?_, ⟨q1, hs, ?_, ?_⟩, rfl, rfl, q2, rdF_count hR, rfl, m1, ⟨fromM (filesM d.files), rfl, ?_, by omega, fun i r hi => rdF_seq hi⟩⟩
    · unfold openM
      rw [if_neg (fun q => q q1), if_neg (fun q => q hs), if_neg (by simp)]
      simp only [m1, doS, if_pos, q2, q3, q4]
    · show (fromM (filesM d.files) : Int) ≤ ((rdF d.files).nx : Int)
      omega
    · show ((rdF d.files).nx : Int) ≤ 4611686018427387904
      omega
    · show ((rdF d.files).nx : Int) = _
      rw [hlen]
  · rw [if_neg hc] at ho
    exact absurd (congrArg (fun x => x.2.2) ho).symm hc
end Go.Proofs.YtcefhcailhediaaDoor

/- SEGMENT: THE WALK OVER SegmentKeeps. -/
namespace Go.Proofs.YtcefhcailhediaaDoor
open Go.RowKit
set_option maxRecDepth 100000
set_option linter.unusedVariables false
set_option linter.unusedSimpArgs false
theorem crash_is (w : World) (ad : Option Addr) (n cap : Nat) (down : Bool) (fuse fault : Int) (fs : List F) (h : DIn w ad n cap fuse fault fs) (hR : Right fs) (adk : Option Addr) (nk capk : Nat) (ks : List Int) (hk : Ints w w.heap.size adk ks) (hnk : nk = ks.length) (hnk63 : nk ≤ 9223372036854775807) :
    Calls Tryd.prog 11 #[.agg (dcells (.slice ad n cap) down fuse fault), .slice adk nk capk] w fun e w' => ∃ ad2 n2 cap2, e = .returned (.tuple #[.agg (dcells (.slice ad2 n2 cap2) false (-1) (-1)), .int .i64 0]) ∧ DIn w' ad2 n2 cap2 (-1) (-1) (crashL ks fs) ∧ Below w.heap.size w w' := by
  have h1 := Crash_any w ad n cap down fuse fault fs h adk nk capk ks hk hnk hnk63
  rw [crv_right (d := ⟨fs, down, fuse, fault⟩) hR] at h1
  exact h1.mono fun e w' ⟨ad2, n2, cap2, he, hi, hb, _⟩ => ⟨ad2, n2, cap2, he, ⟨hi, fun f hf => okF_fit ((right_crash hR ks).ok f hf), by omega, by omega, by omega, by omega⟩, hb⟩
theorem RAt.pre {w : World} {B : Nat} {ad : Option Addr} {rs a : List Rec} (h : RAt w B ad rs) (hp : ∃ b, rs = a ++ b) : RAt w B ad a := fun hne => by
  obtain ⟨b, rfl⟩ := hp
  obtain ⟨g, off, e, hg, hc⟩ := h (by simp [hne])
  exact ⟨g, off, e, hg, fun i r hi => hc i r (by rw [List.getElem?_append_left (List.getElem?_eq_some_iff.1 hi).1]; exact hi)⟩
theorem kk_seq {fs : List F} {rs : List Rec} (h : KK fs 1 rs) {i : Nat} {r : Rec} (hi : rs[i]? = some r) : (r.seq : Int) = (i : Int) + 1 := by
  have := rdM_seq (filesM fs) 1 i r (by rw [h.rd]; exact hi)
  omega

set_option maxHeartbeats 4000000 in
theorem keeps_any (w : World) (size : Int) (ads : Option Addr) (ns caps : Nat) (ss : List ByteArray) (last : ByteArray) (fuse fault : Int) (adk : Option Addr) (nk capk : Nat) (ks : List Int) (hT : Tabs w) (hw : 3 < w.heap.size)
    (hsz : Num size) (hfu : Num fuse) (hfa : Num fault) (hlast : last.size ≤ 9223372036854775807) (hns : ns = ss.length) (hnb : ns ≤ 9223372036854775807) (hS : Strs w w.heap.size ads ss) (hSb : ∀ s ∈ ss, s.size ≤ 9223372036854775807)
    (hk : Ints w w.heap.size adk ks) (hnk : nk = ks.length) (hnk63 : nk ≤ 9223372036854775807) :
    Calls Tryd.prog 3 #[.int .i64 size, .slice ads ns caps, .string last, .int .i64 fuse, .int .i64 fault, .slice adk nk capk] w fun e w' => e = .returned (.bool true) ∧ Below w.heap.size w w' := by
  have HT := Lib.hid hT
  have HS := Lib.hid hS
  have HSb := Lib.hid hSb
  have Hns := Lib.hid hns
  have Hnk := Lib.hid hnk
  have HK := Lib.hid hk
  have Hsz := Lib.hid hsz
  have Hfu := Lib.hid hfu
  have Hfa := Lib.hid hfa
  obtain ⟨s0, s1⟩ := hsz
  clear hT hS hSb hns hfu hfa hk hnk
  go_enter Tryd.func3, Tryd.ntmps3
  go_wp2_with fail
  refine (slives_any w HT.out hw).mono ?_
  rintro e w1 ⟨rfl, hb1⟩
  have HT1 := Lib.hid (HT.out.under hb1)
  have Hb1 := Lib.hid hb1
  have hw1 : 3 < w1.heap.size := by have := hb1.size; omega
  clear hb1 HT
  go_wp2_with fail
  refine (kept_any w1 size ads ns caps ss last fuse fault HT1.out hw1 Hsz.out Hfu.out Hfa.out hlast Hns.out hnb ?hs HSb.out).mono ?_
  case hs => exact fun hne => by obtain ⟨g, off, e, hg, hi⟩ := (HS.out.keep Hb1.out) hne; exact ⟨g, off, e, Nat.lt_of_lt_of_le hg Hb1.out.size, hi⟩
  rintro e w2 ⟨hb2, ⟨hno, ad2, n2, cap2, rfl⟩ | ⟨hs, fs, rs, want, ad2, n2, cap2, v, hkk, hwant, rfl, hd2, hrow⟩⟩
  · have Hb2 := Lib.hid (Hb1.out.trans (hb2.mono Hb1.out.size))
    have hfin : Below w.heap.size w (w2.alloc (.cells #[.slice ad2 n2 cap2, .bool false, .int .i64 0, .int .i64 0, .int .i64 0, .int .u64 0, .int .u64 0, .bool false] 30)) := Hb2.out.alloc Hb2.out.size _
    have Hfin := Lib.hid hfin
    clear hb2 hfin
    by_cases h1 : size < 1
    · clear hno
      go_wp2
      go_ret
      exact ⟨rfl, Hfin.out⟩
    · have h2 : 262144 < size := by omega
      clear hno
      go_wp2
      go_ret
      exact ⟨rfl, Hfin.out⟩
  have hA : App fs rs fuse fault size last (appM (kl fs rs fuse fault size) last) := app_kk hkk hs Hfu.out Hfa.out
  obtain ⟨⟨⟨⟨fs2, dn2, fu2, fa2⟩, sz2, fr2, nx2, br2⟩, cd2⟩, hr⟩ : ∃ r, appM (kl fs rs fuse fault size) last = r := ⟨_, rfl⟩
  rw [hr] at hwant hd2 hA ⊢
  obtain ⟨fs3, rs3, hkk3, hop, hcase⟩ := aft_open hA.aft ks hs
  have hpre : ∃ b, rs3 = want ++ b := by
    rcases hwant with ⟨h1, rfl⟩ | ⟨h1, h2, h3, rfl⟩
    · rcases hcase with ⟨_, rfl⟩ | ⟨h4, h5, rfl⟩
      · exact ⟨[], by simp⟩
      · exact ⟨_, rfl⟩
    · rcases hcase with ⟨h4, _⟩ | ⟨h4, h5, rfl⟩
      · exact absurd h1 h4
      · exact ⟨[], by simp⟩
  obtain ⟨adv, capv, rfl, hatv, _⟩ := hrow.form
  obtain ⟨N, hN⟩ : ∃ N, rs3.length = N := ⟨_, rfl⟩
  obtain ⟨M, hM⟩ : ∃ M, want.length = M := ⟨_, rfl⟩
  have hMN : M ≤ N := by obtain ⟨b, e⟩ := hpre; rw [← hN, ← hM, e, List.length_append]; omega
  have hNb : N ≤ 16777216 := by rw [← hN]; exact kk_bound hkk3
  have hop2 : openM ⟨crashL ks fs2, false, -1, -1⟩ size = (⟨⟨fs3, false, -1, -1⟩, size, 1, (N : Int) + 1, false⟩, rs3, 0) := by
    rw [hop]
    simp only [kl, Prod.mk.injEq, L.mk.injEq, true_and, and_true]
    rw [← hN]; omega
  rw [hM]
  have Hop := Lib.hid hop2
  have Hkk3 := Lib.hid hkk3
  have Hpre := Lib.hid hpre
  have HM := Lib.hid hM
  have HN := Lib.hid hN
  have HR2 := Lib.hid (show Right fs2 from hA.R)
  have Hhs := Lib.hid hs
  have hs1 : ¬ size < 1 := by omega
  have hs2 : ¬ 262144 < size := by omega
  have HT2 := Lib.hid (HT1.out.under hb2)
  have Hd2 := Lib.hid hd2
  have Hatv := Lib.hid hatv
  have HK1 := Lib.hid (HK.out.keep Hb1.out)
  have Hb2 := Lib.hid (Hb1.out.trans (hb2.mono Hb1.out.size))
  clear hr hwant hd2 hA hkk3 hop hop2 hcase hpre hM hN hb2 hrow hatv hs hkk
  obtain ⟨W2, hW2⟩ : ∃ W, W = w2.alloc (.cells #[.slice ad2 n2 cap2, .bool dn2, .int .i64 fu2, .int .i64 fa2, .int .i64 sz2, .int .u64 fr2, .int .u64 nx2, .bool br2] 30) := ⟨_, rfl⟩
  have hbW : Below w2.heap.size w2 W2 := by rw [hW2]; exact (Below.refl _ w2).alloc (Nat.le_refl _) _
  have HQ2 := Lib.hid (show W2.heap[w2.heap.size]? = some (.cells #[.slice ad2 n2 cap2, .bool dn2, .int .i64 fu2, .int .i64 fa2, .int .i64 sz2, .int .u64 fr2, .int .u64 nx2, .bool br2] 30 (0, 0)) from by rw [hW2]; exact blk_new w2 _)
  have HTW := Lib.hid (HT2.out.under hbW)
  have HdW := Lib.hid (Hd2.out.under hbW)
  have HatW := Lib.hid (Hatv.out.under hbW)
  have HbW := Lib.hid (Hb2.out.trans (hbW.mono Hb2.out.size))
  clear hbW HT2 Hd2 Hatv Hb2
  go_upto_region 4 with (fail)
  rw [← hW2]
  clear hW2
  obtain ⟨c0, c1, c2, c3, c4, c5, c6, c7⟩ := box8 HQ2.out
  have hlc := (Array.getElem?_eq_some_iff.1 HQ2.out).1
  go_wp2_with fail
  refine (crash_is W2 ad2 n2 cap2 dn2 fu2 fa2 fs2 HdW.out HR2.out adk nk capk ks ?hk Hnk.out hnk63).mono ?_
  case hk => exact ⟨HK.out.1, fun hne => by obtain ⟨g, off, e, hg, hi⟩ := (HK.out.keep HbW.out).2 hne; exact ⟨g, off, e, Nat.lt_of_lt_of_le hg HbW.out.size, hi⟩⟩
  rintro e w3 ⟨ad3, n3, cap3, rfl, hd3, hb3⟩
  obtain ⟨W3, hW3⟩ : ∃ W, W = w3.alloc (.cells #[.slice ad3 n3 cap3, .bool false, .int .i64 (-1), .int .i64 (-1)] 27) := ⟨_, rfl⟩
  have hbW3 : Below w3.heap.size w3 W3 := by rw [hW3]; exact (Below.refl _ w3).alloc (Nat.le_refl _) _
  have HQ3 := Lib.hid (show W3.heap[w3.heap.size]? = some (.cells #[.slice ad3 n3 cap3, .bool false, .int .i64 (-1), .int .i64 (-1)] 27 (0, 0)) from by rw [hW3]; exact blk_new w3 _)
  have HT3 := Lib.hid ((HTW.out.under hb3).under hbW3)
  have Hd3 := Lib.hid (hd3.under hbW3)
  have Hat3 := Lib.hid ((HatW.out.under hb3).under hbW3)
  have Hb3 := Lib.hid ((HbW.out.trans (hb3.mono HbW.out.size)).trans (hbW3.mono (by have h1 := HbW.out.size; have h2 := hb3.size; omega)))
  have hw3 : 3 < W3.heap.size := by have := Hb3.out.size; omega
  clear hd3 hb3 hbW3 HTW HdW HatW HbW c0 c1 c2 c3 c4 c5 c6 c7 hlc
  go_upto_region 7 with (fail)
  rw [← hW3]
  clear hW3
  obtain ⟨c0, c1, c2, c3⟩ := box4' HQ3.out
  have hlc := (Array.getElem?_eq_some_iff.1 HQ3.out).1
  go_wp2_with fail
  refine (open_is Hop.out W3 ad3 n3 cap3 Hd3.out HT3.out hw3).mono ?_
  rintro e w4 ⟨ad4, n4, cap4, ad5, cap5, rfl, hd4, hat4, hc4, hb4⟩
  rw [HN.out]
  replace hc4 : N ≤ cap5 := by have := hc4.1; rw [show (_ : L × List Rec × Int).2.1.length = N from HN.out] at this; exact this
  obtain ⟨W4, hW4⟩ : ∃ W, W = w4.alloc (.cells #[.slice ad4 n4 cap4, .bool false, .int .i64 (-1), .int .i64 (-1), .int .i64 size, .int .u64 1, .int .u64 ((N : Int) + 1), .bool false] 30) := ⟨_, rfl⟩
  have hbW4 : Below w4.heap.size w4 W4 := by rw [hW4]; exact (Below.refl _ w4).alloc (Nat.le_refl _) _
  have hI4 : LIn w4 ad4 n4 cap4 ⟨⟨fs3, false, -1, -1⟩, size, 1, (N : Int) + 1, false⟩ := ⟨hd4, s0, s1, by show (0 : Int) ≤ 1; decide, by show (1 : Int) ≤ 18446744073709551615; decide, by show (0 : Int) ≤ (N : Int) + 1; omega, by show (N : Int) + 1 ≤ 18446744073709551615; omega⟩
  have HV4 := Lib.hid (show LVar W4 w4.heap.size ad4 n4 cap4 ⟨⟨fs3, false, -1, -1⟩, size, 1, (N : Int) + 1, false⟩ from by rw [hW4]; exact LVar.alloc hI4)
  have Hat4 := Lib.hid (hat4.under hbW4)
  have Hatv4 := Lib.hid ((Hat3.out.under hb4).under hbW4)
  have Hb4 := Lib.hid ((Hb3.out.trans (hb4.mono Hb3.out.size)).trans (hbW4.mono (by have h1 := Hb3.out.size; have h2 := hb4.size; omega)))
  clear hd4 hat4 hb4 hbW4 hI4 HT3 Hd3 Hat3 Hb3 c0 c1 c2 c3 hlc HQ3 HQ2
  go_upto_region 8 with (fail)
  rw [← hW4]
  clear hW4
  have hMN2 : (M : Int) ≤ (N : Int) := by omega
  have hMc : M ≤ cap5 := by omega
  have hNM : ¬ N < M := by omega
  go_wp2_with fail
  have hsame := rsame_yes W4 ad5 adv cap5 capv want (Hat4.out.pre Hpre.out) Hatv4.out (by rw [HM.out]; omega)
  rw [HM.out] at hsame
  refine hsame.mono ?_
  clear hsame
  rintro e w5 ⟨rfl, hb5⟩
  have HV5 := Lib.hid (HV4.out.under hb5)
  have Hat5 := Lib.hid (Hat4.out.under hb5)
  have Hb5 := Lib.hid (Hb4.out.trans (hb5.mono Hb4.out.size))
  clear hb5 Hat4 Hatv4 Hb4
  obtain ⟨c0, c1, c2, c3, c4, c5, c6, c7⟩ := box8 HV5.out.b
  have hlc := HV5.out.lt
  simp only at c1 c2 c3 c4 c5 c6 c7
  go_wp2_with fail
  refine (lcheck_any w5 ad4 n4 cap4 _ HV5.out.i).mono ?_
  rintro e w6 ⟨cd, rfl, hcd, hb6⟩
  obtain rfl : cd = 0 := by
    rcases hcd with ⟨_, h⟩ | ⟨h, _⟩
    · exact h
    · exact absurd ⟨Hkk3.out.R, Hhs.out, by show (1 : Int) ≤ (N : Int) + 1; omega, by show (N : Int) + 1 ≤ 4611686018427387904; omega⟩ h
  have HV6 := Lib.hid (HV5.out.under hb6)
  have Hat6 := Lib.hid (Hat5.out.under hb6)
  have Hb6 := Lib.hid (Hb5.out.trans (hb6.mono Hb5.out.size))
  have Hlc6 := Lib.hid (show w4.heap.size < w6.heap.size from HV6.out.lt)
  clear hb6 hcd Hat5 Hb5 HV5 HV4 c0 c1 c2 c3 c4 c5 c6 c7 hlc hs1 hs2 hMN2 hMc hNM
  go_wp2
  go_loopw [86] (fun i wr => ∃ (k : Nat), i = .int .i64 (k : Int) ∧ k ≤ N ∧ Below w6.heap.size w6 wr) (fun i _ => N - (intOf i).toNat)
  case atStart => exact ⟨0, rfl, Nat.zero_le _, Below.refl _ _⟩
  case round =>
    obtain ⟨k, rfl, hkN, hbel⟩ := hrel
    have Hbel := Lib.hid hbel
    by_cases hlt : k < N
    · obtain ⟨r, hr⟩ : ∃ r, rs3[k]? = some r := ⟨rs3[k]'(by have := HN.out; omega), by simp⟩
      obtain ⟨g1, o1, rfl, hg1, hc1⟩ := (Hat6.out.under hbel) (by rintro rfl; simp at hr)
      obtain ⟨p0, p1⟩ := hc1 k r hr
      rw [kk_seq Hkk3.out hr] at p0
      clear hbel hc1 hr
      go_wp2
      go_roundw
      case rel => exact ⟨k + 1, by go_num, by omega, Hbel.out.alloc Hbel.out.size _⟩
      case measure => simp [intOf]; omega
    · have hkn : k = N := by omega
      have HV7 := Lib.hid (HV6.out.under hbel)
      have Hb7 := Lib.hid (Hb6.out.trans (hbel.mono Hb6.out.size))
      clear hbel hkn
      obtain ⟨c0, c1, c2, c3, c4, c5, c6, c7⟩ := box8 HV7.out.b
      have hlc := HV7.out.lt
      simp only at c1 c2 c3 c4 c5 c6 c7
      go_wp2
      go_ret
      exact ⟨rfl, Hb7.out⟩
end Go.Proofs.YtcefhcailhediaaDoor

/- SEGMENT: what is carried through a law's walk. -/
namespace Go.Proofs.YtcefhcailhediaaDoor
open Go.RowKit
set_option maxRecDepth 100000
set_option linter.unusedVariables false
set_option linter.unusedSimpArgs false
/-- a block's cells -/
def Blk (w : World) (q : Nat) (cs : Array Value) (t : TypeId) : Prop := w.heap[q]? = some (.cells cs t (0, 0))
theorem Blk.under {w w' : World} {q : Nat} {cs : Array Value} {t : TypeId} (h : Blk w q cs t) (hb : Below w.heap.size w w') : Blk w' q cs t := (hb.block _ (Array.getElem?_eq_some_iff.1 h).1).trans h
theorem Blk.lt {w : World} {q : Nat} {cs : Array Value} {t : TypeId} (h : Blk w q cs t) : q < w.heap.size := (Array.getElem?_eq_some_iff.1 h).1
/-- texts, numbers, records that lie in memory -/
def StrsW (w : World) (ad : Option Addr) (ss : List ByteArray) : Prop := Strs w w.heap.size ad ss
theorem StrsW.under {w w' : World} {ad : Option Addr} {ss : List ByteArray} (h : StrsW w ad ss) (hb : Below w.heap.size w w') : StrsW w' ad ss :=
  fun hne => by obtain ⟨g, off, e, hg, hi⟩ := (Strs.keep h hb) hne; exact ⟨g, off, e, Nat.lt_of_lt_of_le hg hb.size, hi⟩
def IntsW (w : World) (ad : Option Addr) (ks : List Int) : Prop := Ints w w.heap.size ad ks
theorem IntsW.under {w w' : World} {ad : Option Addr} {ks : List Int} (h : IntsW w ad ks) (hb : Below w.heap.size w w') : IntsW w' ad ks :=
  ⟨h.1, fun hne => by obtain ⟨g, off, e, hg, hi⟩ := (Ints.keep h hb).2 hne; exact ⟨g, off, e, Nat.lt_of_lt_of_le hg hb.size, hi⟩⟩
/-- the heap has the package's variables -/
def Big (w : World) : Prop := 3 < w.heap.size
theorem Big.under {w w' : World} (h : Big w) (hb : Below w.heap.size w w') : Big w' := Nat.lt_of_lt_of_le h hb.size
/-- the disk of an opened log, the log itself -/
theorem lin_of {w : World} {ad : Option Addr} {n cap : Nat} {l : L} (hd : DIn w ad n cap l.d.fuse l.d.fault l.d.files) (hR : LRight l) (hf : 0 ≤ l.fr) : LIn w ad n cap l := by
  obtain ⟨h1, h2, h3, h4⟩ := hR
  exact ⟨hd, by omega, by omega, hf, by omega, by omega, by omega⟩
theorem records_is (w : World) (ad : Option Addr) (n cap : Nat) (l : L) {rs : List Rec} (h : LIn w ad n cap l) (hR : LRight l) (hb : l.broken = false) (hd : l.d.down = false) (hrs : (rdF l.d.files).rs = rs) (hT : Tabs w) (hw : 3 < w.heap.size) :
    Calls Tryd.prog 16 #[.agg (l.cells (.slice ad n cap))] w fun e w' => ∃ ad2 cap2, e = .returned (.tuple #[.slice ad2 rs.length cap2, .int .i64 0]) ∧ RAt w' w'.heap.size ad2 rs ∧ Below w.heap.size w w' := by
  subst hrs
  refine (records_any w ad n cap l h hT hw).mono fun e w' hP => ?_
  rcases hP with ⟨hb2, ⟨hno, _⟩ | ⟨_, _, _, ad2, cap2, he, hat⟩⟩
  · exact absurd ⟨hR, hb, hd⟩ hno
  · exact ⟨ad2, cap2, he, hat, hb2⟩
end Go.Proofs.YtcefhcailhediaaDoor
