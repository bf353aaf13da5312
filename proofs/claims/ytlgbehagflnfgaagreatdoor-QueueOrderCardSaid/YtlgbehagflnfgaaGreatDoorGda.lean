/- QUEUE: a queue in a variable of a law's (for the laws' walks; lives itself is not walked yet). -/
import Derived.Test.YtlgbehagflnfgaaGreatDoorGav
namespace Go.Proofs.YtlgbehagflnfgaaGreatDoor
open Go.RowKit
set_option maxRecDepth 100000
set_option linter.unusedVariables false
set_option linter.unusedSimpArgs false

/-- a queue in a variable of a law's -/
structure QV (w W : World) (g : Nat) (q : Q) (ad : Option Addr) (n cap : Nat) (be : Option Addr) (m cp : Nat) : Prop where
  h : W.heap[g]? = some (.cells (q.cells (.slice ad n cap) (.slice be m cp)) 30 (0, 0))
  i : QIn W ad n cap be m cp q
  b : Below w.heap.size w W
  g : w.heap.size ≤ g
theorem QV.under {w W W' : World} {g : Nat} {q : Q} {ad : Option Addr} {n cap : Nat} {be : Option Addr} {m cp : Nat} (h : QV w W g q ad n cap be m cp) (hb : Below W.heap.size W W') : QV w W' g q ad n cap be m cp :=
  ⟨(hb.block _ (Array.getElem?_eq_some_iff.1 h.h).1).trans h.h, h.i.under hb, h.b.trans (hb.mono h.b.size), h.g⟩
/-- an answer is put into the variable -/
theorem QV.put {w W W' : World} {g : Nat} {q q2 : Q} {ad : Option Addr} {n cap : Nat} {be : Option Addr} {m cp : Nat} (h : QV w W g q ad n cap be m cp) (hb : Below W.heap.size W W') {ad2 : Option Addr} {n2 cap2 : Nat} {be2 : Option Addr} {m2 cp2 : Nat} (hq : QIn W' ad2 n2 cap2 be2 m2 cp2 q2)
    (h1 : ∀ b, (Value.slice ad2 n2 cap2).ownBlock = some b → W.heap.size ≤ b) (h2 : ∀ b, (Value.slice be2 m2 cp2).ownBlock = some b → W.heap.size ≤ b) {G : World} (hG : G = put10 W' g (.slice ad2 n2 cap2) (.bool q2.l.d.down) (.int .i64 q2.l.d.fuse) (.int .i64 q2.l.d.fault) (.int .i64 q2.l.size) (.int .u64 q2.l.fr) (.int .u64 q2.l.nx) (.bool q2.l.broken) (.slice be2 m2 cp2) (.int .i64 q2.most)) : QV w G g q2 ad2 n2 cap2 be2 m2 cp2 := by
  have hl := (Array.getElem?_eq_some_iff.1 h.h).1
  have hx := (hb.block _ hl).trans h.h
  subst hG
  have hbG := below_put10 (h.b.trans (hb.mono h.b.size)) h.g (.slice ad2 n2 cap2) (.bool q2.l.d.down) (.int .i64 q2.l.d.fuse) (.int .i64 q2.l.d.fault) (.int .i64 q2.l.size) (.int .u64 q2.l.fr) (.int .u64 q2.l.nx) (.bool q2.l.broken) (.slice be2 m2 cp2) (.int .i64 q2.most)
  refine ⟨cell_put10 hx _ _ _ _ _ _ _ _ _ _, hq.same (by rw [put10_size]; exact Nat.le_refl _) (fun b e => put10_other (by have := h1 b e; omega) _ _ _ _ _ _ _ _ _ _) (fun b e => put10_other (by have := h2 b e; omega) _ _ _ _ _ _ _ _ _ _), hbG, h.g⟩
end Go.Proofs.YtlgbehagflnfgaaGreatDoor

/- QUEUE: THE WALK OVER lives. -/
namespace Go.Proofs.YtlgbehagflnfgaaGreatDoor
open Go.RowKit
set_option maxRecDepth 100000
set_option linter.unusedVariables false
set_option linter.unusedSimpArgs false

set_option maxHeartbeats 4000000 in
theorem qlives_any (w : World) (hT : Tabs w) (hw : 3 < w.heap.size) : Calls Tryz.prog 16 #[] w fun e w' => e = .returned (.bool true) ∧ Below w.heap.size w w' := by
  have HT := Lib.hid hT
  have HB := Lib.hid (Below.refl w.heap.size w)
  clear hT
  obtain ⟨q1, q2, q3, q4, q5, e1, e2, e3, e4, e5, e6⟩ := lives_math
  obtain ⟨⟨⟨fs1, dn1, fu1, fa1⟩, sz1, fr1, nx1, br1⟩, es1, mo1⟩ := q1
  obtain ⟨⟨⟨fs2, dn2, fu2, fa2⟩, sz2, fr2, nx2, br2⟩, es2, mo2⟩ := q2
  obtain ⟨⟨⟨fs3, dn3, fu3, fa3⟩, sz3, fr3, nx3, br3⟩, es3, mo3⟩ := q3
  obtain ⟨⟨⟨fs4, dn4, fu4, fa4⟩, sz4, fr4, nx4, br4⟩, es4, mo4⟩ := q4
  obtain ⟨⟨⟨fs5, dn5, fu5, fa5⟩, sz5, fr5, nx5, br5⟩, es5, mo5⟩ := q5
  have H1 := Lib.hid e1
  clear e1
  have H2 := Lib.hid e2
  clear e2
  have H3 := Lib.hid e3
  clear e3
  have H4 := Lib.hid e4
  clear e4
  have H5 := Lib.hid e5
  clear e5
  have H6 := Lib.hid e6
  clear e6
  go_enter Tryz.func16, Tryz.ntmps16
  go_wp2_with fail
  refine (qwhole_any w).mono ?_
  rintro e w1 ⟨rfl, hb⟩
  replace HB := Lib.hid (HB.out.trans (hb.mono HB.out.size))
  clear hb
  go_wp2_with fail
  refine (qopen_any w1 none 0 0 ⟨[], false, -1, -1⟩ 100 5 (DIn.nothing w1 (fu := -1) (fa := -1) (by unfold Num; omega) (by unfold Num; omega)) (by unfold Num; omega) (by unfold Num; omega) (HT.out.under HB.out) (by have := HB.out.size; omega)).mono ?_
  rintro e w2 hP
  rw [openQ_nil (by omega) (by omega)] at hP
  obtain ⟨hb, ada, na, capa, bea, ma, cpa, rfl, hqa⟩ := hP
  replace HB := Lib.hid (HB.out.trans (hb.mono HB.out.size))
  have Hqa := Lib.hid hqa
  clear hb hqa
  obtain ⟨W2, hW2⟩ : ∃ W, W = w2.alloc (.cells #[.slice ada na capa, .bool false, .int .i64 (-1), .int .i64 (-1), .int .i64 100, .int .u64 1, .int .u64 1, .bool false, .slice bea ma cpa, .int .i64 5] 30) := ⟨_, rfl⟩
  have hbW2 : Below w2.heap.size w2 W2 := by rw [hW2]; exact (Below.refl _ w2).alloc (Nat.le_refl _) _
  have HV := Lib.hid (show QV w W2 w2.heap.size (q0Q 100 5) ada na capa bea ma cpa from ⟨by rw [hW2]; exact blk_new w2 _, Hqa.out.under hbW2, HB.out.trans (hbW2.mono HB.out.size), HB.out.size⟩)
  replace HB := Lib.hid (HB.out.trans (hbW2.mono HB.out.size))
  clear hbW2 Hqa
  go_upto_region 2 with (fail)
  rw [← hW2]
  clear hW2
  obtain ⟨c0, c1, c2, c3, c4, c5, c6, c7, c8, c9⟩ := box10 HV.out.h
  have hlc := (Array.getElem?_eq_some_iff.1 HV.out.h).1
  go_wp2_with fail
  refine (put24_any W2 ada na capa bea ma cpa _ HV.out.i (HT.out.under HB.out) (by have := HB.out.size; omega) aB (by decide)).mono ?_
  rintro e w3 hP
  rw [H1.out] at hP
  obtain ⟨hb, ad1, n1, cap1, be1, m1, cp1, rfl, hq, ho, hp⟩ := hP
  clear c0 c1 c2 c3 c4 c5 c6 c7 c8 c9 hlc
  have HU := Lib.hid (HV.out.under hb)
  obtain ⟨y0, y1, y2, y3, y4, y5, y6, y7, y8, y9⟩ := box10 HU.out.h
  have hly := (Array.getElem?_eq_some_iff.1 HU.out.h).1
  obtain ⟨z0, z1, z2, z3, z4, z5, z6, z7, z8, z9⟩ := frz10 HU.out.h
  go_upto_region 3 with (fail)
  obtain ⟨G1, hG⟩ : ∃ G, G = ((((((((((w3).setCell ⟨w2.heap.size, 0, none⟩ (.slice ad1 n1 cap1)).setCell ⟨w2.heap.size, 1, none⟩ (.bool dn1)).setCell ⟨w2.heap.size, 2, none⟩ (.int .i64 fu1)).setCell ⟨w2.heap.size, 3, none⟩ (.int .i64 fa1)).setCell ⟨w2.heap.size, 4, none⟩ (.int .i64 sz1)).setCell ⟨w2.heap.size, 5, none⟩ (.int .u64 fr1)).setCell ⟨w2.heap.size, 6, none⟩ (.int .u64 nx1)).setCell ⟨w2.heap.size, 7, none⟩ (.bool br1)).setCell ⟨w2.heap.size, 8, none⟩ (.slice be1 m1 cp1)).setCell ⟨w2.heap.size, 9, none⟩ (.int .i64 mo1) := ⟨_, rfl⟩
  rw [← hG]
  replace HV := Lib.hid (HV.out.put hb hq ho hp hG)
  replace HB := Lib.hid HV.out.b
  clear y0 y1 y2 y3 y4 y5 y6 y7 y8 y9 hly
  clear z0 z1 z2 z3 z4 z5 z6 z7 z8 z9 hG hb hq ho hp HU
  obtain ⟨c0, c1, c2, c3, c4, c5, c6, c7, c8, c9⟩ := box10 HV.out.h
  have hlc := (Array.getElem?_eq_some_iff.1 HV.out.h).1
  go_wp2_with fail
  refine (put24_any G1 ad1 n1 cap1 be1 m1 cp1 _ HV.out.i (HT.out.under HB.out) (by have := HB.out.size; omega) bB (by decide)).mono ?_
  rintro e w4 hP
  rw [H2.out] at hP
  obtain ⟨hb, ad2, n2, cap2, be2, m2, cp2, rfl, hq, ho, hp⟩ := hP
  clear c0 c1 c2 c3 c4 c5 c6 c7 c8 c9 hlc
  have HU := Lib.hid (HV.out.under hb)
  obtain ⟨y0, y1, y2, y3, y4, y5, y6, y7, y8, y9⟩ := box10 HU.out.h
  have hly := (Array.getElem?_eq_some_iff.1 HU.out.h).1
  obtain ⟨z0, z1, z2, z3, z4, z5, z6, z7, z8, z9⟩ := frz10 HU.out.h
  go_upto_region 4 with (fail)
  obtain ⟨G2, hG⟩ : ∃ G, G = ((((((((((w4).setCell ⟨w2.heap.size, 0, none⟩ (.slice ad2 n2 cap2)).setCell ⟨w2.heap.size, 1, none⟩ (.bool dn2)).setCell ⟨w2.heap.size, 2, none⟩ (.int .i64 fu2)).setCell ⟨w2.heap.size, 3, none⟩ (.int .i64 fa2)).setCell ⟨w2.heap.size, 4, none⟩ (.int .i64 sz2)).setCell ⟨w2.heap.size, 5, none⟩ (.int .u64 fr2)).setCell ⟨w2.heap.size, 6, none⟩ (.int .u64 nx2)).setCell ⟨w2.heap.size, 7, none⟩ (.bool br2)).setCell ⟨w2.heap.size, 8, none⟩ (.slice be2 m2 cp2)).setCell ⟨w2.heap.size, 9, none⟩ (.int .i64 mo2) := ⟨_, rfl⟩
  rw [← hG]
  replace HV := Lib.hid (HV.out.put hb hq ho hp hG)
  replace HB := Lib.hid HV.out.b
  clear y0 y1 y2 y3 y4 y5 y6 y7 y8 y9 hly
  clear z0 z1 z2 z3 z4 z5 z6 z7 z8 z9 hG hb hq ho hp HU
  obtain ⟨c0, c1, c2, c3, c4, c5, c6, c7, c8, c9⟩ := box10 HV.out.h
  have hlc := (Array.getElem?_eq_some_iff.1 HV.out.h).1
  go_wp2_with fail
  refine (lease25_any G2 ad2 n2 cap2 be2 m2 cp2 _ HV.out.i (HT.out.under HB.out) (by have := HB.out.size; omega) ).mono ?_
  rintro e w5 hP
  rw [H3.out] at hP
  obtain ⟨hb, ad3, n3, cap3, be3, m3, cp3, rfl, hq, ho, hp⟩ := hP
  clear c0 c1 c2 c3 c4 c5 c6 c7 c8 c9 hlc
  have HU := Lib.hid (HV.out.under hb)
  obtain ⟨y0, y1, y2, y3, y4, y5, y6, y7, y8, y9⟩ := box10 HU.out.h
  have hly := (Array.getElem?_eq_some_iff.1 HU.out.h).1
  obtain ⟨z0, z1, z2, z3, z4, z5, z6, z7, z8, z9⟩ := frz10 HU.out.h
  go_upto_region 5 with (fail)
  obtain ⟨G3, hG⟩ : ∃ G, G = ((((((((((w5).setCell ⟨w2.heap.size, 0, none⟩ (.slice ad3 n3 cap3)).setCell ⟨w2.heap.size, 1, none⟩ (.bool dn3)).setCell ⟨w2.heap.size, 2, none⟩ (.int .i64 fu3)).setCell ⟨w2.heap.size, 3, none⟩ (.int .i64 fa3)).setCell ⟨w2.heap.size, 4, none⟩ (.int .i64 sz3)).setCell ⟨w2.heap.size, 5, none⟩ (.int .u64 fr3)).setCell ⟨w2.heap.size, 6, none⟩ (.int .u64 nx3)).setCell ⟨w2.heap.size, 7, none⟩ (.bool br3)).setCell ⟨w2.heap.size, 8, none⟩ (.slice be3 m3 cp3)).setCell ⟨w2.heap.size, 9, none⟩ (.int .i64 mo3) := ⟨_, rfl⟩
  rw [← hG]
  have hsG : G3.heap.size = w5.heap.size := by rw [hG]; exact put10_size _ _ _ _ _ _ _ _ _ _ _ _
  replace HV := Lib.hid (HV.out.put hb hq ho hp hG)
  obtain ⟨V3, hV3⟩ : ∃ W, W = G3.alloc (.cells #[.int .u64 1, .string aB, .bool true] 39) := ⟨_, rfl⟩
  rw [← hV3]
  have hbV : Below G3.heap.size G3 V3 := by rw [hV3]; exact (Below.refl _ G3).alloc (Nat.le_refl _) _
  have HE := Lib.hid (show Blk V3 w5.heap.size #[.int .u64 1, .string aB, .bool true] 39 from by rw [hV3, ← hsG]; exact blk_new G3 _)
  replace HV := Lib.hid (HV.out.under hbV)
  replace HB := Lib.hid HV.out.b
  have HN := Lib.hid (show w2.heap.size < w5.heap.size from by have h1 := (Array.getElem?_eq_some_iff.1 HU.out.h).1; exact h1)
  clear hV3 hbV hsG
  clear y0 y1 y2 y3 y4 y5 y6 y7 y8 y9 hly
  clear z0 z1 z2 z3 z4 z5 z6 z7 z8 z9 hG hb hq ho hp HU
  obtain ⟨c0, c1, c2, c3, c4, c5, c6, c7, c8, c9⟩ := box10 HV.out.h
  have hlc := (Array.getElem?_eq_some_iff.1 HV.out.h).1
  obtain ⟨x0, x1, x2⟩ := box3 HE.out
  have hle := HE.out.lt
  go_wp2_with fail
  refine (ack26_any V3 ad3 n3 cap3 be3 m3 cp3 _ HV.out.i (HT.out.under HB.out) (by have := HB.out.size; omega) 1 (by decide)).mono ?_
  rintro e w6 hP
  rw [H4.out] at hP
  obtain ⟨hb, ad4, n4, cap4, be4, m4, cp4, rfl, hq, ho, hp⟩ := hP
  clear c0 c1 c2 c3 c4 c5 c6 c7 c8 c9 hlc
  clear x0 x1 x2 hle
  have HU := Lib.hid (HV.out.under hb)
  replace HE := Lib.hid (HE.out.under hb)
  obtain ⟨y0, y1, y2, y3, y4, y5, y6, y7, y8, y9⟩ := box10 HU.out.h
  have hly := (Array.getElem?_eq_some_iff.1 HU.out.h).1
  obtain ⟨z0, z1, z2, z3, z4, z5, z6, z7, z8, z9⟩ := frz10 HU.out.h
  go_upto_region 6 with (fail)
  obtain ⟨G4, hG⟩ : ∃ G, G = ((((((((((w6).setCell ⟨w2.heap.size, 0, none⟩ (.slice ad4 n4 cap4)).setCell ⟨w2.heap.size, 1, none⟩ (.bool dn4)).setCell ⟨w2.heap.size, 2, none⟩ (.int .i64 fu4)).setCell ⟨w2.heap.size, 3, none⟩ (.int .i64 fa4)).setCell ⟨w2.heap.size, 4, none⟩ (.int .i64 sz4)).setCell ⟨w2.heap.size, 5, none⟩ (.int .u64 fr4)).setCell ⟨w2.heap.size, 6, none⟩ (.int .u64 nx4)).setCell ⟨w2.heap.size, 7, none⟩ (.bool br4)).setCell ⟨w2.heap.size, 8, none⟩ (.slice be4 m4 cp4)).setCell ⟨w2.heap.size, 9, none⟩ (.int .i64 mo4) := ⟨_, rfl⟩
  rw [← hG]
  have hE4 : G4.heap[w5.heap.size]? = w6.heap[w5.heap.size]? := by rw [hG]; exact put10_other (by have := HN.out; omega) _ _ _ _ _ _ _ _ _ _
  replace HE := Lib.hid (show Blk G4 w5.heap.size #[.int .u64 1, .string aB, .bool true] 39 from hE4.trans HE.out)
  replace HV := Lib.hid (HV.out.put hb hq ho hp hG)
  replace HB := Lib.hid HV.out.b
  clear hE4
  clear y0 y1 y2 y3 y4 y5 y6 y7 y8 y9 hly
  clear z0 z1 z2 z3 z4 z5 z6 z7 z8 z9 hG hb hq ho hp HU
  obtain ⟨c0, c1, c2, c3, c4, c5, c6, c7, c8, c9⟩ := box10 HV.out.h
  have hlc := (Array.getElem?_eq_some_iff.1 HV.out.h).1
  go_wp2_with fail
  refine (qopen_any G4 ad4 n4 cap4 ⟨fs4, dn4, fu4, fa4⟩ 100 5 HV.out.i.l.d (by unfold Num; omega) (by unfold Num; omega) (HT.out.under HB.out) (by have := HB.out.size; omega)).mono ?_
  rintro e w7 hP
  rw [H5.out] at hP
  obtain ⟨hb, ad5, n5, cap5, be5, m5, cp5, rfl, hq⟩ := hP
  clear c0 c1 c2 c3 c4 c5 c6 c7 c8 c9 hlc
  have es5_ : es5 = [⟨2, bB, false⟩] := H6.out
  subst es5_
  replace HE := Lib.hid (HE.out.under hb)
  replace HB := Lib.hid (HB.out.trans (hb.mono HB.out.size))
  obtain ⟨V5, hV5⟩ : ∃ W, W = w7.alloc (.cells #[.slice ad5 n5 cap5, .bool dn5, .int .i64 fu5, .int .i64 fa5, .int .i64 sz5, .int .u64 fr5, .int .u64 nx5, .bool br5, .slice be5 m5 cp5, .int .i64 mo5] 30) := ⟨_, rfl⟩
  have hbV : Below w7.heap.size w7 V5 := by rw [hV5]; exact (Below.refl _ w7).alloc (Nat.le_refl _) _
  have HP := Lib.hid (show QV w V5 w7.heap.size ⟨⟨⟨fs5, dn5, fu5, fa5⟩, sz5, fr5, nx5, br5⟩, [⟨2, bB, false⟩], mo5⟩ ad5 n5 cap5 be5 m5 cp5 from ⟨by rw [hV5]; exact blk_new w7 _, hq.under hbV, HB.out.trans (hbV.mono HB.out.size), HB.out.size⟩)
  replace HE := Lib.hid (HE.out.under hbV)
  clear hbV hq HV
  go_upto_region 7 with (fail)
  rw [← hV5]
  clear hV5 hb
  obtain ⟨x0, x1, x2⟩ := box3 HE.out
  have hle := HE.out.lt
  obtain ⟨c0, c1, c2, c3, c4, c5, c6, c7, c8, c9⟩ := box10 HP.out.h
  have hlc := (Array.getElem?_eq_some_iff.1 HP.out.h).1
  have hm5 : m5 = 1 := HP.out.i.e.1
  subst hm5
  have hels := HP.out.i.e.2.2.2
  obtain ⟨ge, oe, rfl, hge, hce⟩ := hels (by simp)
  obtain ⟨p0, p1, p2⟩ := hce 0 _ rfl
  have p0' : V5.cell? ⟨ge, oe, none⟩ = some (.int .u64 2) := by simpa using p0
  have p1' : V5.cell? ⟨ge, oe + 1, none⟩ = some (.string bB) := by simpa using p1
  have p2' : V5.cell? ⟨ge, oe + 2, none⟩ = some (.bool false) := by simpa using p2
  clear p0 p1 p2 hels hce
  go_wp2
  go_ret
  exact ⟨rfl, HP.out.b⟩
end Go.Proofs.YtlgbehagflnfgaaGreatDoor

/- QUEUE, MATHEMATICS: the entries behind a step stand in order. -/
namespace Go.Proofs.YtlgbehagflnfgaaGreatDoor
open Go.RowKit
set_option maxRecDepth 100000
set_option linter.unusedVariables false
set_option linter.unusedSimpArgs false

theorem qright_len {q : Q} (h : QRight q) : q.l.d.files.length ≤ 1000 ∧ q.es.length ≤ 1024 := ⟨by have := h.1.1.1; omega, h.2.2.1⟩
def SortE (es : List E) : Prop := es.Pairwise fun a b => a.seq < b.seq
theorem sort_in {nx fr : Nat} {es : List E} (h : inM nx fr es) : SortE es := (inM_iff.1 h).2
theorem st_sorted {q : Q} (h : QRight q) (hf : 0 ≤ q.l.fr) (s : QS) : SortE (chQ q s).1.es := by
  obtain ⟨⟨h1, h2, h3, h4⟩, h5, h6, h7⟩ := h
  have hq := sort_in h7
  unfold chQ
  split
  · exact hq
  cases s with
  | none => exact hq
  | lease =>
    show SortE (leaseM q).1.es
    unfold leaseM
    cases hi : freeAt q.es with
    | none => exact hq
    | some i =>
      obtain ⟨e, he, _⟩ := findIdx?_lt hi
      simp only [he]
      exact sort_in (inM_set h7 he rfl rfl)
  | release s =>
    show SortE (releaseM q s).1.es
    unfold releaseM
    cases hi : heldAt q.es s with
    | none => exact hq
    | some i =>
      obtain ⟨e, he, _⟩ := findIdx?_lt hi
      simp only [he]
      exact sort_in (inM_set h7 he rfl rfl)
  | put d =>
    show SortE (putM q d).1.es
    unfold putM
    split
    · exact hq
    split
    · exact hq
    rename_i hd
    split
    · exact sort_in (inM_snoc (d := d) h7 (by omega) (by omega))
    · exact hq
  | ack s =>
    show SortE (ackM q s).1.es
    unfold ackM
    cases hi : heldAt q.es s with
    | none => exact hq
    | some i =>
      simp only
      split
      · exact sort_in (inM_erase i h7)
      · exact hq
/-- a cell's value -/
def At1 (w : World) (g o : Nat) (v : Value) : Prop := g < w.heap.size ∧ w.cell? ⟨g, o, none⟩ = some v
theorem At1.under {w w' : World} {g o : Nat} {v : Value} (h : At1 w g o v) (hb : Below w.heap.size w w') : At1 w' g o v := ⟨Nat.lt_of_lt_of_le h.1 hb.size, (hb.cell (p := ⟨g, o, none⟩) h.1).trans h.2⟩
/-- the first of entries in memory -/
theorem els_first {w : World} {ad : Option Addr} {e : E} {t : List E} (h : Els w w.heap.size ad (e :: t)) : ∃ g o, ad = some ⟨g, o, none⟩ ∧ At1 w g o (.int .u64 (e.seq : Int)) ∧ At1 w g (o + 1) (.string e.data) ∧ At1 w g (o + 2) (.bool e.leased) := by
  obtain ⟨g, o, rfl, hg, hc⟩ := h (by simp)
  obtain ⟨p0, p1, p2⟩ := hc 0 _ rfl
  exact ⟨g, o, rfl, ⟨hg, by simpa using p0⟩, ⟨hg, by simpa using p1⟩, hg, by simpa using p2⟩
theorem sort_ge {es : List E} {e : E} {t : List E} (h : SortE es) (he : es = e :: t) {n : Nat} (hn : n ≤ e.seq) : ∀ x ∈ es, n ≤ x.seq := fun x hx => by
  subst he
  obtain ⟨h1, _⟩ := List.pairwise_cons.1 h
  rcases List.mem_cons.1 hx with q | q
  · subst q; exact hn
  · have := h1 x q; omega
end Go.Proofs.YtlgbehagflnfgaaGreatDoor

/- QUEUE, MATHEMATICS: a lease, released. -/
namespace Go.Proofs.YtlgbehagflnfgaaGreatDoor
open Go.RowKit
set_option maxRecDepth 100000
set_option linter.unusedVariables false
set_option linter.unusedSimpArgs false

/-- what a lease that is OK says -/
theorem lease_ok {q q1 : Q} {e : E} (h : ansQ q .lease = (q1, e, 0)) : ∃ i x, QRight q ∧ q.l.broken = false ∧ freeAt q.es = some i ∧ q.es[i]? = some x ∧ x.leased = false ∧ q1 = ⟨q.l, q.es.set i (leaseE x), q.most⟩ ∧ e = leaseE x := by
  unfold ansQ at h
  by_cases hR : QRight q
  · rw [if_pos hR] at h
    unfold chQ at h
    by_cases hb : q.l.broken = true
    · rw [if_pos hb] at h; simp at h
    · rw [if_neg hb] at h
      have hl : leaseM q = (q1, e, 0) := h
      unfold leaseM at hl
      cases hi : freeAt q.es with
      | none => rw [hi] at hl; simp at hl
      | some i =>
        rw [hi] at hl
        obtain ⟨x, hx, hp, _⟩ := findIdx?_lt hi
        simp only [hx, Prod.mk.injEq] at hl
        exact ⟨i, x, hR, by simpa using hb, rfl, hx, by simpa using hp, hl.1.symm, hl.2.1.symm⟩
  · rw [if_neg hR] at h; simp at h
theorem ans_of {q : Q} (hR : QRight q) (hb : q.l.broken = false) (s : QS) : ansQ q s = stM q s := by
  unfold ansQ; rw [if_pos hR]; unfold chQ; rw [if_neg (by rw [hb]; decide)]
theorem set_right {q : Q} (hR : QRight q) {i : Nat} {x y : E} (hx : q.es[i]? = some x) (h1 : y.seq = x.seq) (h2 : y.data = x.data) : QRight ⟨q.l, q.es.set i y, q.most⟩ := by
  obtain ⟨a, b, c, d⟩ := hR
  exact ⟨a, b, by rw [set_len]; exact c, inM_set d hx h1 h2⟩
theorem sort_uniq {es : List E} (h : SortE es) {i j : Nat} {x y : E} (hx : es[i]? = some x) (hy : es[j]? = some y) (he : x.seq = y.seq) : i = j := by
  obtain ⟨h1, h1'⟩ := List.getElem?_eq_some_iff.1 hx
  obtain ⟨h2, h2'⟩ := List.getElem?_eq_some_iff.1 hy
  rcases Nat.lt_trichotomy i j with k | k | k
  · have := List.pairwise_iff_getElem.1 h i j h1 h2 k
    rw [h1', h2'] at this; omega
  · exact k
  · have := List.pairwise_iff_getElem.1 h j i h2 h1 k
    rw [h1', h2'] at this; omega
theorem sort_lt {es : List E} (h : SortE es) {i j : Nat} {x y : E} (hx : es[i]? = some x) (hy : es[j]? = some y) (he : i < j) : x.seq < y.seq := by
  obtain ⟨h1, h1'⟩ := List.getElem?_eq_some_iff.1 hx
  obtain ⟨h2, h2'⟩ := List.getElem?_eq_some_iff.1 hy
  have := List.pairwise_iff_getElem.1 h i j h1 h2 he
  rw [h1', h2'] at this; exact this
/-- where an entry that is leased is found by its number -/
theorem held_of {es : List E} (h : SortE es) {i : Nat} {x : E} (hx : es[i]? = some x) (hl : x.leased = true) : heldAt es x.seq = some i := by
  unfold heldAt
  rw [List.findIdx?_eq_some_iff_getElem]
  obtain ⟨h1, h1'⟩ := List.getElem?_eq_some_iff.1 hx
  refine ⟨h1, by rw [h1', hl]; simp, fun j hj => ?_⟩
  intro hp
  simp only [Bool.and_eq_true, decide_eq_true_eq] at hp
  have := sort_uniq h (List.getElem?_eq_getElem (by omega : j < es.length)) hx hp.2
  omega
theorem lease_back {q q1 : Q} {e : E} (h : ansQ q .lease = (q1, e, 0)) : ansQ q1 (.release e.seq) = (q, zE, 0) ∧ (∀ q2 f, ansQ q1 .lease = (q2, f, 0) → e.seq < f.seq ∧ q2.es.length = q.es.length) ∧ QRight q ∧ e.seq < 4611686018427387904 := by
  obtain ⟨i, x, hR, hb, hi, hx, hxl, rfl, rfl⟩ := lease_ok h
  have hin := hR.2.2.2
  have hlt := (List.getElem?_eq_some_iff.1 hx).1
  have hR1 := set_right hR hx (y := leaseE x) rfl rfl
  have hso1 := sort_in hR1.2.2.2
  have hx1 : (q.es.set i (leaseE x))[i]? = some (leaseE x) := by rw [List.getElem?_set_self hlt]
  refine ⟨?_, ?_, hR, ?_⟩
  · rw [ans_of hR1 hb]
    show releaseM _ _ = _
    unfold releaseM
    have hh : heldAt (q.es.set i (leaseE x)) (leaseE x).seq = some i := held_of hso1 hx1 rfl
    simp only [hh, hx1]
    have e1 : freeE (leaseE x) = x := by cases x; simp only [leaseE, freeE]; simp only at hxl; rw [hxl]
    have e2 : (q.es.set i (leaseE x)).set i x = q.es := by
      rw [List.set_set]
      obtain ⟨h1, h2⟩ := List.getElem?_eq_some_iff.1 hx
      rw [← h2]; exact List.set_getElem_self h1
    rw [e1, e2]
  · intro q2 f h2
    obtain ⟨j, y, _, _, hj, hy, hyl, rfl, rfl⟩ := lease_ok h2
    simp only at hj hy
    refine ⟨?_, by simp⟩
    have hjl := (List.getElem?_eq_some_iff.1 hy).1
    obtain ⟨x2, hx2, _, hfirst⟩ := findIdx?_lt hi
    have hij : i < j := by
      rcases Nat.lt_trichotomy i j with k | k | k
      · exact k
      · subst k
        rw [hx1] at hy
        injection hy with hy
        subst hy
        cases hyl
      · have h3 : q.es[j]? = some y := by rw [← hy, List.getElem?_set_ne (by omega)]
        have := hfirst j y k h3
        rw [hyl] at this
        cases this
    have h4 := sort_lt hso1 hx1 hy hij
    exact h4
  · have h5 := (inM_lt hin (List.mem_of_getElem? hx)).1
    have h6 := hR.1.2.2.2
    show x.seq < _
    omega
end Go.Proofs.YtlgbehagflnfgaaGreatDoor
