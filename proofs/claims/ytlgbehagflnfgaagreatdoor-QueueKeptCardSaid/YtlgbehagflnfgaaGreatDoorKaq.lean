/- SEGMENT: THE WALK OVER Open. -/
import Derived.Test.YtlgbehagflnfgaaGreatDoorKap
import Derived.Deep.Cut
namespace Go.Proofs.YtlgbehagflnfgaaGreatDoor
open Go.RowKit
set_option maxRecDepth 100000
set_option linter.unusedVariables false
set_option linter.unusedSimpArgs false
/-- a row's room -/
def CapOk (ad : Option Addr) (n cap : Nat) : Prop := n ≤ cap ∧ (ad = none → cap = 0)
/-- what Open answers with -/
def OpP (w : World) (d : D) (size : Int) (e : Ending) (w' : World) : Prop := Below w.heap.size w w' ∧ ∃ ad2 n2 cap2 ad3 cap3,
 e = .returned (.tuple #[.agg ((openM d size).1.cells (.slice ad2 n2 cap2)), .slice ad3 (openM d size).2.1.length cap3, .int .i64 (openM d size).2.2]) ∧
 DIn w' ad2 n2 cap2 (openM d size).1.d.fuse (openM d size).1.d.fault (openM d size).1.d.files ∧ (∀ b, (Value.slice ad2 n2 cap2).ownBlock = some b → w.heap.size ≤ b) ∧ RAt w' w'.heap.size ad3 (openM d size).2.1 ∧ CapOk ad3 (openM d size).2.1.length cap3
theorem DIn.nothing (w : World) {fu fa : Int} (h1 : Num fu) (h2 : Num fa) : DIn w none 0 0 fu fa [] := ⟨⟨rfl, Nat.le_refl _, fun _ => rfl, fun h => absurd rfl h⟩, (fun f hf => by cases hf), h1.1, h1.2, h2.1, h2.2⟩
theorem opP_zero {w w' : World} {d : D} {size : Int} {c : Int} (h : openM d size = (zl, [], c)) (hb : Below w.heap.size w w') : OpP w d size (.returned (.tuple #[.agg zlog, nilV, .int .i64 c])) w' := by
 refine ⟨hb, none, 0, 0, none, 0, by rw [h]; rfl, ?_, fun b e => by simp [Value.ownBlock] at e, fun hne => absurd (by rw [h]) hne, by rw [h]; exact ⟨Nat.le_refl _, fun _ => rfl⟩⟩
 rw [h]
 exact DIn.nothing _ (by show Num 0; unfold Num; omega) (by show Num 0; unfold Num; omega)

theorem RRow.cap {w : World} {base : Nat} {ad : Option Addr} {n cap : Nat} {rs : List Rec} (h : RRow w base (.slice ad n cap) rs) : CapOk ad rs.length cap := by
 rcases h.1.2 with ⟨hv, hn⟩ | ⟨g, cap', cur, hv, _, _, hnc, _⟩
 ·injection hv with _ _ e
  exact ⟨by omega, fun _ => e⟩
 ·injection hv with e1 _ e
  exact ⟨by omega, fun e2 => by rw [e2] at e1; cases e1⟩
theorem RAt.far {w w' : World} {ad : Option Addr} {n cap : Nat} {rs : List Rec} (h : RAt w w.heap.size ad rs) (hs : w.heap.size ≤ w'.heap.size) (hk : ∀ b, (Value.slice ad n cap).ownBlock = some b → b < w.heap.size → w'.heap[b]? = w.heap[b]?) : RAt w' w'.heap.size ad rs := fun hne => by
 obtain ⟨g, off, e, hg, hc⟩ := h hne
 subst e
 have hb := hk g rfl hg
 refine ⟨g, off, rfl, by omega, fun i r hi => ?_⟩
 obtain ⟨h0, h1⟩ := hc i r hi
 exact ⟨(World.cell?_of_block hb).trans h0, (World.cell?_of_block hb).trans h1⟩
theorem RAt.under {w w' : World} {ad : Option Addr} {rs : List Rec} (h : RAt w w.heap.size ad rs) (hb : Below w.heap.size w w') : RAt w' w'.heap.size ad rs := h.far (n := 0) (cap := 0) hb.size (fun b _ hk => hb.block b hk)
theorem put8_other {w : World} {g b : Nat} (h : b ≠ g) (v0 v1 v2 v3 v4 v5 v6 v7 : Value) :
  ((((((((w.setCell ⟨g, 0, none⟩ v0).setCell ⟨g, 1, none⟩ v1).setCell ⟨g, 2, none⟩ v2).setCell ⟨g, 3, none⟩ v3).setCell ⟨g, 4, none⟩ v4).setCell ⟨g, 5, none⟩ v5).setCell ⟨g, 6, none⟩ v6).setCell ⟨g, 7, none⟩ v7).heap[b]? = w.heap[b]? :=
 (Below.heap_setCell _ ⟨g, 7, none⟩ v7 b h).trans ((Below.heap_setCell _ ⟨g, 6, none⟩ v6 b h).trans ((Below.heap_setCell _ ⟨g, 5, none⟩ v5 b h).trans ((Below.heap_setCell _ ⟨g, 4, none⟩ v4 b h).trans ((Below.heap_setCell _ ⟨g, 3, none⟩ v3 b h).trans ((Below.heap_setCell _ ⟨g, 2, none⟩ v2 b h).trans ((Below.heap_setCell _ ⟨g, 1, none⟩ v1 b h).trans (Below.heap_setCell w ⟨g, 0, none⟩ v0 b h)))))))
theorem put8_cell {w : World} {g b o : Nat} {v : Value} (hc : w.cell? ⟨b, o, none⟩ = some v) (h : b ≠ g) (v0 v1 v2 v3 v4 v5 v6 v7 : Value) :
  ((((((((w.setCell ⟨g, 0, none⟩ v0).setCell ⟨g, 1, none⟩ v1).setCell ⟨g, 2, none⟩ v2).setCell ⟨g, 3, none⟩ v3).setCell ⟨g, 4, none⟩ v4).setCell ⟨g, 5, none⟩ v5).setCell ⟨g, 6, none⟩ v6).setCell ⟨g, 7, none⟩ v7).cell? ⟨b, o, none⟩ = some v :=
 (World.cell?_of_block (a := ⟨b, o, none⟩) (put8_other h v0 v1 v2 v3 v4 v5 v6 v7)).trans hc
theorem put8_size (w : World) (g : Nat) (v0 v1 v2 v3 v4 v5 v6 v7 : Value) :
  ((((((((w.setCell ⟨g, 0, none⟩ v0).setCell ⟨g, 1, none⟩ v1).setCell ⟨g, 2, none⟩ v2).setCell ⟨g, 3, none⟩ v3).setCell ⟨g, 4, none⟩ v4).setCell ⟨g, 5, none⟩ v5).setCell ⟨g, 6, none⟩ v6).setCell ⟨g, 7, none⟩ v7).heap.size = w.heap.size := by simp [World.setCell]
theorem RAt.put8 {w : World} {ad : Option Addr} {n cap g : Nat} {rs : List Rec} (h : RAt w w.heap.size ad rs) (hk : ∀ b, (Value.slice ad n cap).ownBlock = some b → b ≠ g) (v0 v1 v2 v3 v4 v5 v6 v7 : Value) :
  RAt ((((((((w.setCell ⟨g, 0, none⟩ v0).setCell ⟨g, 1, none⟩ v1).setCell ⟨g, 2, none⟩ v2).setCell ⟨g, 3, none⟩ v3).setCell ⟨g, 4, none⟩ v4).setCell ⟨g, 5, none⟩ v5).setCell ⟨g, 6, none⟩ v6).setCell ⟨g, 7, none⟩ v7) ((((((((w.setCell ⟨g, 0, none⟩ v0).setCell ⟨g, 1, none⟩ v1).setCell ⟨g, 2, none⟩ v2).setCell ⟨g, 3, none⟩ v3).setCell ⟨g, 4, none⟩ v4).setCell ⟨g, 5, none⟩ v5).setCell ⟨g, 6, none⟩ v6).setCell ⟨g, 7, none⟩ v7).heap.size ad rs :=
 h.far (n := n) (cap := cap) (by rw [put8_size]; exact Nat.le_refl _) (fun b e _ => put8_other (hk b e) _ _ _ _ _ _ _ _)
theorem mends_fit : ∀ (ms : List S) (fs : List F), Right fs → mendM fs = ms → ∀ m ∈ ms, SFit m
 | [], _, _, _ => fun _ h => by cases h
 | m :: ms, fs, hR, h => by
  obtain ⟨_, _, g3, g4, _, _, _, g8, g9, _⟩ := mend_one hR h
  intro x hx
  rcases List.mem_cons.1 hx with rfl | hx
  ·exact ⟨by omega, by omega⟩
  ·exact mends_fit ms _ g3 g4 x hx
theorem mends_len {fs : List F} (hR : Right fs) : (mendM fs).length ≤ 1000000 := by
 have h1 := filesM_len fs
 have h2 := hR.1
 have h3 : (rdF fs).rest.length ≤ (filesM fs).length := by
  obtain ⟨A, hA⟩ := rdM_rest (filesM fs) (fromM (filesM fs))
  have := congrArg List.length hA
  rw [List.length_append] at this
  show (rdM _ _).rest.length ≤ _
  omega
 have h4 : (rdF fs).cut.length ≤ 1 := by
  rcases rdM_cut (filesM fs) (fromM (filesM fs)) with h | ⟨c, h⟩
  ·show (rdM _ _).cut.length ≤ 1; rw [h]; exact Nat.zero_le _
  ·show (rdM _ _).cut.length ≤ 1; rw [h]; exact Nat.le_refl _
 unfold mendM
 simp only [List.length_append, List.length_map, List.length_reverse]
 omega

set_option maxHeartbeats 4000000 in
theorem open_any (w : World) (ad : Option Addr) (n cap : Nat) (d : D) (size : Int) (h : DIn w ad n cap d.fuse d.fault d.files) (hT : Tabs w) (hw : 3 < w.heap.size) :
  Calls Tryz.prog 31 #[.agg (dcells (.slice ad n cap) d.down d.fuse d.fault), .int .i64 size] w fun e w' => OpP w d size e w' := by
 obtain ⟨fs, down, fuse, fault⟩ := d
 have hb0 : Below w.heap.size w ((w.alloc (.cells (dcells (.slice ad n cap) down fuse fault) 24)).alloc (.cells zlog 27)) := ((Below.refl _ w).alloc (Nat.le_refl _) _).alloc (by rw [sz_alloc]; omega) _
 have hx : ((w.alloc (.cells (dcells (.slice ad n cap) down fuse fault) 24)).alloc (.cells zlog 27)).heap[w.heap.size]? = some (.cells (dcells (.slice ad n cap) down fuse fault) 24 (0, 0)) := (((Below.refl _ (w.alloc (.cells (dcells (.slice ad n cap) down fuse fault) 24))).alloc (Nat.le_refl _) (.cells zlog 27)).block _ (by rw [sz_alloc]; omega)).trans (blk_new w _)
 have hz : ((w.alloc (.cells (dcells (.slice ad n cap) down fuse fault) 24)).alloc (.cells zlog 27)).heap[w.heap.size + 1]? = some (.cells zlog 27 (0, 0)) := by
  have := blk_new (w.alloc (.cells (dcells (.slice ad n cap) down fuse fault) 24)) (.cells zlog 27)
  rwa [sz_alloc] at this
 have HI := Lib.hid (h.under hb0)
 have HT := Lib.hid (hT.under hb0)
 have Hb0 := Lib.hid hb0
 have Hx := Lib.hid hx
 have Hz := Lib.hid hz
 obtain ⟨d0, d1, d2, d3⟩ := box4' hx
 clear h hb0 hx hz hT
 go_enter Tryz.func31, Tryz.ntmps31
 go_wp2_with fail
 by_cases hR : Right fs
 rotate_left
 ·refine (check_no _ ad cap n down fuse fault fs HI.out.i.1 HI.out.i.2.2.2 HI.out.fit hR).mono ?_
  rintro e w1 ⟨rfl, hb1⟩
  have ho : openM ⟨fs, down, fuse, fault⟩ size = (zl, [], 6) := by unfold openM; rw [if_pos hR]
  have Ho := Lib.hid ho
  have Hz1 := Lib.hid ((hb1.block _ (Array.getElem?_eq_some_iff.1 Hz.out).1).trans Hz.out)
  have Hb1 := Lib.hid (Hb0.out.trans (hb1.mono Hb0.out.size))
  clear hb1 hR ho d0 d1 d2 d3
  obtain ⟨y0, y1, y2, y3, y4, y5, y6, y7⟩ := box8 Hz1.out
  have hlz := (Array.getElem?_eq_some_iff.1 Hz1.out).1
  have f0 := frozen_of_row w1 (w.heap.size + 1) 0 _ 27 Hz1.out
  have f1 := frozen_of_row w1 (w.heap.size + 1) 1 _ 27 Hz1.out
  have f2 := frozen_of_row w1 (w.heap.size + 1) 2 _ 27 Hz1.out
  have f3 := frozen_of_row w1 (w.heap.size + 1) 3 _ 27 Hz1.out
  have f4 := frozen_of_row w1 (w.heap.size + 1) 4 _ 27 Hz1.out
  have f5 := frozen_of_row w1 (w.heap.size + 1) 5 _ 27 Hz1.out
  have f6 := frozen_of_row w1 (w.heap.size + 1) 6 _ 27 Hz1.out
  have f7 := frozen_of_row w1 (w.heap.size + 1) 7 _ 27 Hz1.out
  have Hput := Lib.hid (cell_put8 Hz1.out nilV (.bool false) (.int .i64 0) (.int .i64 0) (.int .i64 0) (.int .u64 0) (.int .u64 0) (.bool false))
  go_wp2
  exact bodyPost_ret (v := .tuple #[.agg zlog, nilV, .int .i64 6]) (by simp [results, Tryz.results31, go_sem, y0, y1, y2, y3, y4, y5, y6, y7, Hput.out.1, Hput.out.2.1, Hput.out.2.2.1, Hput.out.2.2.2.1, Hput.out.2.2.2.2.1, Hput.out.2.2.2.2.2.1, Hput.out.2.2.2.2.2.2.1, Hput.out.2.2.2.2.2.2.2]) rfl
   (opP_zero Ho.out (below_put8 Hb1.out (by omega) _ _ _ _ _ _ _ _))
 refine (check_ok _ ad cap n down fuse fault fs HI.out.i.1 HI.out.i.2.2.2 hR).mono ?_
 rintro e w1 ⟨rfl, hb1⟩
 have HR := Lib.hid hR
 have Hz1 := Lib.hid ((hb1.block _ (Array.getElem?_eq_some_iff.1 Hz.out).1).trans Hz.out)
 have Hx1 := Lib.hid ((hb1.block _ (Array.getElem?_eq_some_iff.1 Hx.out).1).trans Hx.out)
 have Hb1 := Lib.hid (Hb0.out.trans (hb1.mono Hb0.out.size))
 have HI1 := Lib.hid (HI.out.under hb1)
 have HT1 := Lib.hid (HT.out.under hb1)
 have hw1 : 3 < w1.heap.size := by have := Hb1.out.size; omega
 clear hb1 hR d0 d1 d2 d3 HI HT Hx Hz Hb0
 obtain ⟨d0, d1, d2, d3⟩ := box4' Hx1.out
 have hlx := (Array.getElem?_eq_some_iff.1 Hx1.out).1
 go_wp2_with fail
 refine (isSize_any w1 size).mono ?_
 rintro e w2 ⟨rfl, rfl⟩
 by_cases hS : 1 ≤ size ∧ size ≤ 262144
 rotate_left
 ·have e : (decide (1 ≤ size) && decide (size ≤ 262144)) = false := by
   by_cases h1 : 1 ≤ size
   ·have : ¬ size ≤ 262144 := fun h => hS ⟨h1, h⟩
    simp [this]
   ·simp [h1]
  rw [e]
  have HS := Lib.hid hS
  clear e hS
  have ho : openM ⟨fs, down, fuse, fault⟩ size = (zl, [], 2) := by unfold openM; rw [if_neg (fun h => h HR.out), if_pos HS.out]
  have Ho := Lib.hid ho
  clear ho d0 d1 d2 d3
  obtain ⟨y0, y1, y2, y3, y4, y5, y6, y7⟩ := box8 Hz1.out
  have hlz := (Array.getElem?_eq_some_iff.1 Hz1.out).1
  have f0 := frozen_of_row w1 (w.heap.size + 1) 0 _ 27 Hz1.out
  have f1 := frozen_of_row w1 (w.heap.size + 1) 1 _ 27 Hz1.out
  have f2 := frozen_of_row w1 (w.heap.size + 1) 2 _ 27 Hz1.out
  have f3 := frozen_of_row w1 (w.heap.size + 1) 3 _ 27 Hz1.out
  have f4 := frozen_of_row w1 (w.heap.size + 1) 4 _ 27 Hz1.out
  have f5 := frozen_of_row w1 (w.heap.size + 1) 5 _ 27 Hz1.out
  have f6 := frozen_of_row w1 (w.heap.size + 1) 6 _ 27 Hz1.out
  have f7 := frozen_of_row w1 (w.heap.size + 1) 7 _ 27 Hz1.out
  have Hput := Lib.hid (cell_put8 Hz1.out nilV (.bool false) (.int .i64 0) (.int .i64 0) (.int .i64 0) (.int .u64 0) (.int .u64 0) (.bool false))
  go_wp2
  exact bodyPost_ret (v := .tuple #[.agg zlog, nilV, .int .i64 2]) (by simp [results, Tryz.results31, go_sem, y0, y1, y2, y3, y4, y5, y6, y7, Hput.out.1, Hput.out.2.1, Hput.out.2.2.1, Hput.out.2.2.2.1, Hput.out.2.2.2.2.1, Hput.out.2.2.2.2.2.1, Hput.out.2.2.2.2.2.2.1, Hput.out.2.2.2.2.2.2.2]) rfl
   (opP_zero Ho.out (below_put8 Hb1.out (by omega) _ _ _ _ _ _ _ _))
 have e : (decide (1 ≤ size) && decide (size ≤ 262144)) = true := by simp [hS.1, hS.2]
 rw [e]
 have HS := Lib.hid hS
 clear e hS
 cases down with
 | true =>
  have ho : openM ⟨fs, true, fuse, fault⟩ size = (zl, [], 17) := by unfold openM; rw [if_neg (fun h => h HR.out), if_neg (fun h => h HS.out), if_pos rfl]
  have Ho := Lib.hid ho
  clear ho
  obtain ⟨y0, y1, y2, y3, y4, y5, y6, y7⟩ := box8 Hz1.out
  have hlz := (Array.getElem?_eq_some_iff.1 Hz1.out).1
  have f0 := frozen_of_row w1 (w.heap.size + 1) 0 _ 27 Hz1.out
  have f1 := frozen_of_row w1 (w.heap.size + 1) 1 _ 27 Hz1.out
  have f2 := frozen_of_row w1 (w.heap.size + 1) 2 _ 27 Hz1.out
  have f3 := frozen_of_row w1 (w.heap.size + 1) 3 _ 27 Hz1.out
  have f4 := frozen_of_row w1 (w.heap.size + 1) 4 _ 27 Hz1.out
  have f5 := frozen_of_row w1 (w.heap.size + 1) 5 _ 27 Hz1.out
  have f6 := frozen_of_row w1 (w.heap.size + 1) 6 _ 27 Hz1.out
  have f7 := frozen_of_row w1 (w.heap.size + 1) 7 _ 27 Hz1.out
  have Hput := Lib.hid (cell_put8 Hz1.out nilV (.bool false) (.int .i64 0) (.int .i64 0) (.int .i64 0) (.int .u64 0) (.int .u64 0) (.bool false))
  go_wp2
  exact bodyPost_ret (v := .tuple #[.agg zlog, nilV, .int .i64 17]) (by simp [results, Tryz.results31, go_sem, y0, y1, y2, y3, y4, y5, y6, y7, Hput.out.1, Hput.out.2.1, Hput.out.2.2.1, Hput.out.2.2.2.1, Hput.out.2.2.2.2.1, Hput.out.2.2.2.2.2.1, Hput.out.2.2.2.2.2.2.1, Hput.out.2.2.2.2.2.2.2]) rfl
   (opP_zero Ho.out (below_put8 Hb1.out (by omega) _ _ _ _ _ _ _ _))
 | false =>
  go_wp2_with fail
  refine (lbegin_any w1 ad cap n ⟨⟨fs, false, fuse, fault⟩, size, 0, 0, false⟩ HI1.out.i (by have h1 := HI1.out.i.1; have h2 := HR.out.1; omega)).mono ?_
  rintro e w2 ⟨g, ad2, n2, cap2, rfl, hg, hi2, ho2, hlow, hof, hb2⟩
  have HL := Lib.hid (show LAt w2 g ad2 n2 cap2 ⟨⟨fs, false, fuse, fault⟩, size, 0, 0, false⟩ from ⟨hg, ⟨hi2, HI1.out.fit, HI1.out.u0, HI1.out.u1, HI1.out.f0, HI1.out.f1⟩, ho2, fun b e => (hof b e).2⟩)
  have Hof := Lib.hid (fun b e => (hof b e).1)
  have Hlow := Lib.hid hlow
  have hz1 := (Array.getElem?_eq_some_iff.1 Hz1.out).1
  have Hz1s := Lib.hid hz1
  have Hz2 := Lib.hid ((hb2.block _ hz1).trans Hz1.out)
  have Hx2 := Lib.hid ((hb2.block _ hlx).trans Hx1.out)
  have HI2 := Lib.hid (HI1.out.under hb2)
  have HT2 := Lib.hid (HT1.out.under hb2)
  have Hb2 := Lib.hid (Hb1.out.trans (hb2.mono Hb1.out.size))
  have Hb2w := Lib.hid hb2
  have hw2 : 4 ≤ w2.heap.size := by have := hb2.size; omega
  clear d0 d1 d2 d3 hlx hg hi2 ho2 hlow hof hb2 hz1 Hx1 Hz1 HI1 HT1
  obtain ⟨d0, d1, d2, d3⟩ := box4' Hx2.out
  have hlx := (Array.getElem?_eq_some_iff.1 Hx2.out).1
  go_wp2_with fail
  refine (read_any w2 ad n cap false fuse fault fs HI2.out.i HR.out HT2.out hw2).mono ?_
  rintro e w3 ⟨rv, mv, rfl, hrr, hmt, hb3⟩
  have hg2 := (Array.getElem?_eq_some_iff.1 HL.out.h).1
  obtain ⟨am, cm, rfl, hsat⟩ := hmt.form g hg2
  obtain ⟨ar, cr, rfl, hat, hob⟩ := hrr.form
  have Hob := Lib.hid hob
  have hcr := hrr.cap
  clear hob
  have HLr := Lib.hid (HL.out.under hb3)
  have Hat := Lib.hid hat
  have Hsat := Lib.hid hsat
  have Hz3 := Lib.hid ((hb3.block _ (Array.getElem?_eq_some_iff.1 Hz2.out).1).trans Hz2.out)
  have Hb3 := Lib.hid (Hb2.out.trans (hb3.mono Hb2.out.size))
  have Hb3w := Lib.hid hb3.size
  have hg3 := (Array.getElem?_eq_some_iff.1 HLr.out.h).1
  have Hfrm := Lib.hid (fromM_bd (filesM fs))
  have Hnx := Lib.hid (rdM_bd (filesM fs) _ (fromM_bd (filesM fs)))
  have Hnl := Lib.hid (mends_len HR.out)
  have Hfit := Lib.hid (mends_fit (mendM fs) fs HR.out rfl)
  obtain ⟨fr1, hfr1⟩ : ∃ x, fromM (filesM fs) = x := ⟨_, rfl⟩
  obtain ⟨nx1, hnx1⟩ : ∃ x, (rdF fs).nx = x := ⟨_, rfl⟩
  obtain ⟨rs1, hrs1⟩ : ∃ x, (rdF fs).rs = x := ⟨_, rfl⟩
  obtain ⟨ms1, hms1⟩ : ∃ x, mendM fs = x := ⟨_, rfl⟩
  obtain ⟨⟨⟨⟨fs5, dn5, fu5, fa5⟩, sz5, fr5, nx5, br5⟩, c5⟩, hr⟩ : ∃ r, doS ⟨⟨fs, false, fuse, fault⟩, size, 0, 0, false⟩ ms1 = r := ⟨_, rfl⟩
  have ho : openM ⟨fs, false, fuse, fault⟩ size = if c5 = 0 then (⟨⟨fs5, dn5, fu5, fa5⟩, sz5, (fr1 : Int), (nx1 : Int), br5⟩, rs1, 0) else (⟨⟨fs5, dn5, fu5, fa5⟩, sz5, fr5, nx5, br5⟩, [], c5) := by
   unfold openM
   rw [if_neg (fun h => h HR.out), if_neg (fun h => h HS.out), if_neg (by simp), hms1, hr, hfr1, hnx1, hrs1]
  have Ho := Lib.hid ho
  rw [hrs1] at hat
  rw [hms1] at hsat
  have Hat := Lib.hid hat
  have Hsat := Lib.hid hsat
  rw [hfr1] at Hfrm
  rw [hms1] at Hnl Hfit
  have Hnx := Lib.hid (show nx1 ≤ 4611686018427387904 from by rw [← hnx1]; exact Hnx.out)
  rw [hrs1] at Hob hcr
  have Hcr := Lib.hid hcr
  clear hcr
  have Hob2 := Lib.hid (show ∀ b, (Value.slice ar rs1.length cr).ownBlock = some b → w2.heap.size ≤ b from Hob.out)
  rw [hfr1, hnx1, hrs1, hms1]
  have Hr := Lib.hid hr
  clear hr ho hat hsat hrr hmt hb3 hfr1 hnx1 hrs1 hms1 d0 d1 d2 d3 hlx
  obtain ⟨W4, hW4⟩ : ∃ W, W = w3.alloc (.cells #[.int .u64 (fr1 : Int), .int .u64 (nx1 : Int), .slice ar rs1.length cr, .slice am ms1.length cm] 100) := ⟨_, rfl⟩
  have hb4 : Below w3.heap.size w3 W4 := by rw [hW4]; exact (Below.refl _ w3).alloc (Nat.le_refl _) _
  have hq4 : W4.heap[w3.heap.size]? = some (.cells #[.int .u64 (fr1 : Int), .int .u64 (nx1 : Int), .slice ar rs1.length cr, .slice am ms1.length cm] 100 (0, 0)) := by rw [hW4]; exact blk_new w3 _
  have HL4 := Lib.hid (HLr.out.under hb4)
  have Hq4 := Lib.hid hq4
  have Hz4 := Lib.hid ((hb4.block _ (Array.getElem?_eq_some_iff.1 Hz3.out).1).trans Hz3.out)
  have Hat4 := Lib.hid (Hat.out.under hb4)
  have Hsat4 := Lib.hid ((Hsat.out.keep (fun k hk _ => hb4.block k hk)).up hb4.size)
  have Hb4 := Lib.hid (Hb3.out.trans (hb4.mono Hb3.out.size))
  have Hs4 := Lib.hid hb4.size
  clear hb4 hq4 HLr Hz3 Hat Hsat Hb3
  go_upto_region 10 with (fail)
  rw [← hW4]
  clear hW4
  obtain ⟨q0, q1, q2, q3⟩ := box4' Hq4.out
  have hlq := (Array.getElem?_eq_some_iff.1 Hq4.out).1
  go_wp2_with fail
  refine (ldo_any W4 g ad2 n2 cap2 _ am cm ms1 HL4.out Hsat4.out Hfit.out Hnl.out).mono ?_
  rw [Hr.out]
  rintro e w5 ⟨ad5, n5, cap5, rfl, hL5, hg5, ho5⟩
  have hgq : w3.heap.size ≠ g := by omega
  have HR5 := Lib.hid (show ∀ b, (Value.slice ar rs1.length cr).ownBlock = some b → g < b ∧ w.heap.size + 1 < b from fun b e => by have h1 := Hob2.out b e; have h2 := Hb2w.out.size; have h3 := Hz1s.out; omega)
  have Hz5 := Lib.hid ((hg5.block _ (Array.getElem?_eq_some_iff.1 Hz4.out).1 (fun e => by injection e with e; have := Hlow.out; have := Hz1s.out; omega)).trans Hz4.out)
  have Hq5 := Lib.hid ((hg5.block _ hlq (fun e => hgq (by injection e))).trans Hq4.out)
  have HL5 := Lib.hid hL5
  have Hb5 := Lib.hid (kd_to_below Hb4.out hg5 (by have := Hlow.out; have := Hb1.out.size; omega) Hb4.out.size)
  have Hat5 := Lib.hid (Hat4.out.far hg5.size (fun b e hb => hg5.block b hb (fun e2 => by injection e2 with e2; have := HR5.out b e; omega)))
  have Ho5 := Lib.hid (show ∀ b, (Value.slice ad5 n5 cap5).ownBlock = some b → w1.heap.size ≤ b from fun b hb => (ho5 b hb).elim (fun h => Hof.out b h) (fun h => by have h1 := Hb2w.out.size; have h2 := Hb3w.out; have h3 := Hs4.out; omega))
  clear hL5 ho5 hg5 q0 q1 q2 q3 hlq
  by_cases hc5 : c5 = 0
  rotate_left
  ·have hc1 : (c5 != 0) = true := by simp [hc5]
   rw [if_neg hc5] at Ho
   clear hc5
   obtain ⟨y0, y1, y2, y3, y4, y5, y6, y7⟩ := box8 Hz5.out
   have hlz := (Array.getElem?_eq_some_iff.1 Hz5.out).1
   have f0 := frozen_of_row w5 (w.heap.size + 1) 0 _ 27 Hz5.out
   have f1 := frozen_of_row w5 (w.heap.size + 1) 1 _ 27 Hz5.out
   have f2 := frozen_of_row w5 (w.heap.size + 1) 2 _ 27 Hz5.out
   have f3 := frozen_of_row w5 (w.heap.size + 1) 3 _ 27 Hz5.out
   have f4 := frozen_of_row w5 (w.heap.size + 1) 4 _ 27 Hz5.out
   have f5 := frozen_of_row w5 (w.heap.size + 1) 5 _ 27 Hz5.out
   have f6 := frozen_of_row w5 (w.heap.size + 1) 6 _ 27 Hz5.out
   have f7 := frozen_of_row w5 (w.heap.size + 1) 7 _ 27 Hz5.out
   have Hput := Lib.hid (cell_put8 Hz5.out (.slice ad5 n5 cap5) (.bool dn5) (.int .i64 fu5) (.int .i64 fa5) (.int .i64 sz5) (.int .u64 fr5) (.int .u64 nx5) (.bool br5))
   obtain ⟨d0, d1, d2, d3, d4, d5, d6, d7⟩ := box8 HL5.out.h
   have hlg5 := (Array.getElem?_eq_some_iff.1 HL5.out.h).1
   go_wp2
   exact bodyPost_ret (v := .tuple #[.agg (lcells (.slice ad5 n5 cap5) dn5 fu5 fa5 sz5 fr5 nx5 br5), nilV, .int .i64 c5]) (by simp [results, Tryz.results31, go_sem, y0, y1, y2, y3, y4, y5, y6, y7, Hput.out.1, Hput.out.2.1, Hput.out.2.2.1, Hput.out.2.2.2.1, Hput.out.2.2.2.2.1, Hput.out.2.2.2.2.2.1, Hput.out.2.2.2.2.2.2.1, Hput.out.2.2.2.2.2.2.2]) rfl
    ⟨below_put8 Hb5.out (by omega) _ _ _ _ _ _ _ _, ad5, n5, cap5, none, 0, by rw [Ho.out]; rfl, by rw [Ho.out]; exact HL5.out.d.put8 (fun e => by have h1 := Ho5.out _ e; have h2 := Hz1s.out; omega) _ _ _ _ _ _ _ _, fun b hb => by have h1 := Ho5.out _ hb; have h2 := Hb1.out.size; omega, by rw [Ho.out]; exact fun hne => absurd rfl hne, by rw [Ho.out]; exact ⟨Nat.le_refl _, fun _ => rfl⟩⟩
  subst hc5
  rw [if_pos rfl] at Ho
  go_upto_region 13 with (fail)
  refine wp_region_any (by kernel_rfl) ?_
  obtain ⟨X5, hX5⟩ : ∃ W, w5.drew = W := ⟨_, rfl⟩
  change wpAny _ _ _ _ _ _ _ (w5.drew)
  rw [hX5]
  have hbx5 : Below w5.heap.size w5 X5 := by rw [← hX5]; exact (Below.refl _ w5).drew
  replace Hz5 := Lib.hid ((hbx5.block _ (Array.getElem?_eq_some_iff.1 Hz5.out).1).trans Hz5.out)
  replace Hq5 := Lib.hid ((hbx5.block _ (Array.getElem?_eq_some_iff.1 Hq5.out).1).trans Hq5.out)
  replace HL5 := Lib.hid (HL5.out.under hbx5)
  replace Hat5 := Lib.hid (Hat5.out.under hbx5)
  replace Hb5 := Lib.hid (Hb5.out.trans (hbx5.mono Hb5.out.size))
  clear hbx5 hX5
  skip
  obtain ⟨d0, d1, d2, d3, d4, d5, d6, d7⟩ := box8 HL5.out.h
  have hlg5 := (Array.getElem?_eq_some_iff.1 HL5.out.h).1
  obtain ⟨q0, q1, q2, q3⟩ := box4' Hq5.out
  have hlq := (Array.getElem?_eq_some_iff.1 Hq5.out).1
  have f5 := frozen_of_row X5 g 5 _ 104 HL5.out.h
  have f6 := frozen_of_row X5 g 6 _ 104 HL5.out.h
  refine wpAny_take (i := 0) (v := ?va_1) rfl (by kernel_rfl) (by kernel_rfl) (by kernel_rfl) (fun _ _ _ h => h) (Or.inl ⟨by kernel_rfl, ?ha_1⟩) ?ra_1
  case ha_1 => (intro w; go_simp; first | done | (with_reducible rfl))
  refine wpAny_take (i := 1) (v := ?va_2) rfl (by kernel_rfl) (by kernel_rfl) (by kernel_rfl) (fun _ _ _ h => h) (Or.inl ⟨by kernel_rfl, ?ha_2⟩) ?ra_2
  case ha_2 => (intro w; go_simp; first | done | (with_reducible rfl))
  refine wpAny_take (i := 2) (v := ?va_3) rfl (by kernel_rfl) (by kernel_rfl) (by kernel_rfl) (fun _ _ _ h => h) (Or.inl ⟨by kernel_rfl, ?ha_3⟩) ?ra_3
  case ha_3 => (intro w; go_simp; first | done | (with_reducible rfl))
  refine wpAny_take (i := 4) (v := ?va_4) rfl (by kernel_rfl) (by kernel_rfl) (by kernel_rfl) (fun _ _ _ h => h) (Or.inl ⟨by kernel_rfl, ?ha_4⟩) ?ra_4
  case ha_4 => (intro w; go_simp; first | done | (with_reducible rfl))
  refine wpAny_ready (rs := [3, 5]) (by kernel_rfl) (by simp) ?_
  refine AllReady.cons rfl (fun K hK => ?_) ?_
  ·skip
   go_simp
   refine hK _ _ ?_
   clear hK K
   refine wpAny_take (i := 6) (v := ?va_5) rfl (by kernel_rfl) (by kernel_rfl) (by kernel_rfl) (fun _ _ _ h => h) (Or.inl ⟨by kernel_rfl, ?ha_5⟩) ?ra_5
   case ha_5 => (intro w; go_simp; first | done | (with_reducible rfl))
   refine wpAny_take (i := 7) (v := ?va_6) rfl (by kernel_rfl) (by kernel_rfl) (by kernel_rfl) (fun _ _ _ h => h) (Or.inl ⟨by kernel_rfl, ?ha_6⟩) ?ra_6
   case ha_6 => (intro w; go_simp; first | done | (with_reducible rfl))
   refine wpAny_take (i := 8) (v := ?va_7) rfl (by kernel_rfl) (by kernel_rfl) (by kernel_rfl) (fun _ _ _ h => h) (Or.inl ⟨by kernel_rfl, ?ha_7⟩) ?ra_7
   case ha_7 => (intro w; go_simp; first | done | (with_reducible rfl))
   refine wpAny_ready (rs := [5, 9]) (by kernel_rfl) (by simp) ?_
   refine AllReady.cons rfl (fun K hK => ?_) ?_
   ·skip
    go_simp
    refine hK _ _ ?_
    clear hK K
    refine wpAny_ready (rs := [9]) (by kernel_rfl) (by simp) ?_
    refine AllReady.cons rfl (fun K hK => ?_) AllReady.nil
    go_simp
    refine hK _ _ ?_
    clear hK K
    refine wpAny_take (i := 10) (v := ?va_8) rfl (by kernel_rfl) (by kernel_rfl) (by kernel_rfl) (fun _ _ _ h => h) (Or.inl ⟨by kernel_rfl, ?ha_8⟩) ?ra_8
    case ha_8 => (intro w; go_simp; first | done | (with_reducible rfl))
    refine wpAny_take (i := 11) (v := ?va_9) rfl (by kernel_rfl) (by kernel_rfl) (by kernel_rfl) (fun _ _ _ h => h) (Or.inl ⟨by kernel_rfl, ?ha_9⟩) ?ra_9
    case ha_9 => (intro w; go_simp; first | done | (with_reducible rfl))
    refine wpAny_take (i := 12) (v := ?va_10) rfl (by kernel_rfl) (by kernel_rfl) (by kernel_rfl) (fun _ _ _ h => h) (Or.inl ⟨by kernel_rfl, ?ha_10⟩) ?ra_10
    case ha_10 => (intro w; go_simp; first | done | (with_reducible rfl))
    refine wpAny_ready (rs := [13]) (by kernel_rfl) (by simp) ?_
    refine AllReady.cons rfl (fun K hK => ?_) AllReady.nil
    go_simp
    refine hK _ _ ?_
    clear hK K
    refine wpAny_done (by kernel_rfl) ?_ _
    try go_simp
    clear d0 d1 d2 d3 d4 d5 d6 d7 f5 f6 q0 q1 q2 q3
    first | (obtain ⟨W6, hW6⟩ : ∃ W, W = (X5.setCell ⟨g, 5, none⟩ (.int .u64 (fr1 : Int))).setCell ⟨g, 6, none⟩ (.int .u64 (nx1 : Int)) := ⟨_, rfl⟩; rw [← hW6]; have HL6 := Lib.hid (show LAt W6 g ad5 n5 cap5 ⟨⟨fs5, dn5, fu5, fa5⟩, sz5, (fr1 : Int), (nx1 : Int), br5⟩ from by rw [hW6]; exact (HL5.out.frm _).nxt _); have hg6 : X5.grownBy W6 (some g) := by rw [hW6]; exact kd_set (kd_set (kd_refl g X5) _) _) | (obtain ⟨W6, hW6⟩ : ∃ W, W = (X5.setCell ⟨g, 6, none⟩ (.int .u64 (nx1 : Int))).setCell ⟨g, 5, none⟩ (.int .u64 (fr1 : Int)) := ⟨_, rfl⟩; rw [← hW6]; have HL6 := Lib.hid (show LAt W6 g ad5 n5 cap5 ⟨⟨fs5, dn5, fu5, fa5⟩, sz5, (fr1 : Int), (nx1 : Int), br5⟩ from by rw [hW6]; exact (HL5.out.nxt _).frm _); have hg6 : X5.grownBy W6 (some g) := by rw [hW6]; exact kd_set (kd_set (kd_refl g X5) _) _)
    have Hz6 := Lib.hid ((hg6.block _ (Array.getElem?_eq_some_iff.1 Hz5.out).1 (fun e => by injection e with e; have := Hlow.out; have := Hz1s.out; omega)).trans Hz5.out)
    have Hq6 := Lib.hid ((hg6.block _ (Array.getElem?_eq_some_iff.1 Hq5.out).1 (fun e => hgq (by injection e))).trans Hq5.out)
    have Hb6 := Lib.hid (kd_to_below Hb5.out hg6 (by have := Hlow.out; have := Hb1.out.size; omega) Hb5.out.size)
    have Hat6 := Lib.hid (Hat5.out.far hg6.size (fun b e hb => hg6.block b hb (fun e2 => by injection e2 with e2; have := HR5.out b e; omega)))
    clear hg6
    go_upto_region 14 with (fail)
    refine wp_region_any (by kernel_rfl) ?_
    obtain ⟨W7, hW7⟩ : ∃ W, W6.drew = W := ⟨_, rfl⟩
    change wpAny _ _ _ _ _ _ _ (W6.drew)
    rw [hW7]
    have hb7 : Below W6.heap.size W6 W7 := by rw [← hW7]; exact (Below.refl _ W6).drew
    have HL7 := Lib.hid (HL6.out.under hb7)
    have Hq7 := Lib.hid ((hb7.block _ (Array.getElem?_eq_some_iff.1 Hq6.out).1).trans Hq6.out)
    have Hz7 := Lib.hid ((hb7.block _ (Array.getElem?_eq_some_iff.1 Hz6.out).1).trans Hz6.out)
    have Hat7 := Lib.hid (Hat6.out.under hb7)
    have Hb7 := Lib.hid (Hb6.out.trans (hb7.mono Hb6.out.size))
    clear hb7 hW7
    obtain ⟨y0, y1, y2, y3, y4, y5, y6, y7⟩ := box8 Hz7.out
    have hlz := (Array.getElem?_eq_some_iff.1 Hz7.out).1
    have f0 := frozen_of_row W7 (w.heap.size + 1) 0 _ 27 Hz7.out
    have f1 := frozen_of_row W7 (w.heap.size + 1) 1 _ 27 Hz7.out
    have f2 := frozen_of_row W7 (w.heap.size + 1) 2 _ 27 Hz7.out
    have f3 := frozen_of_row W7 (w.heap.size + 1) 3 _ 27 Hz7.out
    have f4 := frozen_of_row W7 (w.heap.size + 1) 4 _ 27 Hz7.out
    have f5 := frozen_of_row W7 (w.heap.size + 1) 5 _ 27 Hz7.out
    have f6 := frozen_of_row W7 (w.heap.size + 1) 6 _ 27 Hz7.out
    have f7 := frozen_of_row W7 (w.heap.size + 1) 7 _ 27 Hz7.out
    have Hput := Lib.hid (cell_put8 Hz7.out (.slice ad5 n5 cap5) (.bool dn5) (.int .i64 fu5) (.int .i64 fa5) (.int .i64 sz5) (.int .u64 (fr1 : Int)) (.int .u64 (nx1 : Int)) (.bool br5))
    obtain ⟨d0, d1, d2, d3, d4, d5, d6, d7⟩ := box8 HL7.out.h
    have hqz : w3.heap.size ≠ w.heap.size + 1 := by have h1 := Hz1s.out; have h2 := Hb2w.out.size; have h3 := Hb3w.out; omega
    have qp2 := put8_cell (box4' Hq7.out).2.2.1 hqz (.slice ad5 n5 cap5) (.bool dn5) (.int .i64 fu5) (.int .i64 fa5) (.int .i64 sz5) (.int .u64 (fr1 : Int)) (.int .u64 (nx1 : Int)) (.bool br5)
    clear hqz
    have hlg7 := (Array.getElem?_eq_some_iff.1 HL7.out.h).1
    obtain ⟨q0, q1, q2, q3⟩ := box4' Hq7.out
    have hlq := (Array.getElem?_eq_some_iff.1 Hq7.out).1
    refine wpAny_take (i := 0) (v := ?vb1_1) rfl (by kernel_rfl) (by kernel_rfl) (by kernel_rfl) (fun _ _ _ h => h) (Or.inl ⟨by kernel_rfl, ?hb1_1⟩) ?rb1_1
    case hb1_1 => (intro w; go_simp; first | done | (with_reducible rfl))
    refine wpAny_take (i := 1) (v := ?vb1_2) rfl (by kernel_rfl) (by kernel_rfl) (by kernel_rfl) (fun _ _ _ h => h) (Or.inl ⟨by kernel_rfl, ?hb1_2⟩) ?rb1_2
    case hb1_2 => (intro w; go_simp; first | done | (with_reducible rfl))
    refine wpAny_take (i := 2) (v := ?vb1_3) rfl (by kernel_rfl) (by kernel_rfl) (by kernel_rfl) (fun _ _ _ h => h) (Or.inl ⟨by kernel_rfl, ?hb1_3⟩) ?rb1_3
    case hb1_3 => (intro w; go_simp; first | done | (with_reducible rfl))
    refine wpAny_take (i := 4) (v := ?vb1_4) rfl (by kernel_rfl) (by kernel_rfl) (by kernel_rfl) (fun _ _ _ h => h) (Or.inl ⟨by kernel_rfl, ?hb1_4⟩) ?rb1_4
    case hb1_4 => (intro w; go_simp; first | done | (with_reducible rfl))
    refine wpAny_ready (rs := [3, 5]) (by kernel_rfl) (by simp) ?_
    refine AllReady.cons rfl (fun K hK => ?_) ?_
    ·skip
     go_simp
     refine hK _ _ ?_
     clear hK K
     refine wpAny_ready (rs := [5, 6]) (by kernel_rfl) (by simp) ?_
     refine AllReady.cons rfl (fun K hK => ?_) ?_
     ·skip
      go_simp
      refine hK _ _ ?_
      clear hK K
      refine wpAny_ready (rs := [6]) (by kernel_rfl) (by simp) ?_
      refine AllReady.cons rfl (fun K hK => ?_) AllReady.nil
      go_simp
      refine hK _ _ ?_
      clear hK K
      refine wpAny_ready (rs := [7]) (by kernel_rfl) (by simp) ?_
      refine AllReady.cons rfl (fun K hK => ?_) AllReady.nil
      go_simp
      refine hK _ _ ?_
      clear hK K
      refine wpAny_ready (rs := [8]) (by kernel_rfl) (by simp) ?_
      refine AllReady.cons rfl (fun K hK => ?_) AllReady.nil
      go_simp
      refine hK _ _ ?_
      clear hK K
      refine wpAny_done (by kernel_rfl) ?_ _
      try go_simp
      clear y0 y1 y2 y3 y4 y5 y6 y7 f0 f1 f2 f3 f4 f5 f6 f7 d0 d1 d2 d3 d4 d5 d6 d7 q0 q1 q2 q3 qp2
      go_wp2
      exact bodyPost_ret (v := .tuple #[.agg (lcells (.slice ad5 n5 cap5) dn5 fu5 fa5 sz5 (fr1 : Int) (nx1 : Int) br5), .slice ar rs1.length cr, .int .i64 0]) (by simp [results, Tryz.results31, go_sem, Hput.out.1, Hput.out.2.1, Hput.out.2.2.1, Hput.out.2.2.2.1, Hput.out.2.2.2.2.1, Hput.out.2.2.2.2.2.1, Hput.out.2.2.2.2.2.2.1, Hput.out.2.2.2.2.2.2.2]) rfl
       ⟨below_put8 Hb7.out (by omega) _ _ _ _ _ _ _ _, ad5, n5, cap5, ar, cr, by rw [Ho.out], by rw [Ho.out]; exact HL7.out.d.put8 (fun e => by have h1 := Ho5.out _ e; have h2 := Hz1s.out; omega) _ _ _ _ _ _ _ _, fun b hb => by have h1 := Ho5.out _ hb; have h2 := Hb1.out.size; omega, by rw [Ho.out]; exact Hat7.out.put8 (fun b e => by have := HR5.out b e; omega) _ _ _ _ _ _ _ _, by rw [Ho.out]; exact Hcr.out⟩
     refine AllReady.cons rfl (fun K hK => ?_) AllReady.nil
     go_simp
     refine hK _ _ ?_
     clear hK K
     refine wpAny_ready (rs := [5]) (by kernel_rfl) (by simp) ?_
     refine AllReady.cons rfl (fun K hK => ?_) AllReady.nil
     go_simp
     refine hK _ _ ?_
     clear hK K
     refine wpAny_ready (rs := [7]) (by kernel_rfl) (by simp) ?_
     refine AllReady.cons rfl (fun K hK => ?_) AllReady.nil
     go_simp
     refine hK _ _ ?_
     clear hK K
     refine wpAny_ready (rs := [8]) (by kernel_rfl) (by simp) ?_
     refine AllReady.cons rfl (fun K hK => ?_) AllReady.nil
     go_simp
     refine hK _ _ ?_
     clear hK K
     refine wpAny_done (by kernel_rfl) ?_ _
     try go_simp
     clear y0 y1 y2 y3 y4 y5 y6 y7 f0 f1 f2 f3 f4 f5 f6 f7 d0 d1 d2 d3 d4 d5 d6 d7 q0 q1 q2 q3 qp2
     go_wp2
     exact bodyPost_ret (v := .tuple #[.agg (lcells (.slice ad5 n5 cap5) dn5 fu5 fa5 sz5 (fr1 : Int) (nx1 : Int) br5), .slice ar rs1.length cr, .int .i64 0]) (by simp [results, Tryz.results31, go_sem, Hput.out.1, Hput.out.2.1, Hput.out.2.2.1, Hput.out.2.2.2.1, Hput.out.2.2.2.2.1, Hput.out.2.2.2.2.2.1, Hput.out.2.2.2.2.2.2.1, Hput.out.2.2.2.2.2.2.2]) rfl
      ⟨below_put8 Hb7.out (by omega) _ _ _ _ _ _ _ _, ad5, n5, cap5, ar, cr, by rw [Ho.out], by rw [Ho.out]; exact HL7.out.d.put8 (fun e => by have h1 := Ho5.out _ e; have h2 := Hz1s.out; omega) _ _ _ _ _ _ _ _, fun b hb => by have h1 := Ho5.out _ hb; have h2 := Hb1.out.size; omega, by rw [Ho.out]; exact Hat7.out.put8 (fun b e => by have := HR5.out b e; omega) _ _ _ _ _ _ _ _, by rw [Ho.out]; exact Hcr.out⟩
    refine AllReady.cons rfl (fun K hK => ?_) AllReady.nil
    go_simp
    refine hK _ _ ?_
    clear hK K
    refine wpAny_ready (rs := [3]) (by kernel_rfl) (by simp) ?_
    refine AllReady.cons rfl (fun K hK => ?_) AllReady.nil
    go_simp
    refine hK _ _ ?_
    clear hK K
    refine wpAny_ready (rs := [6]) (by kernel_rfl) (by simp) ?_
    refine AllReady.cons rfl (fun K hK => ?_) AllReady.nil
    go_simp
    refine hK _ _ ?_
    clear hK K
    refine wpAny_ready (rs := [7]) (by kernel_rfl) (by simp) ?_
    refine AllReady.cons rfl (fun K hK => ?_) AllReady.nil
    go_simp
    refine hK _ _ ?_
    clear hK K
    refine wpAny_ready (rs := [8]) (by kernel_rfl) (by simp) ?_
    refine AllReady.cons rfl (fun K hK => ?_) AllReady.nil
    go_simp
    refine hK _ _ ?_
    clear hK K
    refine wpAny_done (by kernel_rfl) ?_ _
    try go_simp
    clear y0 y1 y2 y3 y4 y5 y6 y7 f0 f1 f2 f3 f4 f5 f6 f7 d0 d1 d2 d3 d4 d5 d6 d7 q0 q1 q2 q3 qp2
    go_wp2
    exact bodyPost_ret (v := .tuple #[.agg (lcells (.slice ad5 n5 cap5) dn5 fu5 fa5 sz5 (fr1 : Int) (nx1 : Int) br5), .slice ar rs1.length cr, .int .i64 0]) (by simp [results, Tryz.results31, go_sem, Hput.out.1, Hput.out.2.1, Hput.out.2.2.1, Hput.out.2.2.2.1, Hput.out.2.2.2.2.1, Hput.out.2.2.2.2.2.1, Hput.out.2.2.2.2.2.2.1, Hput.out.2.2.2.2.2.2.2]) rfl
     ⟨below_put8 Hb7.out (by omega) _ _ _ _ _ _ _ _, ad5, n5, cap5, ar, cr, by rw [Ho.out], by rw [Ho.out]; exact HL7.out.d.put8 (fun e => by have h1 := Ho5.out _ e; have h2 := Hz1s.out; omega) _ _ _ _ _ _ _ _, fun b hb => by have h1 := Ho5.out _ hb; have h2 := Hb1.out.size; omega, by rw [Ho.out]; exact Hat7.out.put8 (fun b e => by have := HR5.out b e; omega) _ _ _ _ _ _ _ _, by rw [Ho.out]; exact Hcr.out⟩
   refine AllReady.cons rfl (fun K hK => ?_) AllReady.nil
   go_simp
   refine hK _ _ ?_
   clear hK K
   refine wpAny_ready (rs := [5]) (by kernel_rfl) (by simp) ?_
   refine AllReady.cons rfl (fun K hK => ?_) AllReady.nil
   go_simp
   refine hK _ _ ?_
   clear hK K
   refine wpAny_take (i := 10) (v := ?va_11) rfl (by kernel_rfl) (by kernel_rfl) (by kernel_rfl) (fun _ _ _ h => h) (Or.inl ⟨by kernel_rfl, ?ha_11⟩) ?ra_11
   case ha_11 => (intro w; go_simp; first | done | (with_reducible rfl))
   refine wpAny_take (i := 11) (v := ?va_12) rfl (by kernel_rfl) (by kernel_rfl) (by kernel_rfl) (fun _ _ _ h => h) (Or.inl ⟨by kernel_rfl, ?ha_12⟩) ?ra_12
   case ha_12 => (intro w; go_simp; first | done | (with_reducible rfl))
   refine wpAny_take (i := 12) (v := ?va_13) rfl (by kernel_rfl) (by kernel_rfl) (by kernel_rfl) (fun _ _ _ h => h) (Or.inl ⟨by kernel_rfl, ?ha_13⟩) ?ra_13
   case ha_13 => (intro w; go_simp; first | done | (with_reducible rfl))
   refine wpAny_ready (rs := [13]) (by kernel_rfl) (by simp) ?_
   refine AllReady.cons rfl (fun K hK => ?_) AllReady.nil
   go_simp
   refine hK _ _ ?_
   clear hK K
   refine wpAny_done (by kernel_rfl) ?_ _
   try go_simp
   clear d0 d1 d2 d3 d4 d5 d6 d7 f5 f6 q0 q1 q2 q3
   first | (obtain ⟨W6, hW6⟩ : ∃ W, W = (X5.setCell ⟨g, 5, none⟩ (.int .u64 (fr1 : Int))).setCell ⟨g, 6, none⟩ (.int .u64 (nx1 : Int)) := ⟨_, rfl⟩; rw [← hW6]; have HL6 := Lib.hid (show LAt W6 g ad5 n5 cap5 ⟨⟨fs5, dn5, fu5, fa5⟩, sz5, (fr1 : Int), (nx1 : Int), br5⟩ from by rw [hW6]; exact (HL5.out.frm _).nxt _); have hg6 : X5.grownBy W6 (some g) := by rw [hW6]; exact kd_set (kd_set (kd_refl g X5) _) _) | (obtain ⟨W6, hW6⟩ : ∃ W, W = (X5.setCell ⟨g, 6, none⟩ (.int .u64 (nx1 : Int))).setCell ⟨g, 5, none⟩ (.int .u64 (fr1 : Int)) := ⟨_, rfl⟩; rw [← hW6]; have HL6 := Lib.hid (show LAt W6 g ad5 n5 cap5 ⟨⟨fs5, dn5, fu5, fa5⟩, sz5, (fr1 : Int), (nx1 : Int), br5⟩ from by rw [hW6]; exact (HL5.out.nxt _).frm _); have hg6 : X5.grownBy W6 (some g) := by rw [hW6]; exact kd_set (kd_set (kd_refl g X5) _) _)
   have Hz6 := Lib.hid ((hg6.block _ (Array.getElem?_eq_some_iff.1 Hz5.out).1 (fun e => by injection e with e; have := Hlow.out; have := Hz1s.out; omega)).trans Hz5.out)
   have Hq6 := Lib.hid ((hg6.block _ (Array.getElem?_eq_some_iff.1 Hq5.out).1 (fun e => hgq (by injection e))).trans Hq5.out)
   have Hb6 := Lib.hid (kd_to_below Hb5.out hg6 (by have := Hlow.out; have := Hb1.out.size; omega) Hb5.out.size)
   have Hat6 := Lib.hid (Hat5.out.far hg6.size (fun b e hb => hg6.block b hb (fun e2 => by injection e2 with e2; have := HR5.out b e; omega)))
   clear hg6
   go_upto_region 14 with (fail)
   refine wp_region_any (by kernel_rfl) ?_
   obtain ⟨W7, hW7⟩ : ∃ W, W6.drew = W := ⟨_, rfl⟩
   change wpAny _ _ _ _ _ _ _ (W6.drew)
   rw [hW7]
   have hb7 : Below W6.heap.size W6 W7 := by rw [← hW7]; exact (Below.refl _ W6).drew
   have HL7 := Lib.hid (HL6.out.under hb7)
   have Hq7 := Lib.hid ((hb7.block _ (Array.getElem?_eq_some_iff.1 Hq6.out).1).trans Hq6.out)
   have Hz7 := Lib.hid ((hb7.block _ (Array.getElem?_eq_some_iff.1 Hz6.out).1).trans Hz6.out)
   have Hat7 := Lib.hid (Hat6.out.under hb7)
   have Hb7 := Lib.hid (Hb6.out.trans (hb7.mono Hb6.out.size))
   clear hb7 hW7
   obtain ⟨y0, y1, y2, y3, y4, y5, y6, y7⟩ := box8 Hz7.out
   have hlz := (Array.getElem?_eq_some_iff.1 Hz7.out).1
   have f0 := frozen_of_row W7 (w.heap.size + 1) 0 _ 27 Hz7.out
   have f1 := frozen_of_row W7 (w.heap.size + 1) 1 _ 27 Hz7.out
   have f2 := frozen_of_row W7 (w.heap.size + 1) 2 _ 27 Hz7.out
   have f3 := frozen_of_row W7 (w.heap.size + 1) 3 _ 27 Hz7.out
   have f4 := frozen_of_row W7 (w.heap.size + 1) 4 _ 27 Hz7.out
   have f5 := frozen_of_row W7 (w.heap.size + 1) 5 _ 27 Hz7.out
   have f6 := frozen_of_row W7 (w.heap.size + 1) 6 _ 27 Hz7.out
   have f7 := frozen_of_row W7 (w.heap.size + 1) 7 _ 27 Hz7.out
   have Hput := Lib.hid (cell_put8 Hz7.out (.slice ad5 n5 cap5) (.bool dn5) (.int .i64 fu5) (.int .i64 fa5) (.int .i64 sz5) (.int .u64 (fr1 : Int)) (.int .u64 (nx1 : Int)) (.bool br5))
   obtain ⟨d0, d1, d2, d3, d4, d5, d6, d7⟩ := box8 HL7.out.h
   have hqz : w3.heap.size ≠ w.heap.size + 1 := by have h1 := Hz1s.out; have h2 := Hb2w.out.size; have h3 := Hb3w.out; omega
   have qp2 := put8_cell (box4' Hq7.out).2.2.1 hqz (.slice ad5 n5 cap5) (.bool dn5) (.int .i64 fu5) (.int .i64 fa5) (.int .i64 sz5) (.int .u64 (fr1 : Int)) (.int .u64 (nx1 : Int)) (.bool br5)
   clear hqz
   have hlg7 := (Array.getElem?_eq_some_iff.1 HL7.out.h).1
   obtain ⟨q0, q1, q2, q3⟩ := box4' Hq7.out
   have hlq := (Array.getElem?_eq_some_iff.1 Hq7.out).1
   refine wpAny_take (i := 0) (v := ?vb2_1) rfl (by kernel_rfl) (by kernel_rfl) (by kernel_rfl) (fun _ _ _ h => h) (Or.inl ⟨by kernel_rfl, ?hb2_1⟩) ?rb2_1
   case hb2_1 => (intro w; go_simp; first | done | (with_reducible rfl))
   refine wpAny_take (i := 1) (v := ?vb2_2) rfl (by kernel_rfl) (by kernel_rfl) (by kernel_rfl) (fun _ _ _ h => h) (Or.inl ⟨by kernel_rfl, ?hb2_2⟩) ?rb2_2
   case hb2_2 => (intro w; go_simp; first | done | (with_reducible rfl))
   refine wpAny_take (i := 2) (v := ?vb2_3) rfl (by kernel_rfl) (by kernel_rfl) (by kernel_rfl) (fun _ _ _ h => h) (Or.inl ⟨by kernel_rfl, ?hb2_3⟩) ?rb2_3
   case hb2_3 => (intro w; go_simp; first | done | (with_reducible rfl))
   refine wpAny_take (i := 4) (v := ?vb2_4) rfl (by kernel_rfl) (by kernel_rfl) (by kernel_rfl) (fun _ _ _ h => h) (Or.inl ⟨by kernel_rfl, ?hb2_4⟩) ?rb2_4
   case hb2_4 => (intro w; go_simp; first | done | (with_reducible rfl))
   refine wpAny_ready (rs := [3, 5]) (by kernel_rfl) (by simp) ?_
   refine AllReady.cons rfl (fun K hK => ?_) ?_
   ·skip
    go_simp
    refine hK _ _ ?_
    clear hK K
    refine wpAny_ready (rs := [5, 6]) (by kernel_rfl) (by simp) ?_
    refine AllReady.cons rfl (fun K hK => ?_) ?_
    ·skip
     go_simp
     refine hK _ _ ?_
     clear hK K
     refine wpAny_ready (rs := [6]) (by kernel_rfl) (by simp) ?_
     refine AllReady.cons rfl (fun K hK => ?_) AllReady.nil
     go_simp
     refine hK _ _ ?_
     clear hK K
     refine wpAny_ready (rs := [7]) (by kernel_rfl) (by simp) ?_
     refine AllReady.cons rfl (fun K hK => ?_) AllReady.nil
     go_simp
     refine hK _ _ ?_
     clear hK K
     refine wpAny_ready (rs := [8]) (by kernel_rfl) (by simp) ?_
     refine AllReady.cons rfl (fun K hK => ?_) AllReady.nil
     go_simp
     refine hK _ _ ?_
     clear hK K
     refine wpAny_done (by kernel_rfl) ?_ _
     try go_simp
     clear y0 y1 y2 y3 y4 y5 y6 y7 f0 f1 f2 f3 f4 f5 f6 f7 d0 d1 d2 d3 d4 d5 d6 d7 q0 q1 q2 q3 qp2
     go_wp2
     exact bodyPost_ret (v := .tuple #[.agg (lcells (.slice ad5 n5 cap5) dn5 fu5 fa5 sz5 (fr1 : Int) (nx1 : Int) br5), .slice ar rs1.length cr, .int .i64 0]) (by simp [results, Tryz.results31, go_sem, Hput.out.1, Hput.out.2.1, Hput.out.2.2.1, Hput.out.2.2.2.1, Hput.out.2.2.2.2.1, Hput.out.2.2.2.2.2.1, Hput.out.2.2.2.2.2.2.1, Hput.out.2.2.2.2.2.2.2]) rfl
      ⟨below_put8 Hb7.out (by omega) _ _ _ _ _ _ _ _, ad5, n5, cap5, ar, cr, by rw [Ho.out], by rw [Ho.out]; exact HL7.out.d.put8 (fun e => by have h1 := Ho5.out _ e; have h2 := Hz1s.out; omega) _ _ _ _ _ _ _ _, fun b hb => by have h1 := Ho5.out _ hb; have h2 := Hb1.out.size; omega, by rw [Ho.out]; exact Hat7.out.put8 (fun b e => by have := HR5.out b e; omega) _ _ _ _ _ _ _ _, by rw [Ho.out]; exact Hcr.out⟩
    refine AllReady.cons rfl (fun K hK => ?_) AllReady.nil
    go_simp
    refine hK _ _ ?_
    clear hK K
    refine wpAny_ready (rs := [5]) (by kernel_rfl) (by simp) ?_
    refine AllReady.cons rfl (fun K hK => ?_) AllReady.nil
    go_simp
    refine hK _ _ ?_
    clear hK K
    refine wpAny_ready (rs := [7]) (by kernel_rfl) (by simp) ?_
    refine AllReady.cons rfl (fun K hK => ?_) AllReady.nil
    go_simp
    refine hK _ _ ?_
    clear hK K
    refine wpAny_ready (rs := [8]) (by kernel_rfl) (by simp) ?_
    refine AllReady.cons rfl (fun K hK => ?_) AllReady.nil
    go_simp
    refine hK _ _ ?_
    clear hK K
    refine wpAny_done (by kernel_rfl) ?_ _
    try go_simp
    clear y0 y1 y2 y3 y4 y5 y6 y7 f0 f1 f2 f3 f4 f5 f6 f7 d0 d1 d2 d3 d4 d5 d6 d7 q0 q1 q2 q3 qp2
    go_wp2
    exact bodyPost_ret (v := .tuple #[.agg (lcells (.slice ad5 n5 cap5) dn5 fu5 fa5 sz5 (fr1 : Int) (nx1 : Int) br5), .slice ar rs1.length cr, .int .i64 0]) (by simp [results, Tryz.results31, go_sem, Hput.out.1, Hput.out.2.1, Hput.out.2.2.1, Hput.out.2.2.2.1, Hput.out.2.2.2.2.1, Hput.out.2.2.2.2.2.1, Hput.out.2.2.2.2.2.2.1, Hput.out.2.2.2.2.2.2.2]) rfl
     ⟨below_put8 Hb7.out (by omega) _ _ _ _ _ _ _ _, ad5, n5, cap5, ar, cr, by rw [Ho.out], by rw [Ho.out]; exact HL7.out.d.put8 (fun e => by have h1 := Ho5.out _ e; have h2 := Hz1s.out; omega) _ _ _ _ _ _ _ _, fun b hb => by have h1 := Ho5.out _ hb; have h2 := Hb1.out.size; omega, by rw [Ho.out]; exact Hat7.out.put8 (fun b e => by have := HR5.out b e; omega) _ _ _ _ _ _ _ _, by rw [Ho.out]; exact Hcr.out⟩
   refine AllReady.cons rfl (fun K hK => ?_) AllReady.nil
   go_simp
   refine hK _ _ ?_
   clear hK K
   refine wpAny_ready (rs := [3]) (by kernel_rfl) (by simp) ?_
   refine AllReady.cons rfl (fun K hK => ?_) AllReady.nil
   go_simp
   refine hK _ _ ?_
   clear hK K
   refine wpAny_ready (rs := [6]) (by kernel_rfl) (by simp) ?_
   refine AllReady.cons rfl (fun K hK => ?_) AllReady.nil
   go_simp
   refine hK _ _ ?_
   clear hK K
   refine wpAny_ready (rs := [7]) (by kernel_rfl) (by simp) ?_
   refine AllReady.cons rfl (fun K hK => ?_) AllReady.nil
   go_simp
   refine hK _ _ ?_
   clear hK K
   refine wpAny_ready (rs := [8]) (by kernel_rfl) (by simp) ?_
   refine AllReady.cons rfl (fun K hK => ?_) AllReady.nil
   go_simp
   refine hK _ _ ?_
   clear hK K
   refine wpAny_done (by kernel_rfl) ?_ _
   try go_simp
   clear y0 y1 y2 y3 y4 y5 y6 y7 f0 f1 f2 f3 f4 f5 f6 f7 d0 d1 d2 d3 d4 d5 d6 d7 q0 q1 q2 q3 qp2
   go_wp2
   exact bodyPost_ret (v := .tuple #[.agg (lcells (.slice ad5 n5 cap5) dn5 fu5 fa5 sz5 (fr1 : Int) (nx1 : Int) br5), .slice ar rs1.length cr, .int .i64 0]) (by simp [results, Tryz.results31, go_sem, Hput.out.1, Hput.out.2.1, Hput.out.2.2.1, Hput.out.2.2.2.1, Hput.out.2.2.2.2.1, Hput.out.2.2.2.2.2.1, Hput.out.2.2.2.2.2.2.1, Hput.out.2.2.2.2.2.2.2]) rfl
    ⟨below_put8 Hb7.out (by omega) _ _ _ _ _ _ _ _, ad5, n5, cap5, ar, cr, by rw [Ho.out], by rw [Ho.out]; exact HL7.out.d.put8 (fun e => by have h1 := Ho5.out _ e; have h2 := Hz1s.out; omega) _ _ _ _ _ _ _ _, fun b hb => by have h1 := Ho5.out _ hb; have h2 := Hb1.out.size; omega, by rw [Ho.out]; exact Hat7.out.put8 (fun b e => by have := HR5.out b e; omega) _ _ _ _ _ _ _ _, by rw [Ho.out]; exact Hcr.out⟩
  refine AllReady.cons rfl (fun K hK => ?_) AllReady.nil
  go_simp
  refine hK _ _ ?_
  clear hK K
  refine wpAny_ready (rs := [3]) (by kernel_rfl) (by simp) ?_
  refine AllReady.cons rfl (fun K hK => ?_) AllReady.nil
  go_simp
  refine hK _ _ ?_
  clear hK K
  refine wpAny_take (i := 6) (v := ?va_14) rfl (by kernel_rfl) (by kernel_rfl) (by kernel_rfl) (fun _ _ _ h => h) (Or.inl ⟨by kernel_rfl, ?ha_14⟩) ?ra_14
  case ha_14 => (intro w; go_simp; first | done | (with_reducible rfl))
  refine wpAny_take (i := 7) (v := ?va_15) rfl (by kernel_rfl) (by kernel_rfl) (by kernel_rfl) (fun _ _ _ h => h) (Or.inl ⟨by kernel_rfl, ?ha_15⟩) ?ra_15
  case ha_15 => (intro w; go_simp; first | done | (with_reducible rfl))
  refine wpAny_take (i := 8) (v := ?va_16) rfl (by kernel_rfl) (by kernel_rfl) (by kernel_rfl) (fun _ _ _ h => h) (Or.inl ⟨by kernel_rfl, ?ha_16⟩) ?ra_16
  case ha_16 => (intro w; go_simp; first | done | (with_reducible rfl))
  refine wpAny_ready (rs := [9]) (by kernel_rfl) (by simp) ?_
  refine AllReady.cons rfl (fun K hK => ?_) AllReady.nil
  go_simp
  refine hK _ _ ?_
  clear hK K
  refine wpAny_take (i := 10) (v := ?va_17) rfl (by kernel_rfl) (by kernel_rfl) (by kernel_rfl) (fun _ _ _ h => h) (Or.inl ⟨by kernel_rfl, ?ha_17⟩) ?ra_17
  case ha_17 => (intro w; go_simp; first | done | (with_reducible rfl))
  refine wpAny_take (i := 11) (v := ?va_18) rfl (by kernel_rfl) (by kernel_rfl) (by kernel_rfl) (fun _ _ _ h => h) (Or.inl ⟨by kernel_rfl, ?ha_18⟩) ?ra_18
  case ha_18 => (intro w; go_simp; first | done | (with_reducible rfl))
  refine wpAny_take (i := 12) (v := ?va_19) rfl (by kernel_rfl) (by kernel_rfl) (by kernel_rfl) (fun _ _ _ h => h) (Or.inl ⟨by kernel_rfl, ?ha_19⟩) ?ra_19
  case ha_19 => (intro w; go_simp; first | done | (with_reducible rfl))
  refine wpAny_ready (rs := [13]) (by kernel_rfl) (by simp) ?_
  refine AllReady.cons rfl (fun K hK => ?_) AllReady.nil
  go_simp
  refine hK _ _ ?_
  clear hK K
  refine wpAny_done (by kernel_rfl) ?_ _
  try go_simp
  clear d0 d1 d2 d3 d4 d5 d6 d7 f5 f6 q0 q1 q2 q3
  first | (obtain ⟨W6, hW6⟩ : ∃ W, W = (X5.setCell ⟨g, 5, none⟩ (.int .u64 (fr1 : Int))).setCell ⟨g, 6, none⟩ (.int .u64 (nx1 : Int)) := ⟨_, rfl⟩; rw [← hW6]; have HL6 := Lib.hid (show LAt W6 g ad5 n5 cap5 ⟨⟨fs5, dn5, fu5, fa5⟩, sz5, (fr1 : Int), (nx1 : Int), br5⟩ from by rw [hW6]; exact (HL5.out.frm _).nxt _); have hg6 : X5.grownBy W6 (some g) := by rw [hW6]; exact kd_set (kd_set (kd_refl g X5) _) _) | (obtain ⟨W6, hW6⟩ : ∃ W, W = (X5.setCell ⟨g, 6, none⟩ (.int .u64 (nx1 : Int))).setCell ⟨g, 5, none⟩ (.int .u64 (fr1 : Int)) := ⟨_, rfl⟩; rw [← hW6]; have HL6 := Lib.hid (show LAt W6 g ad5 n5 cap5 ⟨⟨fs5, dn5, fu5, fa5⟩, sz5, (fr1 : Int), (nx1 : Int), br5⟩ from by rw [hW6]; exact (HL5.out.nxt _).frm _); have hg6 : X5.grownBy W6 (some g) := by rw [hW6]; exact kd_set (kd_set (kd_refl g X5) _) _)
  have Hz6 := Lib.hid ((hg6.block _ (Array.getElem?_eq_some_iff.1 Hz5.out).1 (fun e => by injection e with e; have := Hlow.out; have := Hz1s.out; omega)).trans Hz5.out)
  have Hq6 := Lib.hid ((hg6.block _ (Array.getElem?_eq_some_iff.1 Hq5.out).1 (fun e => hgq (by injection e))).trans Hq5.out)
  have Hb6 := Lib.hid (kd_to_below Hb5.out hg6 (by have := Hlow.out; have := Hb1.out.size; omega) Hb5.out.size)
  have Hat6 := Lib.hid (Hat5.out.far hg6.size (fun b e hb => hg6.block b hb (fun e2 => by injection e2 with e2; have := HR5.out b e; omega)))
  clear hg6
  go_upto_region 14 with (fail)
  refine wp_region_any (by kernel_rfl) ?_
  obtain ⟨W7, hW7⟩ : ∃ W, W6.drew = W := ⟨_, rfl⟩
  change wpAny _ _ _ _ _ _ _ (W6.drew)
  rw [hW7]
  have hb7 : Below W6.heap.size W6 W7 := by rw [← hW7]; exact (Below.refl _ W6).drew
  have HL7 := Lib.hid (HL6.out.under hb7)
  have Hq7 := Lib.hid ((hb7.block _ (Array.getElem?_eq_some_iff.1 Hq6.out).1).trans Hq6.out)
  have Hz7 := Lib.hid ((hb7.block _ (Array.getElem?_eq_some_iff.1 Hz6.out).1).trans Hz6.out)
  have Hat7 := Lib.hid (Hat6.out.under hb7)
  have Hb7 := Lib.hid (Hb6.out.trans (hb7.mono Hb6.out.size))
  clear hb7 hW7
  obtain ⟨y0, y1, y2, y3, y4, y5, y6, y7⟩ := box8 Hz7.out
  have hlz := (Array.getElem?_eq_some_iff.1 Hz7.out).1
  have f0 := frozen_of_row W7 (w.heap.size + 1) 0 _ 27 Hz7.out
  have f1 := frozen_of_row W7 (w.heap.size + 1) 1 _ 27 Hz7.out
  have f2 := frozen_of_row W7 (w.heap.size + 1) 2 _ 27 Hz7.out
  have f3 := frozen_of_row W7 (w.heap.size + 1) 3 _ 27 Hz7.out
  have f4 := frozen_of_row W7 (w.heap.size + 1) 4 _ 27 Hz7.out
  have f5 := frozen_of_row W7 (w.heap.size + 1) 5 _ 27 Hz7.out
  have f6 := frozen_of_row W7 (w.heap.size + 1) 6 _ 27 Hz7.out
  have f7 := frozen_of_row W7 (w.heap.size + 1) 7 _ 27 Hz7.out
  have Hput := Lib.hid (cell_put8 Hz7.out (.slice ad5 n5 cap5) (.bool dn5) (.int .i64 fu5) (.int .i64 fa5) (.int .i64 sz5) (.int .u64 (fr1 : Int)) (.int .u64 (nx1 : Int)) (.bool br5))
  obtain ⟨d0, d1, d2, d3, d4, d5, d6, d7⟩ := box8 HL7.out.h
  have hqz : w3.heap.size ≠ w.heap.size + 1 := by have h1 := Hz1s.out; have h2 := Hb2w.out.size; have h3 := Hb3w.out; omega
  have qp2 := put8_cell (box4' Hq7.out).2.2.1 hqz (.slice ad5 n5 cap5) (.bool dn5) (.int .i64 fu5) (.int .i64 fa5) (.int .i64 sz5) (.int .u64 (fr1 : Int)) (.int .u64 (nx1 : Int)) (.bool br5)
  clear hqz
  have hlg7 := (Array.getElem?_eq_some_iff.1 HL7.out.h).1
  obtain ⟨q0, q1, q2, q3⟩ := box4' Hq7.out
  have hlq := (Array.getElem?_eq_some_iff.1 Hq7.out).1
  refine wpAny_take (i := 0) (v := ?vb3_1) rfl (by kernel_rfl) (by kernel_rfl) (by kernel_rfl) (fun _ _ _ h => h) (Or.inl ⟨by kernel_rfl, ?hb3_1⟩) ?rb3_1
  case hb3_1 => (intro w; go_simp; first | done | (with_reducible rfl))
  refine wpAny_take (i := 1) (v := ?vb3_2) rfl (by kernel_rfl) (by kernel_rfl) (by kernel_rfl) (fun _ _ _ h => h) (Or.inl ⟨by kernel_rfl, ?hb3_2⟩) ?rb3_2
  case hb3_2 => (intro w; go_simp; first | done | (with_reducible rfl))
  refine wpAny_take (i := 2) (v := ?vb3_3) rfl (by kernel_rfl) (by kernel_rfl) (by kernel_rfl) (fun _ _ _ h => h) (Or.inl ⟨by kernel_rfl, ?hb3_3⟩) ?rb3_3
  case hb3_3 => (intro w; go_simp; first | done | (with_reducible rfl))
  refine wpAny_take (i := 4) (v := ?vb3_4) rfl (by kernel_rfl) (by kernel_rfl) (by kernel_rfl) (fun _ _ _ h => h) (Or.inl ⟨by kernel_rfl, ?hb3_4⟩) ?rb3_4
  case hb3_4 => (intro w; go_simp; first | done | (with_reducible rfl))
  refine wpAny_ready (rs := [3, 5]) (by kernel_rfl) (by simp) ?_
  refine AllReady.cons rfl (fun K hK => ?_) ?_
  ·skip
   go_simp
   refine hK _ _ ?_
   clear hK K
   refine wpAny_ready (rs := [5, 6]) (by kernel_rfl) (by simp) ?_
   refine AllReady.cons rfl (fun K hK => ?_) ?_
   ·skip
    go_simp
    refine hK _ _ ?_
    clear hK K
    refine wpAny_ready (rs := [6]) (by kernel_rfl) (by simp) ?_
    refine AllReady.cons rfl (fun K hK => ?_) AllReady.nil
    go_simp
    refine hK _ _ ?_
    clear hK K
    refine wpAny_ready (rs := [7]) (by kernel_rfl) (by simp) ?_
    refine AllReady.cons rfl (fun K hK => ?_) AllReady.nil
    go_simp
    refine hK _ _ ?_
    clear hK K
    refine wpAny_ready (rs := [8]) (by kernel_rfl) (by simp) ?_
    refine AllReady.cons rfl (fun K hK => ?_) AllReady.nil
    go_simp
    refine hK _ _ ?_
    clear hK K
    refine wpAny_done (by kernel_rfl) ?_ _
    try go_simp
    clear y0 y1 y2 y3 y4 y5 y6 y7 f0 f1 f2 f3 f4 f5 f6 f7 d0 d1 d2 d3 d4 d5 d6 d7 q0 q1 q2 q3 qp2
    go_wp2
    exact bodyPost_ret (v := .tuple #[.agg (lcells (.slice ad5 n5 cap5) dn5 fu5 fa5 sz5 (fr1 : Int) (nx1 : Int) br5), .slice ar rs1.length cr, .int .i64 0]) (by simp [results, Tryz.results31, go_sem, Hput.out.1, Hput.out.2.1, Hput.out.2.2.1, Hput.out.2.2.2.1, Hput.out.2.2.2.2.1, Hput.out.2.2.2.2.2.1, Hput.out.2.2.2.2.2.2.1, Hput.out.2.2.2.2.2.2.2]) rfl
     ⟨below_put8 Hb7.out (by omega) _ _ _ _ _ _ _ _, ad5, n5, cap5, ar, cr, by rw [Ho.out], by rw [Ho.out]; exact HL7.out.d.put8 (fun e => by have h1 := Ho5.out _ e; have h2 := Hz1s.out; omega) _ _ _ _ _ _ _ _, fun b hb => by have h1 := Ho5.out _ hb; have h2 := Hb1.out.size; omega, by rw [Ho.out]; exact Hat7.out.put8 (fun b e => by have := HR5.out b e; omega) _ _ _ _ _ _ _ _, by rw [Ho.out]; exact Hcr.out⟩
   refine AllReady.cons rfl (fun K hK => ?_) AllReady.nil
   go_simp
   refine hK _ _ ?_
   clear hK K
   refine wpAny_ready (rs := [5]) (by kernel_rfl) (by simp) ?_
   refine AllReady.cons rfl (fun K hK => ?_) AllReady.nil
   go_simp
   refine hK _ _ ?_
   clear hK K
   refine wpAny_ready (rs := [7]) (by kernel_rfl) (by simp) ?_
   refine AllReady.cons rfl (fun K hK => ?_) AllReady.nil
   go_simp
   refine hK _ _ ?_
   clear hK K
   refine wpAny_ready (rs := [8]) (by kernel_rfl) (by simp) ?_
   refine AllReady.cons rfl (fun K hK => ?_) AllReady.nil
   go_simp
   refine hK _ _ ?_
   clear hK K
   refine wpAny_done (by kernel_rfl) ?_ _
   try go_simp
   clear y0 y1 y2 y3 y4 y5 y6 y7 f0 f1 f2 f3 f4 f5 f6 f7 d0 d1 d2 d3 d4 d5 d6 d7 q0 q1 q2 q3 qp2
   go_wp2
   exact bodyPost_ret (v := .tuple #[.agg (lcells (.slice ad5 n5 cap5) dn5 fu5 fa5 sz5 (fr1 : Int) (nx1 : Int) br5), .slice ar rs1.length cr, .int .i64 0]) (by simp [results, Tryz.results31, go_sem, Hput.out.1, Hput.out.2.1, Hput.out.2.2.1, Hput.out.2.2.2.1, Hput.out.2.2.2.2.1, Hput.out.2.2.2.2.2.1, Hput.out.2.2.2.2.2.2.1, Hput.out.2.2.2.2.2.2.2]) rfl
    ⟨below_put8 Hb7.out (by omega) _ _ _ _ _ _ _ _, ad5, n5, cap5, ar, cr, by rw [Ho.out], by rw [Ho.out]; exact HL7.out.d.put8 (fun e => by have h1 := Ho5.out _ e; have h2 := Hz1s.out; omega) _ _ _ _ _ _ _ _, fun b hb => by have h1 := Ho5.out _ hb; have h2 := Hb1.out.size; omega, by rw [Ho.out]; exact Hat7.out.put8 (fun b e => by have := HR5.out b e; omega) _ _ _ _ _ _ _ _, by rw [Ho.out]; exact Hcr.out⟩
  refine AllReady.cons rfl (fun K hK => ?_) AllReady.nil
  go_simp
  refine hK _ _ ?_
  clear hK K
  refine wpAny_ready (rs := [3]) (by kernel_rfl) (by simp) ?_
  refine AllReady.cons rfl (fun K hK => ?_) AllReady.nil
  go_simp
  refine hK _ _ ?_
  clear hK K
  refine wpAny_ready (rs := [6]) (by kernel_rfl) (by simp) ?_
  refine AllReady.cons rfl (fun K hK => ?_) AllReady.nil
  go_simp
  refine hK _ _ ?_
  clear hK K
  refine wpAny_ready (rs := [7]) (by kernel_rfl) (by simp) ?_
  refine AllReady.cons rfl (fun K hK => ?_) AllReady.nil
  go_simp
  refine hK _ _ ?_
  clear hK K
  refine wpAny_ready (rs := [8]) (by kernel_rfl) (by simp) ?_
  refine AllReady.cons rfl (fun K hK => ?_) AllReady.nil
  go_simp
  refine hK _ _ ?_
  clear hK K
  refine wpAny_done (by kernel_rfl) ?_ _
  try go_simp
  clear y0 y1 y2 y3 y4 y5 y6 y7 f0 f1 f2 f3 f4 f5 f6 f7 d0 d1 d2 d3 d4 d5 d6 d7 q0 q1 q2 q3 qp2
  go_wp2
  exact bodyPost_ret (v := .tuple #[.agg (lcells (.slice ad5 n5 cap5) dn5 fu5 fa5 sz5 (fr1 : Int) (nx1 : Int) br5), .slice ar rs1.length cr, .int .i64 0]) (by simp [results, Tryz.results31, go_sem, Hput.out.1, Hput.out.2.1, Hput.out.2.2.1, Hput.out.2.2.2.1, Hput.out.2.2.2.2.1, Hput.out.2.2.2.2.2.1, Hput.out.2.2.2.2.2.2.1, Hput.out.2.2.2.2.2.2.2]) rfl
   ⟨below_put8 Hb7.out (by omega) _ _ _ _ _ _ _ _, ad5, n5, cap5, ar, cr, by rw [Ho.out], by rw [Ho.out]; exact HL7.out.d.put8 (fun e => by have h1 := Ho5.out _ e; have h2 := Hz1s.out; omega) _ _ _ _ _ _ _ _, fun b hb => by have h1 := Ho5.out _ hb; have h2 := Hb1.out.size; omega, by rw [Ho.out]; exact Hat7.out.put8 (fun b e => by have := HR5.out b e; omega) _ _ _ _ _ _ _ _, by rw [Ho.out]; exact Hcr.out⟩
end Go.Proofs.YtlgbehagflnfgaaGreatDoor

/- SEGMENT: THE WALK OVER lives. -/
namespace Go.Proofs.YtlgbehagflnfgaaGreatDoor
open Go.RowKit
set_option maxRecDepth 100000
set_option linter.unusedVariables false
set_option linter.unusedSimpArgs false
/-- a log in a variable -/
structure LVar (w : World) (q : Nat) (ad : Option Addr) (n cap : Nat) (l : L) : Prop where
 b : w.heap[q]? = some (.cells (l.cells (.slice ad n cap)) 27 (0, 0))
 i : LIn w ad n cap l
theorem LVar.under {w w' : World} {q : Nat} {ad : Option Addr} {n cap : Nat} {l : L} (h : LVar w q ad n cap l) (hb : Below w.heap.size w w') : LVar w' q ad n cap l :=
 ⟨(hb.block _ (Array.getElem?_eq_some_iff.1 h.b).1).trans h.b, h.i.under hb⟩
theorem LVar.lt {w : World} {q : Nat} {ad : Option Addr} {n cap : Nat} {l : L} (h : LVar w q ad n cap l) : q < w.heap.size := (Array.getElem?_eq_some_iff.1 h.b).1
theorem blk_put8 {w : World} {g : Nat} {x0 x1 x2 x3 x4 x5 x6 x7 : Value} {t : TypeId} (h : w.heap[g]? = some (.cells #[x0, x1, x2, x3, x4, x5, x6, x7] t (0, 0))) (v0 v1 v2 v3 v4 v5 v6 v7 : Value) :
  ((((((((w.setCell ⟨g, 0, none⟩ v0).setCell ⟨g, 1, none⟩ v1).setCell ⟨g, 2, none⟩ v2).setCell ⟨g, 3, none⟩ v3).setCell ⟨g, 4, none⟩ v4).setCell ⟨g, 5, none⟩ v5).setCell ⟨g, 6, none⟩ v6).setCell ⟨g, 7, none⟩ v7).heap[g]? = some (.cells #[v0, v1, v2, v3, v4, v5, v6, v7] t (0, 0)) := by
 have h0 : (w.setCell ⟨g, 0, none⟩ v0).heap[g]? = some (.cells #[v0, x1, x2, x3, x4, x5, x6, x7] t (0, 0)) := heap_setCell_same _ g 0 _ t _ h
 have h1 : ((w.setCell ⟨g, 0, none⟩ v0).setCell ⟨g, 1, none⟩ v1).heap[g]? = some (.cells #[v0, v1, x2, x3, x4, x5, x6, x7] t (0, 0)) := heap_setCell_same _ g 1 _ t _ h0
 have h2 : (((w.setCell ⟨g, 0, none⟩ v0).setCell ⟨g, 1, none⟩ v1).setCell ⟨g, 2, none⟩ v2).heap[g]? = some (.cells #[v0, v1, v2, x3, x4, x5, x6, x7] t (0, 0)) := heap_setCell_same _ g 2 _ t _ h1
 have h3 : ((((w.setCell ⟨g, 0, none⟩ v0).setCell ⟨g, 1, none⟩ v1).setCell ⟨g, 2, none⟩ v2).setCell ⟨g, 3, none⟩ v3).heap[g]? = some (.cells #[v0, v1, v2, v3, x4, x5, x6, x7] t (0, 0)) := heap_setCell_same _ g 3 _ t _ h2
 have h4 : (((((w.setCell ⟨g, 0, none⟩ v0).setCell ⟨g, 1, none⟩ v1).setCell ⟨g, 2, none⟩ v2).setCell ⟨g, 3, none⟩ v3).setCell ⟨g, 4, none⟩ v4).heap[g]? = some (.cells #[v0, v1, v2, v3, v4, x5, x6, x7] t (0, 0)) := heap_setCell_same _ g 4 _ t _ h3
 have h5 : ((((((w.setCell ⟨g, 0, none⟩ v0).setCell ⟨g, 1, none⟩ v1).setCell ⟨g, 2, none⟩ v2).setCell ⟨g, 3, none⟩ v3).setCell ⟨g, 4, none⟩ v4).setCell ⟨g, 5, none⟩ v5).heap[g]? = some (.cells #[v0, v1, v2, v3, v4, v5, x6, x7] t (0, 0)) := heap_setCell_same _ g 5 _ t _ h4
 have h6 : (((((((w.setCell ⟨g, 0, none⟩ v0).setCell ⟨g, 1, none⟩ v1).setCell ⟨g, 2, none⟩ v2).setCell ⟨g, 3, none⟩ v3).setCell ⟨g, 4, none⟩ v4).setCell ⟨g, 5, none⟩ v5).setCell ⟨g, 6, none⟩ v6).heap[g]? = some (.cells #[v0, v1, v2, v3, v4, v5, v6, x7] t (0, 0)) := heap_setCell_same _ g 6 _ t _ h5
 exact heap_setCell_same _ g 7 _ t _ h6
/-- a log is stored in a variable -/
abbrev putL (w : World) (g : Nat) (l : L) (v : Value) : World := (((((((w.setCell ⟨g, 0, none⟩ v).setCell ⟨g, 1, none⟩ (.bool l.d.down)).setCell ⟨g, 2, none⟩ (.int .i64 l.d.fuse)).setCell ⟨g, 3, none⟩ (.int .i64 l.d.fault)).setCell ⟨g, 4, none⟩ (.int .i64 l.size)).setCell ⟨g, 5, none⟩ (.int .u64 l.fr)).setCell ⟨g, 6, none⟩ (.int .u64 l.nx)).setCell ⟨g, 7, none⟩ (.bool l.broken)
theorem Inp.own_lt {w : World} {B : Nat} {ad : Option Addr} {n cap : Nat} {fs : List F} (h : Inp w B ad n cap fs) (hne : fs ≠ []) : ∀ b, (Value.slice ad n cap).ownBlock = some b → b < B := fun b e => by
 obtain ⟨g, off, rfl, hg, _⟩ := h.2.2.2 hne
 simp [Value.ownBlock] at e
 omega
theorem DIn.put8' {w : World} {ad : Option Addr} {n cap : Nat} {fu fa : Int} {fs : List F} (h : DIn w ad n cap fu fa fs) {g : Nat} (ho : fs ≠ [] → (Value.slice ad n cap).ownBlock ≠ some g) (v0 v1 v2 v3 v4 v5 v6 v7 : Value) :
  DIn ((((((((w.setCell ⟨g, 0, none⟩ v0).setCell ⟨g, 1, none⟩ v1).setCell ⟨g, 2, none⟩ v2).setCell ⟨g, 3, none⟩ v3).setCell ⟨g, 4, none⟩ v4).setCell ⟨g, 5, none⟩ v5).setCell ⟨g, 6, none⟩ v6).setCell ⟨g, 7, none⟩ v7) ad n cap fu fa fs := by
 by_cases e : fs = []
 ·subst e
  exact ⟨⟨h.i.1, h.i.2.1, h.i.2.2.1, fun h => absurd rfl h⟩, h.fit, h.u0, h.u1, h.f0, h.f1⟩
 ·exact h.put8 (ho e) _ _ _ _ _ _ _ _
theorem LVar.put {w : World} {g : Nat} {x0 x1 x2 x3 x4 x5 x6 x7 : Value} (h : w.heap[g]? = some (.cells #[x0, x1, x2, x3, x4, x5, x6, x7] 27 (0, 0))) {ad : Option Addr} {n cap : Nat} {l : L} (hl : LIn w ad n cap l) (hne : l.d.files ≠ [] → (Value.slice ad n cap).ownBlock ≠ some g) : LVar (putL w g l (.slice ad n cap)) g ad n cap l :=
 ⟨blk_put8 h _ _ _ _ _ _ _ _, ⟨hl.d.put8' hne _ _ _ _ _ _ _ _, hl.s0, hl.s1, hl.f0, hl.f1, hl.n0, hl.n1⟩⟩
/-- .. in a new one -/
theorem LVar.new {w : World} {ad : Option Addr} {n cap : Nat} {l : L} (hl : LIn w ad n cap l) : LVar (putL (w.alloc (.cells zlog 27)) w.heap.size l (.slice ad n cap)) w.heap.size ad n cap l :=
 LVar.put (blk_new w _) (hl.under ((Below.refl _ w).alloc (Nat.le_refl _) _)) (fun h e => by have := hl.d.i.own_lt h _ e; omega)
end Go.Proofs.YtlgbehagflnfgaaGreatDoor

/- SEGMENT: THE WALK OVER lives. -/
namespace Go.Proofs.YtlgbehagflnfgaaGreatDoor
open Go.RowKit
set_option maxRecDepth 100000
set_option linter.unusedVariables false
set_option linter.unusedSimpArgs false
/-- a log that came back, in a new variable -/
theorem LVar.alloc {w : World} {ad : Option Addr} {n cap : Nat} {l : L} (hl : LIn w ad n cap l) : LVar (w.alloc (.cells (l.cells (.slice ad n cap)) 27)) w.heap.size ad n cap l :=
 ⟨blk_new w _, hl.under ((Below.refl _ w).alloc (Nat.le_refl _) _)⟩

end Go.Proofs.YtlgbehagflnfgaaGreatDoor

/- SEGMENT: THE WALK OVER kept. -/
namespace Go.Proofs.YtlgbehagflnfgaaGreatDoor
open Go.RowKit
set_option maxRecDepth 100000
set_option linter.unusedVariables false
set_option linter.unusedSimpArgs false
/-- texts that came in -/
def Strs (w : World) (B : Nat) (ad : Option Addr) (ss : List ByteArray) : Prop := ss ≠ [] → ∃ g off, ad = some ⟨g, off, none⟩ ∧ g < B ∧ ∀ i s, ss[i]? = some s → w.cell? ⟨g, off + i, none⟩ = some (.string s)
theorem Strs.keep {w w' : World} {B : Nat} {ad : Option Addr} {ss : List ByteArray} (h : Strs w B ad ss) (hb : Below B w w') : Strs w' B ad ss :=
 fun hne => by obtain ⟨g, off, e, hg, hi⟩ := h hne; exact ⟨g, off, e, hg, fun i k hk => (hb.cell (p := ⟨g, off + i, none⟩) hg).trans (hi i k hk)⟩
theorem RRow.under {w w' : World} {base : Nat} {v : Value} {rs : List Rec} (h : RRow w base v rs) (hb : Below w.heap.size w w') : RRow w' base v rs :=
 h.kept (row := none) ⟨hb.os, hb.tape, hb.output, hb.size, fun k hk _ => hb.block k hk⟩ (by simp)
theorem LIn.set {w : World} {g o : Nat} {v : Value} {ad : Option Addr} {n cap : Nat} {l : L} (h : LIn w ad n cap l) (ho : l.d.files ≠ [] → (Value.slice ad n cap).ownBlock ≠ some g) : LIn (w.setCell ⟨g, o, none⟩ v) ad n cap l := by
 by_cases e : l.d.files = []
 ·exact ⟨⟨⟨h.d.i.1, h.d.i.2.1, h.d.i.2.2.1, fun hh => absurd e hh⟩, h.d.fit, h.d.u0, h.d.u1, h.d.f0, h.d.f1⟩, h.s0, h.s1, h.f0, h.f1, h.n0, h.n1⟩
 ·exact ⟨⟨(Inp.set h.d.i (ho e)).mono (by simp [World.setCell]), h.d.fit, h.d.u0, h.d.u1, h.d.f0, h.d.f1⟩, h.s0, h.s1, h.f0, h.f1, h.n0, h.n1⟩
/-- fuse and fault are set -/
theorem LVar.fz {w : World} {q : Nat} {ad : Option Addr} {n cap : Nat} {l : L} (h : LVar w q ad n cap l) (ho : l.d.files ≠ [] → (Value.slice ad n cap).ownBlock ≠ some q) {u v : Int} (hu : Num u) (hv : Num v) :
  LVar ((w.setCell ⟨q, 2, none⟩ (.int .i64 u)).setCell ⟨q, 3, none⟩ (.int .i64 v)) q ad n cap { l with d := ⟨l.d.files, l.d.down, u, v⟩ } := by
 have h1 := LIn.set (o := 3) (v := .int .i64 v) (LIn.set (o := 2) (v := .int .i64 u) h.i ho) ho
 exact ⟨heap_setCell_same _ q 3 _ 27 _ (heap_setCell_same w q 2 _ 27 _ h.b), ⟨⟨h1.d.i, h1.d.fit, hu.1, hu.2, hv.1, hv.2⟩, h1.s0, h1.s1, h1.f0, h1.f1, h1.n0, h1.n1⟩⟩
/-- another row has grown -/
theorem DIn.grown {w w' : World} {row : Option Nat} {ad : Option Addr} {n cap : Nat} {fu fa : Int} {fs : List F} (h : DIn w ad n cap fu fa fs) (hg : w.grownBy w' row) (hne : ∀ b, (Value.slice ad n cap).ownBlock = some b → row ≠ some b) : DIn w' ad n cap fu fa fs := by
 refine ⟨⟨h.i.1, h.i.2.1, h.i.2.2.1, fun hn => ?_⟩, h.fit, h.u0, h.u1, h.f0, h.f1⟩
 obtain ⟨g, off, rfl, hgs, hc⟩ := h.i.2.2.2 hn
 refine ⟨g, off, rfl, Nat.lt_of_lt_of_le hgs hg.size, fun i f hf => ?_⟩
 have hb := hg.block g hgs (fun e => hne g rfl e.symm)
 obtain ⟨c0, c1, c2⟩ := hc i f hf
 exact ⟨(World.cell?_of_block hb).trans c0, (World.cell?_of_block hb).trans c1, (World.cell?_of_block hb).trans c2⟩
end Go.Proofs.YtlgbehagflnfgaaGreatDoor

/- SEGMENT, MATHEMATICS: what was opened, opened again. -/
namespace Go.Proofs.YtlgbehagflnfgaaGreatDoor
open Go.RowKit
set_option maxRecDepth 100000
set_option linter.unusedVariables false
set_option linter.unusedSimpArgs false
theorem rdF_count {fs : List F} (hR : Right fs) : (rdF fs).rs.length ≤ 16777216 := by
 have h1 := rdM_count (filesM fs) (fromM (filesM fs)) (fun s hs => (hR.ok _ (filesM_mem hs).1).2.1)
 have h2 := filesM_len fs
 have h3 := hR.1
 show (rdM _ _).rs.length ≤ _
 omega
theorem rdF_len (fs : List F) : (rdF fs).nx = fromM (filesM fs) + (rdF fs).rs.length := rdM_len _ _
theorem rdF_bd (fs : List F) : (rdF fs).nx ≤ 4611686018427387904 := rdM_bd _ _ (fromM_bd _)
theorem rdF_seq {fs : List F} {i : Nat} {r : Rec} (h : (rdF fs).rs[i]? = some r) : r.seq = fromM (filesM fs) + i := rdM_seq _ _ i r h
theorem openM_err {d : D} {size : Int} {l : L} {rs : List Rec} {c : Int} (h : openM d size = (l, rs, c)) (hc : c ≠ 0) : rs = [] := by
 unfold openM at h
 split at h
 ·injection h with _ h; injection h with h _; exact h.symm
 split at h
 ·injection h with _ h; injection h with h _; exact h.symm
 split at h
 ·injection h with _ h; injection h with h _; exact h.symm
 split at h
 ·injection h with _ h; injection h with _ h; exact absurd h.symm hc
 ·injection h with _ h; injection h with h _; exact h.symm
/-- what an opening that was OK left -/
structure Opened (l : L) (rs : List Rec) (size : Int) : Prop where
 again : openM l.d size = (l, rs, 0)
 R : LRight l
 br : l.broken = false
 dn : l.d.down = false
 rd : (rdF l.d.files).rs = rs
 len : rs.length ≤ 16777216
 sz : l.size = size
 md : mendM l.d.files = []
 seq : ∃ n : Nat, l.fr = (n : Int) ∧ l.nx = ((n + rs.length : Nat) : Int) ∧ n + rs.length ≤ 4611686018427387904 ∧ ∀ i r, rs[i]? = some r → r.seq = n + i
theorem opened {d : D} {size : Int} {l : L} {rs : List Rec} (h : openM d size = (l, rs, 0)) : Opened l rs size := by
 have hR : Right d.files := Classical.byContradiction fun hn => by
  unfold openM at h; rw [if_pos hn] at h; injection h with _ h; injection h with _ h; cases h
 have hs : 1 ≤ size ∧ size ≤ 262144 := Classical.byContradiction fun hn => by
  unfold openM at h; rw [if_neg (fun q => q hR), if_pos hn] at h; injection h with _ h; injection h with _ h; cases h
 have hd : d.down = false := by
  cases e : d.down with
  | false => rfl
  | true => unfold openM at h; rw [if_neg (fun q => q hR), if_neg (fun q => q hs), if_pos e] at h; injection h with _ h; injection h with _ h; cases h
 obtain ⟨r, _, hM, ho⟩ := open_ok hR hs hd
 rw [h] at ho
 by_cases hc : r.2 = 0
 ·rw [if_pos hc] at ho
  obtain ⟨m1, m2, m3, m4⟩ := hM.ok hc
  have e1 := congrArg Prod.fst ho
  have e2 : rs = (rdF d.files).rs := congrArg (fun x => x.2.1) ho
  simp only at e1
  have hsz := hM.sz
  obtain ⟨⟨⟨gs, dn, fu, fa⟩, sz, fr, nx, br⟩, c⟩ := r
  simp only at m1 m2 m3 m4 hsz e1
  have q1 := hM.R
  have q2 := hM.rs
  have q3 := hM.nx
  have q4 := hM.fm
  simp only at q1 q2 q3 q4
  subst e1 m2 m3 hsz e2
  have hlen := rdF_len d.files
  have hbd := rdF_bd d.files
  refine ⟨?_, ⟨q1, hs, ?_, ?_⟩, rfl, rfl, q2, rdF_count hR, rfl, m1, ⟨fromM (filesM d.files), rfl, ?_, by omega, fun i r hi => rdF_seq hi⟩⟩
  ·unfold openM
   rw [if_neg (fun q => q q1), if_neg (fun q => q hs), if_neg (by simp)]
   simp only [m1, doS, if_pos, q2, q3, q4]
  ·show (fromM (filesM d.files) : Int) ≤ ((rdF d.files).nx : Int)
   omega
  ·show ((rdF d.files).nx : Int) ≤ 4611686018427387904
   omega
  ·show ((rdF d.files).nx : Int) = _
   rw [hlen]
 ·rw [if_neg hc] at ho
  exact absurd (congrArg (fun x => x.2.2) ho).symm hc
end Go.Proofs.YtlgbehagflnfgaaGreatDoor

/- SEGMENT: THE WALK OVER SegmentKeeps. -/
namespace Go.Proofs.YtlgbehagflnfgaaGreatDoor
open Go.RowKit
set_option maxRecDepth 100000
set_option linter.unusedVariables false
set_option linter.unusedSimpArgs false
theorem RAt.pre {w : World} {B : Nat} {ad : Option Addr} {rs a : List Rec} (h : RAt w B ad rs) (hp : ∃ b, rs = a ++ b) : RAt w B ad a := fun hne => by
 obtain ⟨b, rfl⟩ := hp
 obtain ⟨g, off, e, hg, hc⟩ := h (by simp [hne])
 exact ⟨g, off, e, hg, fun i r hi => hc i r (by rw [List.getElem?_append_left (List.getElem?_eq_some_iff.1 hi).1]; exact hi)⟩
end Go.Proofs.YtlgbehagflnfgaaGreatDoor

/- SEGMENT: what is carried through a law's walk. -/
namespace Go.Proofs.YtlgbehagflnfgaaGreatDoor
open Go.RowKit
set_option maxRecDepth 100000
set_option linter.unusedVariables false
set_option linter.unusedSimpArgs false
/-- a block's cells -/
def Blk (w : World) (q : Nat) (cs : Array Value) (t : TypeId) : Prop := w.heap[q]? = some (.cells cs t (0, 0))
theorem Blk.under {w w' : World} {q : Nat} {cs : Array Value} {t : TypeId} (h : Blk w q cs t) (hb : Below w.heap.size w w') : Blk w' q cs t := (hb.block _ (Array.getElem?_eq_some_iff.1 h).1).trans h
theorem Blk.lt {w : World} {q : Nat} {cs : Array Value} {t : TypeId} (h : Blk w q cs t) : q < w.heap.size := (Array.getElem?_eq_some_iff.1 h).1
/-- texts, numbers, records that lie in memory -/
def StrsW (w : World) (ad : Option Addr) (ss : List ByteArray) : Prop := Strs w w.heap.size ad ss
theorem StrsW.under {w w' : World} {ad : Option Addr} {ss : List ByteArray} (h : StrsW w ad ss) (hb : Below w.heap.size w w') : StrsW w' ad ss :=
 fun hne => by obtain ⟨g, off, e, hg, hi⟩ := (Strs.keep h hb) hne; exact ⟨g, off, e, Nat.lt_of_lt_of_le hg hb.size, hi⟩
def IntsW (w : World) (ad : Option Addr) (ks : List Int) : Prop := Ints w w.heap.size ad ks
theorem IntsW.under {w w' : World} {ad : Option Addr} {ks : List Int} (h : IntsW w ad ks) (hb : Below w.heap.size w w') : IntsW w' ad ks :=
 ⟨h.1, fun hne => by obtain ⟨g, off, e, hg, hi⟩ := (Ints.keep h hb).2 hne; exact ⟨g, off, e, Nat.lt_of_lt_of_le hg hb.size, hi⟩⟩
/-- the heap has the package's variables -/
def Big (w : World) : Prop := 3 < w.heap.size
theorem Big.under {w w' : World} (h : Big w) (hb : Below w.heap.size w w') : Big w' := Nat.lt_of_lt_of_le h hb.size
/-- the disk of an opened log, the log itself -/
theorem lin_of {w : World} {ad : Option Addr} {n cap : Nat} {l : L} (hd : DIn w ad n cap l.d.fuse l.d.fault l.d.files) (hR : LRight l) (hf : 0 ≤ l.fr) : LIn w ad n cap l := by
 obtain ⟨h1, h2, h3, h4⟩ := hR
 exact ⟨hd, by omega, by omega, hf, by omega, by omega, by omega⟩
end Go.Proofs.YtlgbehagflnfgaaGreatDoor

/- SEGMENT: THE WALK OVER SegmentTwins. -/
namespace Go.Proofs.YtlgbehagflnfgaaGreatDoor
open Go.RowKit
set_option maxRecDepth 100000
set_option linter.unusedVariables false
set_option linter.unusedSimpArgs false
theorem append_is3 {l : L} {data : ByteArray} {r : L × Int} (hr : appM l data = r) (w : World) (ad : Option Addr) (n cap : Nat) (hR : LRight l) (hbk : l.broken = false) (hds : data.size ≤ 9223372036854775807) (h : LIn w ad n cap l) (hT : Tabs w) (hw : 3 < w.heap.size) :
  Calls Tryz.prog 105 #[.agg (l.cells (.slice ad n cap)), .string data] w fun e w' => ∃ ad2 n2 cap2, e = .returned (.tuple #[.agg (r.1.cells (.slice ad2 n2 cap2)), .int .i64 r.2]) ∧ DIn w' ad2 n2 cap2 r.1.d.fuse r.1.d.fault r.1.d.files ∧ (∀ b, (Value.slice ad2 n2 cap2).ownBlock = some b → w.heap.size ≤ b ∧ Free w' b) ∧ Below w.heap.size w w' := by
 subst hr
 have hn : n ≤ 1000 := by have h1 := h.d.i.1; have h2 := hR.1.1; omega
 have hc : chM (fun l => appM l data) l = appM l data := by unfold chM; rw [if_neg (by rw [hbk]; decide)]
 refine (append_any w ad n cap l data hds h hn hT hw).mono fun e w' hP => ?_
 rcases hP with ⟨hb, ⟨hno, _⟩ | ⟨_, ad2, n2, cap2, he, hd, ho⟩⟩
 ·exact absurd hR hno
 ·rw [hc] at he hd
  exact ⟨ad2, n2, cap2, he, hd, ho, hb⟩
/-- the texts of a list's files are written over -/
def Junk (w : World) (n : Nat) (ad : Option Addr) : Prop := 0 < n → ∃ g off, ad = some ⟨g, off, none⟩ ∧ Free w g ∧ ∀ j, j < n → ∃ v, w.cell? ⟨g, off + j * 3 + 1, none⟩ = some v
theorem Junk.under {w w' : World} {n : Nat} {ad : Option Addr} (h : Junk w n ad) (hb : Below w.heap.size w w') : Junk w' n ad := fun hn => by
 obtain ⟨g, off, e, hf, hc⟩ := h hn
 refine ⟨g, off, e, hf.under hb, fun j hj => ?_⟩
 obtain ⟨v, hv⟩ := hc j hj
 exact ⟨v, (World.cell?_of_block (a := ⟨g, off + j * 3 + 1, none⟩) (hb.block g hf.lt)).trans hv⟩
end Go.Proofs.YtlgbehagflnfgaaGreatDoor

/- QUEUE, MATHEMATICS: what a step leaves of a right queue. -/
namespace Go.Proofs.YtlgbehagflnfgaaGreatDoor
open Go.RowKit
set_option maxRecDepth 100000
set_option linter.unusedVariables false
set_option linter.unusedSimpArgs false

theorem doS_ends : ∀ (ss : List S) (l : L), ((doS l ss).2 = 0 → (doS l ss).1.broken = l.broken) ∧ ((doS l ss).2 ≠ 0 → (doS l ss).1.broken = true)
 | [], l => ⟨fun _ => rfl, fun h => absurd rfl h⟩
 | s :: r, l => by
  unfold doS
  split
  ·exact doS_ends r { l with d := (doo l.d s).1 }
  ·rename_i h
   exact ⟨fun q => absurd q h, fun _ => rfl⟩
theorem doS_num : ∀ (ss : List S) (l : L), Num l.d.fuse → Num l.d.fault → Num (doS l ss).1.d.fuse ∧ Num (doS l ss).1.d.fault
 | [], l, h1, h2 => ⟨h1, h2⟩
 | s :: r, l, h1, h2 => by
  obtain ⟨a, b, c⟩ := doo_all l.d s h1 h2
  unfold doS
  split
  ·exact doS_num r { l with d := (doo l.d s).1 } b c
  ·exact ⟨b, c⟩
/-- what an append leaves -/
structure AppF (l : L) (r : L × Int) : Prop where
 R : LRight r.1
 fr : r.1.fr = l.fr
 sz : r.1.size = l.size
 ok : r.2 = 0 → r.1.broken = l.broken ∧ r.1.nx = l.nx + 1
 no : r.2 ≠ 0 → (r.1 = l ∨ r.1.broken = true) ∧ r.1.nx = l.nx
theorem app_facts {l : L} {d : ByteArray} (hR : LRight l) (hu : Num l.d.fuse) (ha : Num l.d.fault) : AppF l (appM l d) := by
 obtain ⟨h1, h2, h3, h4⟩ := hR
 unfold appM
 split
 ·exact ⟨⟨h1, h2, h3, h4⟩, rfl, rfl, (fun h => by simp at h), fun _ => ⟨.inl rfl, rfl⟩⟩
 split
 ·exact ⟨⟨h1, h2, h3, h4⟩, rfl, rfl, (fun h => by simp at h), fun _ => ⟨.inl rfl, rfl⟩⟩
 rename_i hd hn
 have key : ∀ ss : List S, AppF l (doS l ss) ∨ (doS l ss).2 = 0 := fun ss => by
  obtain ⟨a, b, c, e⟩ := doS_keep ss l h1 hu ha
  by_cases h0 : (doS l ss).2 = 0
  ·exact .inr h0
  ·exact .inl ⟨⟨a, by rw [b]; exact h2, by rw [c, e]; exact h3, by rw [e]; exact h4⟩, c, b, fun h => absurd h h0, fun _ => ⟨.inr ((doS_ends ss l).2 h0), e⟩⟩
 unfold addM
 have k1 : AppF l (add1 l d) ∨ (add1 l d).2 = 0 := by
  unfold add1
  split
  ·exact .inr rfl
  ·exact key _
 have k2 : Right (add1 l d).1.d.files ∧ (add1 l d).1.size = l.size ∧ (add1 l d).1.fr = l.fr ∧ (add1 l d).1.nx = l.nx ∧ ((add1 l d).2 = 0 → (add1 l d).1.broken = l.broken) ∧ Num (add1 l d).1.d.fuse ∧ Num (add1 l d).1.d.fault := by
  unfold add1
  split
  ·exact ⟨h1, rfl, rfl, rfl, fun _ => rfl, hu, ha⟩
  ·obtain ⟨a, b, c, e⟩ := doS_keep [⟨1, nameB l.nx.toNat, ⟨#[]⟩, 0⟩] l h1 hu ha
   exact ⟨a, b, c, e, (doS_ends _ l).1, doS_num _ l hu ha⟩
 obtain ⟨r, hr⟩ : ∃ r, add1 l d = r := ⟨_, rfl⟩
 rw [hr] at k1 k2 ⊢
 obtain ⟨l1, c1⟩ := r
 simp only at k1 k2 ⊢
 obtain ⟨g1, g2, g3, g4, g5, g6, g7⟩ := k2
 by_cases hc : c1 = 0
 ·rw [if_pos hc]
  have g5' := g5 hc
  unfold add2
  obtain ⟨a, b, c, e⟩ := doS_keep [⟨2, lastN2 l1.d.files, frB l d, 0⟩, ⟨3, lastN2 l1.d.files, ⟨#[]⟩, 0⟩] l1 g1 g6 g7
  have hends := doS_ends [⟨2, lastN2 l1.d.files, frB l d, 0⟩, ⟨3, lastN2 l1.d.files, ⟨#[]⟩, 0⟩] l1
  split
  ·rename_i h0
   refine ⟨⟨a, by show _ ∧ _; simp only; rw [b, g2]; exact h2, ?_, ?_⟩, by simp only; rw [c, g3], by simp only; rw [b, g2], fun _ => ⟨by simp only; rw [hends.1 h0, g5'], by simp only; rw [g4]⟩, fun h => absurd rfl h⟩
   ·simp only; rw [c, g3, g4]; omega
   ·simp only; rw [g4]; omega
  ·rename_i h0
   refine ⟨⟨a, by rw [b, g2]; exact h2, by rw [c, e, g3, g4]; exact h3, by rw [e, g4]; exact h4⟩, by rw [c, g3], by rw [b, g2], fun h => absurd h h0, fun _ => ⟨.inr (hends.2 h0), by rw [e, g4]⟩⟩
 ·rw [if_neg hc]
  rcases k1 with k | k
  ·exact k
  ·exact absurd k hc
/-- what a drop leaves -/
structure CutF (l : L) (r : L × Int) : Prop where
 R : Right r.1.d.files
 sz : r.1.size = l.size
 nx : r.1.nx = l.nx
 fr : r.1.fr = l.fr ∨ (0 ≤ r.1.fr ∧ r.1.fr ≤ 4611686018427387904)
 ok : r.2 = 0 → r.1.broken = l.broken
 no : r.2 ≠ 0 → r.1 = l ∨ r.1.broken = true
theorem cut_facts {l : L} {q : Int} (hR : Right l.d.files) (hu : Num l.d.fuse) (ha : Num l.d.fault) : CutF l (cutM l q) := by
 unfold cutM
 split
 ·exact ⟨hR, rfl, rfl, .inl rfl, (fun h => by simp at h), fun _ => .inl rfl⟩
 unfold dropM
 have hk : ∃ ss, dropS l q = doS l ss := ⟨_, rfl⟩
 obtain ⟨ss, hss⟩ := hk
 rw [hss]
 obtain ⟨a, b, c, e⟩ := doS_keep ss l hR hu ha
 have hends := doS_ends ss l
 split
 ·rename_i h0
  split
  ·rename_i s _
   exact ⟨a, b, e, .inr ⟨by simp only; omega, by simp only; have := s.hn; omega⟩, fun _ => hends.1 h0, fun h => absurd rfl h⟩
  ·exact ⟨a, b, e, .inl c, fun _ => hends.1 h0, fun h => absurd rfl h⟩
 ·rename_i h0
  exact ⟨a, b, e, .inl c, fun h => absurd h h0, fun _ => .inr (hends.2 h0)⟩

theorem set_len {α : Type} (l : List α) (i : Nat) (x : α) : (l.set i x).length = l.length := List.length_set
theorem inM_set {nx : Nat} : ∀ {es : List E} {fr i : Nat} {e e2 : E}, inM nx fr es → es[i]? = some e → e2.seq = e.seq → e2.data = e.data → inM nx fr (es.set i e2)
 | x :: t, fr, 0, e, e2, h, hi, h1, h2 => by
  simp at hi
  subst hi
  obtain ⟨a, b, c, d⟩ := h
  refine ⟨by rw [h1]; exact a, by rw [h1]; exact b, by rw [h2]; exact c, ?_⟩
  rw [h1]; exact d
 | x :: t, fr, i + 1, e, e2, h, hi, h1, h2 => by
  obtain ⟨a, b, c, d⟩ := h
  exact ⟨a, b, c, inM_set d (by simpa using hi) h1 h2⟩
theorem inM_erase {nx : Nat} {es : List E} {fr : Nat} (i : Nat) (h : inM nx fr es) : inM nx fr (es.eraseIdx i) := by
 obtain ⟨h1, h2⟩ := inM_iff.1 h
 exact inM_iff.2 ⟨fun e he => h1 e (List.mem_of_mem_eraseIdx he), h2.sublist (List.eraseIdx_sublist _ _)⟩
theorem inM_snoc {nx fr : Nat} {es : List E} {d : ByteArray} (h : inM nx fr es) (hf : fr ≤ nx) (hd : d.size ≤ 65535) : inM (nx + 1) fr (es ++ [⟨nx, d, false⟩]) := by
 obtain ⟨h1, h2⟩ := inM_iff.1 h
 refine inM_iff.2 ⟨fun e he => ?_, ?_⟩
 ·rcases List.mem_append.1 he with q | q
  ·obtain ⟨a, b, c⟩ := h1 e q; exact ⟨a, by omega, c⟩
  ·rw [List.mem_singleton] at q; subst q; exact ⟨hf, by show nx < nx + 1; omega, hd⟩
 ·rw [List.pairwise_append]
  refine ⟨h2, List.pairwise_singleton _ _, fun a ha b hb => ?_⟩
  rw [List.mem_singleton] at hb; subst hb
  exact (h1 a ha).2.1
/-- what a step leaves of a right queue -/
structure StF (q : Q) (a : Ans) : Prop where
 R : a.1.l.fr ≤ a.1.l.nx → (∀ e ∈ a.1.es, a.1.l.fr.toNat ≤ e.seq) → QRight a.1
 no : a.2.2 ≠ 0 → a.2.1 = zE ∧ (a.1 = q ∨ a.1.l.broken = true)
 len : a.1.es.length ≤ max q.es.length q.most.toNat
 fr0 : 0 ≤ a.1.l.fr ∧ a.1.l.fr ≤ 4611686018427387904
 Rf : Right a.1.l.d.files
 nx0 : 0 ≤ a.1.l.nx ∧ a.1.l.nx ≤ 4611686018427387904
theorem st_same {q : Q} (h : QRight q) (hf : 0 ≤ q.l.fr) (c : Int) (hc : c ≠ 0) : StF q (q, zE, c) := by
 have h' := h
 obtain ⟨⟨h1, h2, h3, h4⟩, h5, h6, h7⟩ := h
 exact ⟨fun _ _ => h', fun _ => ⟨rfl, .inl rfl⟩, by simp only; omega, by simp only; omega, h1, by simp only; omega⟩
theorem st_es {q : Q} (h : QRight q) (hf : 0 ≤ q.l.fr) (es : List E) (e : E) (hl : es.length ≤ q.es.length) (hi : inM q.l.nx.toNat q.l.fr.toNat es) : StF q (⟨q.l, es, q.most⟩, e, 0) := by
 obtain ⟨⟨h1, h2, h3, h4⟩, h5, h6, h7⟩ := h
 exact ⟨fun _ _ => ⟨⟨h1, h2, h3, h4⟩, h5, by simp only; omega, hi⟩, fun h => absurd rfl h, by simp only; omega, by simp only; omega, h1, by simp only; omega⟩
theorem findIdx?_lt {α : Type} {p : α → Bool} {l : List α} {i : Nat} (h : l.findIdx? p = some i) : ∃ x, l[i]? = some x ∧ p x = true ∧ ∀ j y, j < i → l[j]? = some y → p y = false := by
  rw [List.findIdx?_eq_some_iff_getElem] at h
  obtain ⟨h1, h2, h3⟩ := h
  refine ⟨l[i], by simp, h2, fun j y hj hy => ?_⟩
  obtain ⟨q1, q2⟩ := List.getElem?_eq_some_iff.1 hy
  have := h3 j hj
  rw [q2] at this
  simpa using this
theorem st_facts {q : Q} (h : QRight q) (hf : 0 ≤ q.l.fr) (hu : Num q.l.d.fuse) (ha : Num q.l.d.fault) (s : QS) (hs : ∀ k, s = .ack k → k < 18446744073709551616) : StF q (chQ q s) := by
 have h' := h
 obtain ⟨⟨h1, h2, h3, h4⟩, h5, h6, h7⟩ := h
 unfold chQ
 split
 ·exact st_same h' hf 6 (by decide)
 rename_i hbr
 replace hbr : q.l.broken = false := by simpa using hbr
 cases s with
 | none => exact st_same h' hf 5 (by decide)
 | lease =>
  show StF q (leaseM q)
  unfold leaseM
  cases hi : freeAt q.es with
  | none => exact st_same h' hf 7 (by decide)
  | some i =>
   obtain ⟨e, he, _⟩ := findIdx?_lt hi
   simp only [he]
   exact st_es h' hf _ _ (by rw [set_len]; exact Nat.le_refl _) (inM_set h7 he rfl rfl)
 | release s =>
  show StF q (releaseM q s)
  unfold releaseM
  cases hi : heldAt q.es s with
  | none => exact st_same h' hf 19 (by decide)
  | some i =>
   obtain ⟨e, he, _⟩ := findIdx?_lt hi
   simp only [he]
   exact st_es h' hf _ _ (by rw [set_len]; exact Nat.le_refl _) (inM_set h7 he rfl rfl)
 | put d =>
  show StF q (putM q d)
  unfold putM
  split
  ·exact st_same h' hf 8 (by decide)
  rename_i hm
  split
  ·exact st_same h' hf 4 (by decide)
  rename_i hd
  have hA := app_facts (l := q.l) (d := putB d) ⟨h1, h2, h3, h4⟩ hu ha
  obtain ⟨r, hr⟩ : ∃ r, appM q.l (putB d) = r := ⟨_, rfl⟩
  rw [hr] at hA ⊢
  obtain ⟨l1, c1⟩ := r
  obtain ⟨a1, a2, a3, a4, a5⟩ := hA
  simp only at a1 a2 a3 a4 a5 ⊢
  split
  ·rename_i hc
   obtain ⟨b1, b2⟩ := a4 hc
   have hin := inM_snoc (d := d) h7 (by omega) (by omega)
   have e1 : l1.nx.toNat = q.l.nx.toNat + 1 := by omega
   refine ⟨fun _ _ => ⟨a1, h5, by simp only [List.length_append, List.length_singleton]; omega, ?_⟩, fun h => absurd rfl h, by simp only [List.length_append, List.length_singleton]; omega, by simp only; omega, a1.1, by simp only; have := a1.2.2.2; omega⟩
   show inM l1.nx.toNat l1.fr.toNat _
   rw [e1, a2]; exact hin
  ·rename_i hc
   obtain ⟨b1, b2⟩ := a5 hc
   refine ⟨fun _ _ => ⟨a1, h5, h6, by simp only; rw [b2, a2]; exact h7⟩, fun _ => ⟨rfl, ?_⟩, by simp only; omega, by simp only; omega, a1.1, by simp only; omega⟩
   rcases b1 with e | e
   ·left; simp only at e ⊢; rw [e]
   ·exact .inr e
 | ack s =>
  show StF q (ackM q s)
  unfold ackM
  cases hi : heldAt q.es s with
  | none => exact st_same h' hf 19 (by decide)
  | some i =>
   simp only
   obtain ⟨e, he, _⟩ := findIdx?_lt hi
   have hlen : (q.es.eraseIdx i).length ≤ q.es.length := (List.eraseIdx_sublist _ _).length_le
   have hA := app_facts (l := q.l) (d := ackB s) ⟨h1, h2, h3, h4⟩ hu ha
   have hnum : Num (appM q.l (ackB s)).1.d.fuse ∧ Num (appM q.l (ackB s)).1.d.fault := by
    unfold appM
    split
    ·exact ⟨hu, ha⟩
    split
    ·exact ⟨hu, ha⟩
    unfold addM
    have k : Num (add1 q.l (ackB s)).1.d.fuse ∧ Num (add1 q.l (ackB s)).1.d.fault := by
     unfold add1
     split
     ·exact ⟨hu, ha⟩
     ·exact doS_num _ _ hu ha
    split
    ·unfold add2
     split
     ·exact doS_num _ _ k.1 k.2
     ·exact doS_num _ _ k.1 k.2
    ·exact k
   obtain ⟨r, hr⟩ : ∃ r, appM q.l (ackB s) = r := ⟨_, rfl⟩
   rw [hr] at hA hnum ⊢
   obtain ⟨l1, c1⟩ := r
   obtain ⟨a1, a2, a3, a4, a5⟩ := hA
   simp only at a1 a2 a3 a4 a5 hnum ⊢
   split
   ·rename_i hc
    obtain ⟨b1, b2⟩ := a4 hc
    unfold drM
    rw [if_pos a1]
    unfold chM
    rw [if_neg (by rw [b1, hbr]; decide)]
    have hC := cut_facts (l := l1) (q := firstM2 l1 (q.es.eraseIdx i)) a1.1 hnum.1 hnum.2
    obtain ⟨r2, hr2⟩ : ∃ r, cutM l1 (firstM2 l1 (q.es.eraseIdx i)) = r := ⟨_, rfl⟩
    show StF q (⟨(cutM l1 (firstM2 l1 (q.es.eraseIdx i))).1, q.es.eraseIdx i, q.most⟩, zE, (cutM l1 (firstM2 l1 (q.es.eraseIdx i))).2)
    rw [hr2] at hC ⊢
    obtain ⟨l2, c2⟩ := r2
    obtain ⟨g1, g2, g3, g4, g5, g6⟩ := hC
    simp only at g1 g2 g3 g4 g5 g6 ⊢
    have hnx := a1.2.2.2
    have hfn := a1.2.2.1
    refine ⟨fun p1 p2 => ⟨⟨g1, by simp only; rw [g2]; exact a1.2.1, p1, by simp only; rw [g3]; exact hnx⟩, h5, by simp only; omega, ?_⟩, fun h => ⟨rfl, ?_⟩, by simp only; omega, ?_, g1, by simp only; omega⟩
    ·exact inM_mono (inM_erase i h7) p2 (by simp only; omega)
    ·rcases g6 h with w | w
     ·-- nothing was dropped: the number is not too great
      exfalso
      have hfirst : ¬ l1.nx < firstM2 l1 (q.es.eraseIdx i) := by
       unfold firstM2
       cases hx : q.es.eraseIdx i with
       | nil => simp only; omega
       | cons x t =>
        have := inM_lt (inM_erase i h7) (x := x) (by rw [hx]; exact List.mem_cons_self)
        simp only; omega
      have : (cutM l1 (firstM2 l1 (q.es.eraseIdx i))).1.broken = true := by
       unfold cutM
       rw [if_neg hfirst]
       unfold cutM at hr2
       rw [if_neg hfirst] at hr2
       unfold dropM at hr2 ⊢
       by_cases h0 : (dropS l1 (firstM2 l1 (q.es.eraseIdx i))).2 = 0
       ·rw [if_pos h0] at hr2
        exact absurd (congrArg Prod.snd hr2).symm h
       ·rw [if_neg h0]
        exact (doS_ends _ l1).2 h0
      rw [hr2] at this
      simp only at this
      rw [w, b1, hbr] at this
      cases this
     ·exact .inr w
    ·simp only
     rcases g4 with w | w <;> omega
   ·rename_i hc
    obtain ⟨b1, b2⟩ := a5 hc
    refine ⟨fun _ _ => ⟨a1, h5, h6, by simp only; rw [b2, a2]; exact h7⟩, fun _ => ⟨rfl, ?_⟩, by simp only; omega, by simp only; omega, a1.1, by simp only; omega⟩
    rcases b1 with e | e
    ·left; simp only at e ⊢; rw [e]
    ·exact .inr e
end Go.Proofs.YtlgbehagflnfgaaGreatDoor

/- QUEUE: THE WALKS OVER write, drop, first. -/
namespace Go.Proofs.YtlgbehagflnfgaaGreatDoor
open Go.RowKit
set_option maxRecDepth 100000
set_option linter.unusedVariables false
set_option linter.unusedSimpArgs false

theorem Tabs.kq {w w' : World} {g : Nat} {u : Value} (h : Tabs w) (hk : Kq g u w w') (hg : 3 < g) (hu : ∀ b, u.ownBlock = some b → 3 < b) : Tabs w' :=
 h.low (n₀ := 4) (Nat.le_refl _) (fun k hk2 => hk.block k (by have := h.sz; omega) (by omega) (fun e => by have := hu k e; omega)) hk.size
/-- a log is stored in a queue's box -/
theorem QAt.log {w : World} {base g : Nat} {ad : Option Addr} {n cap : Nat} {u : Value} {q : Q} (h : QAt w base g ad n cap u q) {ad2 : Option Addr} {n2 cap2 : Nat} {l2 : L} (hl : LIn w ad2 n2 cap2 l2) (hg : (Value.slice ad2 n2 cap2).ownBlock ≠ some g) (hu : ∀ b, (Value.slice ad2 n2 cap2).ownBlock = some b → u.ownBlock ≠ some b) (hv : ∀ b, (Value.slice ad2 n2 cap2).ownBlock = some b → b < w.heap.size) (hvb : ∀ b, (Value.slice ad2 n2 cap2).ownBlock = some b → base ≤ b) :
  QAt ((((((((w.setCell ⟨g, 0, none⟩ (.slice ad2 n2 cap2)).setCell ⟨g, 1, none⟩ (.bool l2.d.down)).setCell ⟨g, 2, none⟩ (.int .i64 l2.d.fuse)).setCell ⟨g, 3, none⟩ (.int .i64 l2.d.fault)).setCell ⟨g, 4, none⟩ (.int .i64 l2.size)).setCell ⟨g, 5, none⟩ (.int .u64 l2.fr)).setCell ⟨g, 6, none⟩ (.int .u64 l2.nx)).setCell ⟨g, 7, none⟩ (.bool l2.broken)) base g ad2 n2 cap2 u ⟨l2, q.es, q.most⟩ ∧ w.grownBy ((((((((w.setCell ⟨g, 0, none⟩ (.slice ad2 n2 cap2)).setCell ⟨g, 1, none⟩ (.bool l2.d.down)).setCell ⟨g, 2, none⟩ (.int .i64 l2.d.fuse)).setCell ⟨g, 3, none⟩ (.int .i64 l2.d.fault)).setCell ⟨g, 4, none⟩ (.int .i64 l2.size)).setCell ⟨g, 5, none⟩ (.int .u64 l2.fr)).setCell ⟨g, 6, none⟩ (.int .u64 l2.nx)).setCell ⟨g, 7, none⟩ (.bool l2.broken)) (some g) := by
 have h0 : (w.setCell ⟨g, 0, none⟩ (.slice ad2 n2 cap2)).heap[g]? = some (.cells #[.slice ad2 n2 cap2, .bool q.l.d.down, .int .i64 q.l.d.fuse, .int .i64 q.l.d.fault, .int .i64 q.l.size, .int .u64 q.l.fr, .int .u64 q.l.nx, .bool q.l.broken, u, .int .i64 q.most] 127 (0, 0)) := heap_setCell_same _ g 0 _ 127 _ h.h
 have h1 : ((w.setCell ⟨g, 0, none⟩ (.slice ad2 n2 cap2)).setCell ⟨g, 1, none⟩ (.bool l2.d.down)).heap[g]? = some (.cells #[.slice ad2 n2 cap2, .bool l2.d.down, .int .i64 q.l.d.fuse, .int .i64 q.l.d.fault, .int .i64 q.l.size, .int .u64 q.l.fr, .int .u64 q.l.nx, .bool q.l.broken, u, .int .i64 q.most] 127 (0, 0)) := heap_setCell_same _ g 1 _ 127 _ h0
 have h2 : (((w.setCell ⟨g, 0, none⟩ (.slice ad2 n2 cap2)).setCell ⟨g, 1, none⟩ (.bool l2.d.down)).setCell ⟨g, 2, none⟩ (.int .i64 l2.d.fuse)).heap[g]? = some (.cells #[.slice ad2 n2 cap2, .bool l2.d.down, .int .i64 l2.d.fuse, .int .i64 q.l.d.fault, .int .i64 q.l.size, .int .u64 q.l.fr, .int .u64 q.l.nx, .bool q.l.broken, u, .int .i64 q.most] 127 (0, 0)) := heap_setCell_same _ g 2 _ 127 _ h1
 have h3 : ((((w.setCell ⟨g, 0, none⟩ (.slice ad2 n2 cap2)).setCell ⟨g, 1, none⟩ (.bool l2.d.down)).setCell ⟨g, 2, none⟩ (.int .i64 l2.d.fuse)).setCell ⟨g, 3, none⟩ (.int .i64 l2.d.fault)).heap[g]? = some (.cells #[.slice ad2 n2 cap2, .bool l2.d.down, .int .i64 l2.d.fuse, .int .i64 l2.d.fault, .int .i64 q.l.size, .int .u64 q.l.fr, .int .u64 q.l.nx, .bool q.l.broken, u, .int .i64 q.most] 127 (0, 0)) := heap_setCell_same _ g 3 _ 127 _ h2
 have h4 : (((((w.setCell ⟨g, 0, none⟩ (.slice ad2 n2 cap2)).setCell ⟨g, 1, none⟩ (.bool l2.d.down)).setCell ⟨g, 2, none⟩ (.int .i64 l2.d.fuse)).setCell ⟨g, 3, none⟩ (.int .i64 l2.d.fault)).setCell ⟨g, 4, none⟩ (.int .i64 l2.size)).heap[g]? = some (.cells #[.slice ad2 n2 cap2, .bool l2.d.down, .int .i64 l2.d.fuse, .int .i64 l2.d.fault, .int .i64 l2.size, .int .u64 q.l.fr, .int .u64 q.l.nx, .bool q.l.broken, u, .int .i64 q.most] 127 (0, 0)) := heap_setCell_same _ g 4 _ 127 _ h3
 have h5 : ((((((w.setCell ⟨g, 0, none⟩ (.slice ad2 n2 cap2)).setCell ⟨g, 1, none⟩ (.bool l2.d.down)).setCell ⟨g, 2, none⟩ (.int .i64 l2.d.fuse)).setCell ⟨g, 3, none⟩ (.int .i64 l2.d.fault)).setCell ⟨g, 4, none⟩ (.int .i64 l2.size)).setCell ⟨g, 5, none⟩ (.int .u64 l2.fr)).heap[g]? = some (.cells #[.slice ad2 n2 cap2, .bool l2.d.down, .int .i64 l2.d.fuse, .int .i64 l2.d.fault, .int .i64 l2.size, .int .u64 l2.fr, .int .u64 q.l.nx, .bool q.l.broken, u, .int .i64 q.most] 127 (0, 0)) := heap_setCell_same _ g 5 _ 127 _ h4
 have h6 : (((((((w.setCell ⟨g, 0, none⟩ (.slice ad2 n2 cap2)).setCell ⟨g, 1, none⟩ (.bool l2.d.down)).setCell ⟨g, 2, none⟩ (.int .i64 l2.d.fuse)).setCell ⟨g, 3, none⟩ (.int .i64 l2.d.fault)).setCell ⟨g, 4, none⟩ (.int .i64 l2.size)).setCell ⟨g, 5, none⟩ (.int .u64 l2.fr)).setCell ⟨g, 6, none⟩ (.int .u64 l2.nx)).heap[g]? = some (.cells #[.slice ad2 n2 cap2, .bool l2.d.down, .int .i64 l2.d.fuse, .int .i64 l2.d.fault, .int .i64 l2.size, .int .u64 l2.fr, .int .u64 l2.nx, .bool q.l.broken, u, .int .i64 q.most] 127 (0, 0)) := heap_setCell_same _ g 6 _ 127 _ h5
 have h7 : ((((((((w.setCell ⟨g, 0, none⟩ (.slice ad2 n2 cap2)).setCell ⟨g, 1, none⟩ (.bool l2.d.down)).setCell ⟨g, 2, none⟩ (.int .i64 l2.d.fuse)).setCell ⟨g, 3, none⟩ (.int .i64 l2.d.fault)).setCell ⟨g, 4, none⟩ (.int .i64 l2.size)).setCell ⟨g, 5, none⟩ (.int .u64 l2.fr)).setCell ⟨g, 6, none⟩ (.int .u64 l2.nx)).setCell ⟨g, 7, none⟩ (.bool l2.broken)).heap[g]? = some (.cells #[.slice ad2 n2 cap2, .bool l2.d.down, .int .i64 l2.d.fuse, .int .i64 l2.d.fault, .int .i64 l2.size, .int .u64 l2.fr, .int .u64 l2.nx, .bool l2.broken, u, .int .i64 q.most] 127 (0, 0)) := heap_setCell_same _ g 7 _ 127 _ h6
 refine ⟨⟨h7, ⟨⟨((Inp.set (Inp.set (Inp.set (Inp.set (Inp.set (Inp.set (Inp.set (Inp.set hl.d.i hg) hg) hg) hg) hg) hg) hg) hg)).mono (by simp [World.setCell]), hl.d.fit, hl.d.u0, hl.d.u1, hl.d.f0, hl.d.f1⟩, hl.s0, hl.s1, hl.f0, hl.f1, hl.n0, hl.n1⟩, hg, (ERow.set_far (ERow.set_far (ERow.set_far (ERow.set_far (ERow.set_far (ERow.set_far (ERow.set_far (ERow.set_far h.row _ h.uo) _ h.uo) _ h.uo) _ h.uo) _ h.uo) _ h.uo) _ h.uo) _ h.uo), h.uo, hu, fun b e => by have := hv b e; simpa [World.setCell] using this, hvb, h.bg, h.fit, h.m⟩, (kd_set (kd_set (kd_set (kd_set (kd_set (kd_set (kd_set (kd_set (kd_refl g w) _) _) _) _) _) _) _) _)⟩

set_option maxHeartbeats 8000000 in
/-- write -/
theorem write_any (w : World) (base g : Nat) (ad : Option Addr) (n cap : Nat) (u : Value) (q : Q) (data : ByteArray) (hds : data.size ≤ 9223372036854775807) (h : QAt w base g ad n cap u q) (hR : LRight q.l) (hbr : q.l.broken = false) (hT : Tabs w) (hw : 3 < w.heap.size) :
  Calls Tryz.prog 77 #[.pointer (some ⟨g, 0, none⟩), .string data] w fun e w' => Ends (appM q.l data).2 (.tuple #[]) e ∧ ∃ ad2 n2 cap2, QAt w' base g ad2 n2 cap2 u ⟨(appM q.l data).1, q.es, q.most⟩ ∧ Kq g u w w' := by
 have H := Lib.hid h
 have HT := Lib.hid hT
 have hR' := hR
 have HR := Lib.hid hR
 obtain ⟨d0, d1, d2, d3, d4, d5, d6, d7, d8, d9⟩ := box10 h.h
 have hlg := h.lt
 obtain ⟨⟨⟨fs, down, fuse, fault⟩, size, fr, nx, broken⟩, es, most⟩ := q
 simp only at hbr
 subst hbr
 have hnum : Num fuse ∧ Num fault := ⟨⟨h.l.d.u0, h.l.d.u1⟩, ⟨h.l.d.f0, h.l.d.f1⟩⟩
 have hF := app_facts (l := ⟨⟨fs, down, fuse, fault⟩, size, fr, nx, false⟩) (d := data) hR' hnum.1 hnum.2
 obtain ⟨⟨⟨⟨gs, dn, fu, fa⟩, sz, fr2, nx2, br2⟩, c⟩, hr⟩ : ∃ r, appM ⟨⟨fs, down, fuse, fault⟩, size, fr, nx, false⟩ data = r := ⟨_, rfl⟩
 rw [hr] at hF ⊢
 have Hr := Lib.hid hr
 have HF := Lib.hid hF
 clear h hT hR hR' hr hF
 go_enter Tryz.func77, Tryz.ntmps77
 go_wp2_with fail
 refine (append_is3 Hr.out w ad n cap HR.out rfl hds H.out.l HT.out hw).mono ?_
 rintro e w1 ⟨ad2, n2, cap2, rfl, hd, ho, hb1⟩
 have Hb1 := Lib.hid (Kq.of_below (g := g) (u := u) hb1)
 have hq1 := H.out.under hb1
 have hl2 : LIn w1 ad2 n2 cap2 ⟨⟨gs, dn, fu, fa⟩, sz, fr2, nx2, br2⟩ := lin_of hd HF.out.R (by have h1 := HF.out.fr; have h2 := H.out.l.f0; simp only at h1 h2 ⊢; omega)
 have hX := QAt.log hq1 hl2 (fun e => by have := (ho _ e).1; omega) (fun b e e2 => by have h1 := (ho _ e).1; have h2 := (H.out.ul b e2).2; omega) (fun b e => (ho b e).2.lt) (fun b e => by have h1 := (ho _ e).1; have h2 := H.out.bg; have h3 := H.out.lt; omega)
 simp only at hX
 clear hd ho hb1 hl2 d0 d1 d2 d3 d4 d5 d6 d7 d8 d9 hlg hnum
 have HX0 := Lib.hid hq1
 obtain ⟨e0, e1, e2, e3, e4, e5, e6, e7, e8, e9⟩ := box10 hq1.h
 obtain ⟨z0, z1, z2, z3, z4, z5, z6, z7, z8, z9⟩ := frz10 hq1.h
 have hlg1 := hq1.lt
 have HX := Lib.hid hX.1
 have HK := Lib.hid (Kq.trans (u1 := u) Hb1.out (Kq.of_box hX.2) (fun b e => .inl e))
 clear hX
 go_upto_region 2 with (fail)
 obtain ⟨X, hXe⟩ : ∃ X, X = ((((((((w1.setCell ⟨g, 0, none⟩ (.slice ad2 n2 cap2)).setCell ⟨g, 1, none⟩ (.bool dn)).setCell ⟨g, 2, none⟩ (.int .i64 fu)).setCell ⟨g, 3, none⟩ (.int .i64 fa)).setCell ⟨g, 4, none⟩ (.int .i64 sz)).setCell ⟨g, 5, none⟩ (.int .u64 fr2)).setCell ⟨g, 6, none⟩ (.int .u64 nx2)).setCell ⟨g, 7, none⟩ (.bool br2)) := ⟨_, rfl⟩
 rw [← hXe]
 have HQX := Lib.hid (show QAt X base g ad2 n2 cap2 u ⟨⟨⟨gs, dn, fu, fa⟩, sz, fr2, nx2, br2⟩, es, most⟩ from by rw [hXe]; exact HX.out)
 have HKX := Lib.hid (show Kq g u w X from by rw [hXe]; exact HK.out)
 clear hXe
 by_cases hc : c = 0
 ·subst hc
  go_wp2_with fail
  refine (on_ok X).mono ?_
  rintro e w3 ⟨rfl, rfl⟩
  go_wp2
  go_end0
  exact ⟨.inl ⟨rfl, rfl⟩, ad2, n2, cap2, HQX.out, HKX.out⟩
 ·have hc2 : (c == 0) = false := by simp [hc]
  have Hc := Lib.hid hc
  clear hc
  go_wp2_with fail
  refine (on_no c hc2 X).mono ?_
  rintro e w3 ⟨rfl, rfl⟩
  go_wp2
  exact ⟨rfl, .inr ⟨Hc.out, rfl⟩, ad2, n2, cap2, HQX.out, HKX.out⟩

set_option maxHeartbeats 8000000 in
/-- drop -/
theorem drop_any2 (w : World) (base g : Nat) (ad : Option Addr) (n cap : Nat) (u : Value) (q : Q) (s : Int) (hs0 : 0 ≤ s) (hs1 : s ≤ 18446744073709551615) (h : QAt w base g ad n cap u q) (hR : LRight q.l) (hbr : q.l.broken = false) (hT : Tabs w) (hw : 3 < w.heap.size) :
  Calls Tryz.prog 83 #[.pointer (some ⟨g, 0, none⟩), .int .u64 s] w fun e w' => Ends (cutM q.l s).2 (.tuple #[]) e ∧ ∃ ad2 n2 cap2, QAt w' base g ad2 n2 cap2 u ⟨(cutM q.l s).1, q.es, q.most⟩ ∧ Kq g u w w' := by
 have H := Lib.hid h
 have HT := Lib.hid hT
 have hR' := hR
 have HR := Lib.hid hR
 obtain ⟨d0, d1, d2, d3, d4, d5, d6, d7, d8, d9⟩ := box10 h.h
 have hlg := h.lt
 obtain ⟨⟨⟨fs, down, fuse, fault⟩, size, fr, nx, broken⟩, es, most⟩ := q
 simp only at hbr
 subst hbr
 have hnum : Num fuse ∧ Num fault := ⟨⟨h.l.d.u0, h.l.d.u1⟩, ⟨h.l.d.f0, h.l.d.f1⟩⟩
 have hF := cut_facts (l := ⟨⟨fs, down, fuse, fault⟩, size, fr, nx, false⟩) (q := s) hR'.1 hnum.1 hnum.2
 have hn : n ≤ 1000 := by have h1 := h.l.d.i.1; have h2 := hR'.1.1; simp only at h1 h2; omega
 have hch : chM (fun l => cutM l s) ⟨⟨fs, down, fuse, fault⟩, size, fr, nx, false⟩ = cutM ⟨⟨fs, down, fuse, fault⟩, size, fr, nx, false⟩ s := by unfold chM; rw [if_neg (by simp)]
 obtain ⟨⟨⟨⟨gs, dn, fu, fa⟩, sz, fr2, nx2, br2⟩, c⟩, hr⟩ : ∃ r, cutM ⟨⟨fs, down, fuse, fault⟩, size, fr, nx, false⟩ s = r := ⟨_, rfl⟩
 rw [hr] at hF hch ⊢
 have Hch := Lib.hid hch
 have HF := Lib.hid hF
 clear h hT hR hR' hr hF hch
 go_enter Tryz.func83, Tryz.ntmps83
 go_wp2_with fail
 refine (drop_any w ad n cap ⟨⟨fs, down, fuse, fault⟩, size, fr, nx, false⟩ s hs0 hs1 H.out.l hn HT.out hw).mono ?_
 rintro e w1 ⟨hb1, ⟨hno, _⟩ | ⟨_, ad2, n2, cap2, rfl, hd, ho⟩⟩
 ·exact absurd HR.out hno
 rw [Hch.out] at hd ⊢
 have Hb1 := Lib.hid (Kq.of_below (g := g) (u := u) hb1)
 have hq1 := H.out.under hb1
 have hl2 : LIn w1 ad2 n2 cap2 ⟨⟨gs, dn, fu, fa⟩, sz, fr2, nx2, br2⟩ := by
  have h1 := HF.out.sz
  have h2 := HF.out.nx
  have h3 := HF.out.fr
  have h4 := H.out.l.f0
  have h5 := H.out.l.n0
  obtain ⟨_, h6, h7, h8⟩ := HR.out
  simp only at h1 h2 h3 h4 h5 h6 h7 h8
  exact ⟨hd, by simp only; omega, by simp only; omega, by simp only; omega, by simp only; omega, by simp only; omega, by simp only; omega⟩
 have hX := QAt.log hq1 hl2 (fun e => by have := (ho _ e).1; omega) (fun b e e2 => by have h1 := (ho _ e).1; have h2 := (H.out.ul b e2).2; omega) (fun b e => (ho b e).2.lt) (fun b e => by have h1 := (ho _ e).1; have h2 := H.out.bg; have h3 := H.out.lt; omega)
 simp only at hX
 clear hd ho hb1 hl2 d0 d1 d2 d3 d4 d5 d6 d7 d8 d9 hlg hnum
 have HX0 := Lib.hid hq1
 obtain ⟨e0, e1, e2, e3, e4, e5, e6, e7, e8, e9⟩ := box10 hq1.h
 obtain ⟨z0, z1, z2, z3, z4, z5, z6, z7, z8, z9⟩ := frz10 hq1.h
 have hlg1 := hq1.lt
 have HX := Lib.hid hX.1
 have HK := Lib.hid (Kq.trans (u1 := u) Hb1.out (Kq.of_box hX.2) (fun b e => .inl e))
 clear hX
 go_upto_region 2 with (fail)
 obtain ⟨X, hXe⟩ : ∃ X, X = ((((((((w1.setCell ⟨g, 0, none⟩ (.slice ad2 n2 cap2)).setCell ⟨g, 1, none⟩ (.bool dn)).setCell ⟨g, 2, none⟩ (.int .i64 fu)).setCell ⟨g, 3, none⟩ (.int .i64 fa)).setCell ⟨g, 4, none⟩ (.int .i64 sz)).setCell ⟨g, 5, none⟩ (.int .u64 fr2)).setCell ⟨g, 6, none⟩ (.int .u64 nx2)).setCell ⟨g, 7, none⟩ (.bool br2)) := ⟨_, rfl⟩
 rw [← hXe]
 have HQX := Lib.hid (show QAt X base g ad2 n2 cap2 u ⟨⟨⟨gs, dn, fu, fa⟩, sz, fr2, nx2, br2⟩, es, most⟩ from by rw [hXe]; exact HX.out)
 have HKX := Lib.hid (show Kq g u w X from by rw [hXe]; exact HK.out)
 clear hXe
 by_cases hc : c = 0
 ·subst hc
  go_wp2_with fail
  refine (on_ok X).mono ?_
  rintro e w3 ⟨rfl, rfl⟩
  go_wp2
  go_end0
  exact ⟨.inl ⟨rfl, rfl⟩, ad2, n2, cap2, HQX.out, HKX.out⟩
 ·have hc2 : (c == 0) = false := by simp [hc]
  have Hc := Lib.hid hc
  clear hc
  go_wp2_with fail
  refine (on_no c hc2 X).mono ?_
  rintro e w3 ⟨rfl, rfl⟩
  go_wp2
  exact ⟨rfl, .inr ⟨Hc.out, rfl⟩, ad2, n2, cap2, HQX.out, HKX.out⟩

theorem qfirst_any (w : World) (base g : Nat) (ad : Option Addr) (n cap : Nat) (u : Value) (q : Q) (h : QAt w base g ad n cap u q) (h64 : q.es.length ≤ 2000) :
  Calls Tryz.prog 84 #[.pointer (some ⟨g, 0, none⟩)] w fun e w' => e = .returned (.int .u64 (firstM2 q.l q.es)) ∧ w = w' := by
 obtain ⟨adu, capu, hu, hE⟩ := EIn.of_row h.row
 subst hu
 obtain ⟨d0, d1, d2, d3, d4, d5, d6, d7, d8, d9⟩ := box10 h.h
 have hlg := h.lt
 have hn := hE.1
 obtain ⟨l, es, most⟩ := q
 cases es with
 | nil =>
  clear h hE
  go_enter Tryz.func84, Tryz.ntmps84
  go_wp2
  go_ret
  exact ⟨rfl, rfl⟩
 | cons e t =>
  obtain ⟨g1, o1, hadu, hg1, hc1⟩ := hE.2.2.2 (by simp)
  obtain ⟨q0, q1, q2⟩ := hc1 0 e rfl
  subst hadu
  simp only [Nat.zero_mul, Nat.add_zero] at q0 q1 q2
  obtain ⟨M, hM⟩ : ∃ M, (e :: t).length = M := ⟨_, rfl⟩
  have hz2 : 0 < M := by rw [← hM]; simp
  have hz : (((M : Nat) : Int) == 0) = false := by simp; omega
  have hz1 : (0 : Int) < (M : Int) := by omega
  simp only at d8
  rw [hM] at d8
  clear h hE hc1 hM hn
  go_enter Tryz.func84, Tryz.ntmps84
  go_wp2
  go_ret
  exact ⟨rfl, rfl⟩
end Go.Proofs.YtlgbehagflnfgaaGreatDoor
