/- THE WALKS OVER copied, copiedPair, copiedPairs, the program's. -/
import Derived.Test.YtnnnnlcpmocnfaaDoorCp1
import Derived.Deep.RegionHeld3
import Derived.Deep.RegionLaw
import Derived.StillTailTactics
import Derived.WalkLawsBesides
import Derived.Outline
namespace Go.Proofs.YtnnnnlcpmocnfaaDoor
open Go.RowKit
set_option linter.unusedVariables false
set_option linter.unusedSimpArgs false
attribute [local go_sem] run_store_float


theorem zero_box8 {w : World} {g : Nat} {t : TypeId} (h : w.heap[g]? = some (.cells #[.string ⟨#[]⟩, .int .u8 0, .string ⟨#[]⟩, .bool false, .int .i64 0, .float .f64 0, .slice none 0 0, .slice none 0 0] t (0, 0))) :
    (w.cell? ⟨g, 0, none⟩ = some (.string ⟨#[]⟩) ∧ w.cell? ⟨g, 1, none⟩ = some (.int .u8 0) ∧ w.cell? ⟨g, 2, none⟩ = some (.string ⟨#[]⟩) ∧ w.cell? ⟨g, 3, none⟩ = some (.bool false) ∧ w.cell? ⟨g, 4, none⟩ = some (.int .i64 0) ∧ w.cell? ⟨g, 5, none⟩ = some (.float .f64 0) ∧ w.cell? ⟨g, 6, none⟩ = some (.slice none 0 0) ∧ w.cell? ⟨g, 7, none⟩ = some (.slice none 0 0)) ∧
    w.frozen? ⟨g, 0, none⟩ = false ∧ w.frozen? ⟨g, 1, none⟩ = false ∧ w.frozen? ⟨g, 2, none⟩ = false ∧ w.frozen? ⟨g, 3, none⟩ = false ∧ w.frozen? ⟨g, 4, none⟩ = false ∧ w.frozen? ⟨g, 5, none⟩ = false ∧ w.frozen? ⟨g, 6, none⟩ = false ∧ w.frozen? ⟨g, 7, none⟩ = false :=
  ⟨⟨cell_of_row w g 0 _ t (0, 0) h, cell_of_row w g 1 _ t (0, 0) h, cell_of_row w g 2 _ t (0, 0) h, cell_of_row w g 3 _ t (0, 0) h, cell_of_row w g 4 _ t (0, 0) h, cell_of_row w g 5 _ t (0, 0) h, cell_of_row w g 6 _ t (0, 0) h, cell_of_row w g 7 _ t (0, 0) h⟩, frozen_of_row w g 0 _ t h, frozen_of_row w g 1 _ t h, frozen_of_row w g 2 _ t h, frozen_of_row w g 3 _ t h, frozen_of_row w g 4 _ t h, frozen_of_row w g 5 _ t h, frozen_of_row w g 6 _ t h, frozen_of_row w g 7 _ t h⟩

theorem set_cell_far {w : World} {a b : Addr} {u v : Value} (h : w.cell? b = some v) (hne : b.block ≠ a.block) : (w.setCell a u).cell? b = some v := (World.cell?_of_block (w := w) (Below.heap_setCell w a u b.block hne)).trans h
set_option maxRecDepth 100000 in
set_option maxHeartbeats 8000000 in
theorem copied1_of (key : ByteArray) (x : V) (ih : CopyC 60 x) (w : World) (q1 q2 : Value) (hx : Rep Any w q1 q2 x) : Calls Tryd.prog 62 #[.agg (pv key x q1 q2)] w (Copied1 key x w) := by
  obtain ⟨adc, capc, rfl, _⟩ := hx.parts.2.1.form
  obtain ⟨add, capd, rfl, _⟩ := hx.parts.2.2.form
  obtain ⟨W, hW⟩ : ∃ W, W = (w.alloc (.cells (pv key x (.slice adc x.l.length capc) (.slice add x.p.length capd)) 51)).alloc (.cells #[.string ⟨#[]⟩, .int .u8 0, .string ⟨#[]⟩, .bool false, .int .i64 0, .float .f64 0, .slice none 0 0, .slice none 0 0] 51) := ⟨_, rfl⟩
  have hA : At8 W w.heap.size 0 key x (.slice adc x.l.length capc) (.slice add x.p.length capd) := At8.box (t := 51) (by rw [hW]; exact blk_alloc (blk_new w _) _)
  have hres : W.heap[w.heap.size + 1]? = some (.cells #[.string ⟨#[]⟩, .int .u8 0, .string ⟨#[]⟩, .bool false, .int .i64 0, .float .f64 0, .slice none 0 0, .slice none 0 0] 51 (0, 0)) := by rw [hW]; exact blk_at (by simp)
  have hb0 : Below w.heap.size w W := by rw [hW]; exact ((Below.refl _ _).alloc (Nat.le_refl _) _).alloc (by simp) _
  have HA := Lib.hid hA
  have Hres := Lib.hid hres
  have HW := Lib.hid hW
  have Hb0 := Lib.hid hb0
  have Hrep := Lib.hid (hx.under hb0)
  have Hlt := Lib.hid (lt_of_block hres)
  obtain ⟨a0, a1, a2, a3, a4, a5, a6, a7⟩ := hA
  simp only [Nat.zero_add] at a0 a1 a2 a3 a4 a5 a6 a7
  have Hcall := Lib.hid ih
  clear hres hW hb0 hx ih
  go_enter Tryd.func62, Tryd.ntmps62
  go_wp2
  rw [← HW.out]
  go_region_law (first | (go_simp; go_at_call 60; refine (Hcall.out _ _ _ (Hrep.out.under (Below.refl _ _).drew)).mono ?_; rintro e w1 ⟨r1, r2, rfl, hr1, hb1⟩; obtain ⟨u1, v1, rfl, _⟩ := hr1.parts.2.1.form; obtain ⟨u2, v2, rfl, _⟩ := hr1.parts.2.2.form; obtain ⟨s0, s1, s2, s3, s4, s5, s6, s7⟩ := HA.out.keep ((below_drew hb1).block _ (Nat.lt_of_succ_lt Hlt.out)); simp only [Nat.zero_add] at s0 s1 s2 s3 s4 s5 s6 s7; obtain ⟨⟨h0, h1, h2, h3, h4, h5, h6, h7⟩, g0, g1, g2, g3, g4, g5, g6, g7⟩ := zero_box8 (((below_drew hb1).block _ Hlt.out).trans Hres.out)))
  all_goals
    have Hbw1 := Lib.hid (Hb0.out.trans ((below_drew hb1).mono Hb0.out.size))
    have Hsz := Lib.hid (show w.heap.size + 2 ≤ W.heap.size from Hlt.out)
    have Hr1 := Lib.hid hr1
    clear hb1 hr1 s0 s1 s2 s3 s4 s5 s6 s7
    go_wp2
    refine bodyPost_ret (v := .agg (pv key x (.slice u1 x.l.length v1) (.slice u2 x.p.length v2))) (by simp [results, Tryd.results62, go_sem, h0, h1, h2, h3, h4, h5, h6, h7]) rfl ?_
    exact ⟨_, _, rfl, Hr1.out.keep ⟨by simp [World.setCell], fun g hg _ => (far_set (far_set (far_set (far_set (far_set (far_set (far_set (far_set (fun _ _ => rfl) (by simp)) (by simp)) (by simp)) (by simp)) (by simp)) (by simp)) (by simp)) (by simp)) g (Nat.le_trans Hsz.out hg.1)⟩ (fun g hg _ => ⟨by have := Hsz.out; have hg' : W.heap.size ≤ g := hg.1; omega, hg.2.keep ((far_set (far_set (far_set (far_set (far_set (far_set (far_set (far_set (fun _ _ => rfl) (by simp)) (by simp)) (by simp)) (by simp)) (by simp)) (by simp)) (by simp)) (by simp)) g (Nat.le_trans Hsz.out hg.1))⟩), ((((((((Hbw1.out.setCell (Nat.le_succ _) _).setCell (Nat.le_succ _) _).setCell (Nat.le_succ _) _).setCell (Nat.le_succ _) _).setCell (Nat.le_succ _) _).setCell (Nat.le_succ _) _).setCell (Nat.le_succ _) _).setCell (Nat.le_succ _) _)⟩
end Go.Proofs.YtnnnnlcpmocnfaaDoor
