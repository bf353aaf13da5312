/- CELLS THAT STAY: for regions that draw their order. -/
import Derived.Test.YtlgbehagflnfgaaGreatDoorGab
import Derived.Deep.RegionHeld3
import Derived.Deep.RegionLaw
namespace Go.Proofs.YtlgbehagflnfgaaGreatDoor
open Go.RowKit
theorem cell_step {X w2 : World} (hb : Below X.heap.size X w2) {a : Addr} {x : Value} (h : X.cell? a = some x) : w2.cell? a = some x := (hb.cell (p := a) (World.block_lt_of_cell? X _ h)).trans h
theorem below_drew {B : Nat} {w w' : World} (h : Below B w.drew w') : Below B w w' := ⟨h.os, h.tape, h.output, h.size, h.block⟩
theorem st1 {V X w2 : World} {a0 : Addr} {x0 : Value} (hb : Below X.heap.size X w2) (h : X.cell? a0 = some x0 ∧ Below V.heap.size V X) : w2.cell? a0 = some x0 ∧ Below V.heap.size V w2 := by
  obtain ⟨h0, hb0⟩ := h
  exact ⟨cell_step hb h0, hb0.trans (hb.mono hb0.size)⟩
theorem st2 {V X w2 : World} {a0 a1 : Addr} {x0 x1 : Value} (hb : Below X.heap.size X w2) (h : X.cell? a0 = some x0 ∧ X.cell? a1 = some x1 ∧ Below V.heap.size V X) : w2.cell? a0 = some x0 ∧ w2.cell? a1 = some x1 ∧ Below V.heap.size V w2 := by
  obtain ⟨h0, h1, hb0⟩ := h
  exact ⟨cell_step hb h0, cell_step hb h1, hb0.trans (hb.mono hb0.size)⟩
theorem st3 {V X w2 : World} {a0 a1 a2 : Addr} {x0 x1 x2 : Value} (hb : Below X.heap.size X w2) (h : X.cell? a0 = some x0 ∧ X.cell? a1 = some x1 ∧ X.cell? a2 = some x2 ∧ Below V.heap.size V X) : w2.cell? a0 = some x0 ∧ w2.cell? a1 = some x1 ∧ w2.cell? a2 = some x2 ∧ Below V.heap.size V w2 := by
  obtain ⟨h0, h1, h2, hb0⟩ := h
  exact ⟨cell_step hb h0, cell_step hb h1, cell_step hb h2, hb0.trans (hb.mono hb0.size)⟩
theorem st4 {V X w2 : World} {a0 a1 a2 a3 : Addr} {x0 x1 x2 x3 : Value} (hb : Below X.heap.size X w2) (h : X.cell? a0 = some x0 ∧ X.cell? a1 = some x1 ∧ X.cell? a2 = some x2 ∧ X.cell? a3 = some x3 ∧ Below V.heap.size V X) : w2.cell? a0 = some x0 ∧ w2.cell? a1 = some x1 ∧ w2.cell? a2 = some x2 ∧ w2.cell? a3 = some x3 ∧ Below V.heap.size V w2 := by
  obtain ⟨h0, h1, h2, h3, hb0⟩ := h
  exact ⟨cell_step hb h0, cell_step hb h1, cell_step hb h2, cell_step hb h3, hb0.trans (hb.mono hb0.size)⟩
theorem st5 {V X w2 : World} {a0 a1 a2 a3 a4 : Addr} {x0 x1 x2 x3 x4 : Value} (hb : Below X.heap.size X w2) (h : X.cell? a0 = some x0 ∧ X.cell? a1 = some x1 ∧ X.cell? a2 = some x2 ∧ X.cell? a3 = some x3 ∧ X.cell? a4 = some x4 ∧ Below V.heap.size V X) : w2.cell? a0 = some x0 ∧ w2.cell? a1 = some x1 ∧ w2.cell? a2 = some x2 ∧ w2.cell? a3 = some x3 ∧ w2.cell? a4 = some x4 ∧ Below V.heap.size V w2 := by
  obtain ⟨h0, h1, h2, h3, h4, hb0⟩ := h
  exact ⟨cell_step hb h0, cell_step hb h1, cell_step hb h2, cell_step hb h3, cell_step hb h4, hb0.trans (hb.mono hb0.size)⟩
theorem st6 {V X w2 : World} {a0 a1 a2 a3 a4 a5 : Addr} {x0 x1 x2 x3 x4 x5 : Value} (hb : Below X.heap.size X w2) (h : X.cell? a0 = some x0 ∧ X.cell? a1 = some x1 ∧ X.cell? a2 = some x2 ∧ X.cell? a3 = some x3 ∧ X.cell? a4 = some x4 ∧ X.cell? a5 = some x5 ∧ Below V.heap.size V X) : w2.cell? a0 = some x0 ∧ w2.cell? a1 = some x1 ∧ w2.cell? a2 = some x2 ∧ w2.cell? a3 = some x3 ∧ w2.cell? a4 = some x4 ∧ w2.cell? a5 = some x5 ∧ Below V.heap.size V w2 := by
  obtain ⟨h0, h1, h2, h3, h4, h5, hb0⟩ := h
  exact ⟨cell_step hb h0, cell_step hb h1, cell_step hb h2, cell_step hb h3, cell_step hb h4, cell_step hb h5, hb0.trans (hb.mono hb0.size)⟩
theorem st7 {V X w2 : World} {a0 a1 a2 a3 a4 a5 a6 : Addr} {x0 x1 x2 x3 x4 x5 x6 : Value} (hb : Below X.heap.size X w2) (h : X.cell? a0 = some x0 ∧ X.cell? a1 = some x1 ∧ X.cell? a2 = some x2 ∧ X.cell? a3 = some x3 ∧ X.cell? a4 = some x4 ∧ X.cell? a5 = some x5 ∧ X.cell? a6 = some x6 ∧ Below V.heap.size V X) : w2.cell? a0 = some x0 ∧ w2.cell? a1 = some x1 ∧ w2.cell? a2 = some x2 ∧ w2.cell? a3 = some x3 ∧ w2.cell? a4 = some x4 ∧ w2.cell? a5 = some x5 ∧ w2.cell? a6 = some x6 ∧ Below V.heap.size V w2 := by
  obtain ⟨h0, h1, h2, h3, h4, h5, h6, hb0⟩ := h
  exact ⟨cell_step hb h0, cell_step hb h1, cell_step hb h2, cell_step hb h3, cell_step hb h4, cell_step hb h5, cell_step hb h6, hb0.trans (hb.mono hb0.size)⟩
theorem st8 {V X w2 : World} {a0 a1 a2 a3 a4 a5 a6 a7 : Addr} {x0 x1 x2 x3 x4 x5 x6 x7 : Value} (hb : Below X.heap.size X w2) (h : X.cell? a0 = some x0 ∧ X.cell? a1 = some x1 ∧ X.cell? a2 = some x2 ∧ X.cell? a3 = some x3 ∧ X.cell? a4 = some x4 ∧ X.cell? a5 = some x5 ∧ X.cell? a6 = some x6 ∧ X.cell? a7 = some x7 ∧ Below V.heap.size V X) : w2.cell? a0 = some x0 ∧ w2.cell? a1 = some x1 ∧ w2.cell? a2 = some x2 ∧ w2.cell? a3 = some x3 ∧ w2.cell? a4 = some x4 ∧ w2.cell? a5 = some x5 ∧ w2.cell? a6 = some x6 ∧ w2.cell? a7 = some x7 ∧ Below V.heap.size V w2 := by
  obtain ⟨h0, h1, h2, h3, h4, h5, h6, h7, hb0⟩ := h
  exact ⟨cell_step hb h0, cell_step hb h1, cell_step hb h2, cell_step hb h3, cell_step hb h4, cell_step hb h5, cell_step hb h6, cell_step hb h7, hb0.trans (hb.mono hb0.size)⟩
theorem st9 {V X w2 : World} {a0 a1 a2 a3 a4 a5 a6 a7 a8 : Addr} {x0 x1 x2 x3 x4 x5 x6 x7 x8 : Value} (hb : Below X.heap.size X w2) (h : X.cell? a0 = some x0 ∧ X.cell? a1 = some x1 ∧ X.cell? a2 = some x2 ∧ X.cell? a3 = some x3 ∧ X.cell? a4 = some x4 ∧ X.cell? a5 = some x5 ∧ X.cell? a6 = some x6 ∧ X.cell? a7 = some x7 ∧ X.cell? a8 = some x8 ∧ Below V.heap.size V X) : w2.cell? a0 = some x0 ∧ w2.cell? a1 = some x1 ∧ w2.cell? a2 = some x2 ∧ w2.cell? a3 = some x3 ∧ w2.cell? a4 = some x4 ∧ w2.cell? a5 = some x5 ∧ w2.cell? a6 = some x6 ∧ w2.cell? a7 = some x7 ∧ w2.cell? a8 = some x8 ∧ Below V.heap.size V w2 := by
  obtain ⟨h0, h1, h2, h3, h4, h5, h6, h7, h8, hb0⟩ := h
  exact ⟨cell_step hb h0, cell_step hb h1, cell_step hb h2, cell_step hb h3, cell_step hb h4, cell_step hb h5, cell_step hb h6, cell_step hb h7, cell_step hb h8, hb0.trans (hb.mono hb0.size)⟩
theorem st10 {V X w2 : World} {a0 a1 a2 a3 a4 a5 a6 a7 a8 a9 : Addr} {x0 x1 x2 x3 x4 x5 x6 x7 x8 x9 : Value} (hb : Below X.heap.size X w2) (h : X.cell? a0 = some x0 ∧ X.cell? a1 = some x1 ∧ X.cell? a2 = some x2 ∧ X.cell? a3 = some x3 ∧ X.cell? a4 = some x4 ∧ X.cell? a5 = some x5 ∧ X.cell? a6 = some x6 ∧ X.cell? a7 = some x7 ∧ X.cell? a8 = some x8 ∧ X.cell? a9 = some x9 ∧ Below V.heap.size V X) : w2.cell? a0 = some x0 ∧ w2.cell? a1 = some x1 ∧ w2.cell? a2 = some x2 ∧ w2.cell? a3 = some x3 ∧ w2.cell? a4 = some x4 ∧ w2.cell? a5 = some x5 ∧ w2.cell? a6 = some x6 ∧ w2.cell? a7 = some x7 ∧ w2.cell? a8 = some x8 ∧ w2.cell? a9 = some x9 ∧ Below V.heap.size V w2 := by
  obtain ⟨h0, h1, h2, h3, h4, h5, h6, h7, h8, h9, hb0⟩ := h
  exact ⟨cell_step hb h0, cell_step hb h1, cell_step hb h2, cell_step hb h3, cell_step hb h4, cell_step hb h5, cell_step hb h6, cell_step hb h7, cell_step hb h8, cell_step hb h9, hb0.trans (hb.mono hb0.size)⟩
theorem st11 {V X w2 : World} {a0 a1 a2 a3 a4 a5 a6 a7 a8 a9 a10 : Addr} {x0 x1 x2 x3 x4 x5 x6 x7 x8 x9 x10 : Value} (hb : Below X.heap.size X w2) (h : X.cell? a0 = some x0 ∧ X.cell? a1 = some x1 ∧ X.cell? a2 = some x2 ∧ X.cell? a3 = some x3 ∧ X.cell? a4 = some x4 ∧ X.cell? a5 = some x5 ∧ X.cell? a6 = some x6 ∧ X.cell? a7 = some x7 ∧ X.cell? a8 = some x8 ∧ X.cell? a9 = some x9 ∧ X.cell? a10 = some x10 ∧ Below V.heap.size V X) : w2.cell? a0 = some x0 ∧ w2.cell? a1 = some x1 ∧ w2.cell? a2 = some x2 ∧ w2.cell? a3 = some x3 ∧ w2.cell? a4 = some x4 ∧ w2.cell? a5 = some x5 ∧ w2.cell? a6 = some x6 ∧ w2.cell? a7 = some x7 ∧ w2.cell? a8 = some x8 ∧ w2.cell? a9 = some x9 ∧ w2.cell? a10 = some x10 ∧ Below V.heap.size V w2 := by
  obtain ⟨h0, h1, h2, h3, h4, h5, h6, h7, h8, h9, h10, hb0⟩ := h
  exact ⟨cell_step hb h0, cell_step hb h1, cell_step hb h2, cell_step hb h3, cell_step hb h4, cell_step hb h5, cell_step hb h6, cell_step hb h7, cell_step hb h8, cell_step hb h9, cell_step hb h10, hb0.trans (hb.mono hb0.size)⟩
theorem st12 {V X w2 : World} {a0 a1 a2 a3 a4 a5 a6 a7 a8 a9 a10 a11 : Addr} {x0 x1 x2 x3 x4 x5 x6 x7 x8 x9 x10 x11 : Value} (hb : Below X.heap.size X w2) (h : X.cell? a0 = some x0 ∧ X.cell? a1 = some x1 ∧ X.cell? a2 = some x2 ∧ X.cell? a3 = some x3 ∧ X.cell? a4 = some x4 ∧ X.cell? a5 = some x5 ∧ X.cell? a6 = some x6 ∧ X.cell? a7 = some x7 ∧ X.cell? a8 = some x8 ∧ X.cell? a9 = some x9 ∧ X.cell? a10 = some x10 ∧ X.cell? a11 = some x11 ∧ Below V.heap.size V X) : w2.cell? a0 = some x0 ∧ w2.cell? a1 = some x1 ∧ w2.cell? a2 = some x2 ∧ w2.cell? a3 = some x3 ∧ w2.cell? a4 = some x4 ∧ w2.cell? a5 = some x5 ∧ w2.cell? a6 = some x6 ∧ w2.cell? a7 = some x7 ∧ w2.cell? a8 = some x8 ∧ w2.cell? a9 = some x9 ∧ w2.cell? a10 = some x10 ∧ w2.cell? a11 = some x11 ∧ Below V.heap.size V w2 := by
  obtain ⟨h0, h1, h2, h3, h4, h5, h6, h7, h8, h9, h10, h11, hb0⟩ := h
  exact ⟨cell_step hb h0, cell_step hb h1, cell_step hb h2, cell_step hb h3, cell_step hb h4, cell_step hb h5, cell_step hb h6, cell_step hb h7, cell_step hb h8, cell_step hb h9, cell_step hb h10, cell_step hb h11, hb0.trans (hb.mono hb0.size)⟩
theorem below_drewN {B : Nat} {a w : World} (h : Below B a w) (n : Nat) : Below B a (w.drewN n) := by
  induction n with
  | zero => exact h
  | succ n ih => exact ih.drew
theorem box3 {w : World} {g : Nat} {x0 x1 x2 : Value} {t : TypeId} (h : w.heap[g]? = some (.cells #[x0, x1, x2] t (0, 0))) :
    w.cell? ⟨g, 0, none⟩ = some x0 ∧ w.cell? ⟨g, 1, none⟩ = some x1 ∧ w.cell? ⟨g, 2, none⟩ = some x2 :=
  ⟨cell_of_row w g 0 _ t (0, 0) h, cell_of_row w g 1 _ t (0, 0) h, cell_of_row w g 2 _ t (0, 0) h⟩
theorem box4 {w : World} {g : Nat} {x0 x1 x2 x3 : Value} {t : TypeId} (h : w.heap[g]? = some (.cells #[x0, x1, x2, x3] t (0, 0))) :
    w.cell? ⟨g, 0, none⟩ = some x0 ∧ w.cell? ⟨g, 1, none⟩ = some x1 ∧ w.cell? ⟨g, 2, none⟩ = some x2 ∧ w.cell? ⟨g, 3, none⟩ = some x3 :=
  ⟨cell_of_row w g 0 _ t (0, 0) h, cell_of_row w g 1 _ t (0, 0) h, cell_of_row w g 2 _ t (0, 0) h, cell_of_row w g 3 _ t (0, 0) h⟩
theorem heap_new (w : World) (o : Obj) : (w.alloc o).heap[w.heap.size]? = some o := heap_alloc_new w o
end Go.Proofs.YtlgbehagflnfgaaGreatDoor
