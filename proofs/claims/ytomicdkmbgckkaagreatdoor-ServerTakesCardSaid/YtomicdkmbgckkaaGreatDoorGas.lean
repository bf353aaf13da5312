/- SERVER: A CONNECTION IN MEMORY; end, take. -/
import Derived.Test.YtomicdkmbgckkaaGreatDoorGar
import Derived.Lib.BufferOwn
namespace Go.Proofs.YtomicdkmbgckkaaGreatDoor
open Go.RowKit
set_option maxRecDepth 100000
set_option linter.unusedVariables false
set_option linter.unusedSimpArgs false

/-- a connection -/
structure Cn where
  buf : H.T
  out : H.T
  closed : Bool
  busy : Bool
  last : Bool
  since : Int
abbrev Cn.cells (c : Cn) : Array Value := #[S c.buf, S c.out, .bool c.closed, .bool c.busy, .bool c.last, .int .u64 c.since]
theorem box6 {w : World} {g : Nat} {x0 x1 x2 x3 x4 x5 : Value} {t : TypeId} (h : w.heap[g]? = some (.cells #[x0, x1, x2, x3, x4, x5] t (0, 0))) :
    w.cell? ⟨g, 0, none⟩ = some x0 ∧ w.cell? ⟨g, 1, none⟩ = some x1 ∧ w.cell? ⟨g, 2, none⟩ = some x2 ∧ w.cell? ⟨g, 3, none⟩ = some x3 ∧ w.cell? ⟨g, 4, none⟩ = some x4 ∧ w.cell? ⟨g, 5, none⟩ = some x5 :=
  ⟨cell_of_row w g 0 _ t (0, 0) h, cell_of_row w g 1 _ t (0, 0) h, cell_of_row w g 2 _ t (0, 0) h, cell_of_row w g 3 _ t (0, 0) h, cell_of_row w g 4 _ t (0, 0) h, cell_of_row w g 5 _ t (0, 0) h⟩
theorem fz6 {w : World} {g : Nat} {x : Array Value} {t : TypeId} (h : w.heap[g]? = some (.cells x t (0, 0))) (j : Nat) : w.frozen? ⟨g, j, none⟩ = false := frozen_of_row w g j _ t h

theorem put6 {W : World} {k : Nat} {x0 x1 x2 x3 x4 x5 : Value} {t : TypeId} (h : W.heap[k]? = some (.cells #[x0, x1, x2, x3, x4, x5] t (0, 0))) (v0 v1 v2 v3 v4 v5 : Value) {V : World} (hV : V = (((((W.setCell ⟨k, 0, none⟩ v0).setCell ⟨k, 1, none⟩ v1).setCell ⟨k, 2, none⟩ v2).setCell ⟨k, 3, none⟩ v3).setCell ⟨k, 4, none⟩ v4).setCell ⟨k, 5, none⟩ v5) :
    V.heap[k]? = some (.cells #[v0, v1, v2, v3, v4, v5] t (0, 0)) ∧ W.grownBy V (some k) := by
  refine ⟨?_, ?_⟩
  · rw [hV]
    exact heap_setCell_same _ k 5 _ t _ (heap_setCell_same _ k 4 _ t _ (heap_setCell_same _ k 3 _ t _ (heap_setCell_same _ k 2 _ t _ (heap_setCell_same _ k 1 _ t _ (heap_setCell_same W k 0 _ t _ h)))))
  · rw [hV]
    exact (((((set_grown1 W k 0 v0).trans (set_grown1 _ k 1 v1)).trans (set_grown1 _ k 2 v2)).trans (set_grown1 _ k 3 v3)).trans (set_grown1 _ k 4 v4)).trans (set_grown1 _ k 5 v5)
theorem put1of6 {W : World} {k : Nat} {x0 x1 x2 x3 x4 x5 : Value} {t : TypeId} (h : W.heap[k]? = some (.cells #[x0, x1, x2, x3, x4, x5] t (0, 0))) (v : Value) :
    (W.setCell ⟨k, 1, none⟩ v).heap[k]? = some (.cells #[x0, v, x2, x3, x4, x5] t (0, 0)) ∧ W.grownBy (W.setCell ⟨k, 1, none⟩ v) (some k) := ⟨heap_setCell_same W k 1 _ t v h, set_grown1 W k 1 v⟩
theorem put0of6 {W : World} {k : Nat} {x0 x1 x2 x3 x4 x5 : Value} {t : TypeId} (h : W.heap[k]? = some (.cells #[x0, x1, x2, x3, x4, x5] t (0, 0))) (v : Value) :
    (W.setCell ⟨k, 0, none⟩ v).heap[k]? = some (.cells #[v, x1, x2, x3, x4, x5] t (0, 0)) ∧ W.grownBy (W.setCell ⟨k, 0, none⟩ v) (some k) := ⟨heap_setCell_same W k 0 _ t v h, set_grown1 W k 0 v⟩
theorem put5of6 {W : World} {k : Nat} {x0 x1 x2 x3 x4 x5 : Value} {t : TypeId} (h : W.heap[k]? = some (.cells #[x0, x1, x2, x3, x4, x5] t (0, 0))) (v : Value) :
    (W.setCell ⟨k, 5, none⟩ v).heap[k]? = some (.cells #[x0, x1, x2, x3, x4, v] t (0, 0)) ∧ W.grownBy (W.setCell ⟨k, 5, none⟩ v) (some k) := ⟨heap_setCell_same W k 5 _ t v h, set_grown1 W k 5 v⟩
theorem put2 {W : World} {k : Nat} {x0 x1 : Value} {t : TypeId} (h : W.heap[k]? = some (.cells #[x0, x1] t (0, 0))) (v0 v1 : Value) {V : World} (hV : V = (W.setCell ⟨k, 0, none⟩ v0).setCell ⟨k, 1, none⟩ v1) :
    V.heap[k]? = some (.cells #[v0, v1] t (0, 0)) ∧ W.grownBy V (some k) := by
  refine ⟨?_, ?_⟩
  · rw [hV]
    exact heap_setCell_same _ k 1 _ t _ (heap_setCell_same W k 0 _ t _ h)
  · rw [hV]
    exact (set_grown1 W k 0 v0).trans (set_grown1 _ k 1 v1)
theorem cn_end (w : World) (g : Nat) (c : Cn) (hc : w.heap[g]? = some (.cells c.cells 46 (0, 0))) :
    Calls Tryz.prog 18 #[.pointer (some ⟨g, 0, none⟩)] w fun e w' => e = .returned (.tuple #[]) ∧ w'.heap[g]? = some (.cells (Cn.mk [] c.out true false false c.since).cells 46 (0, 0)) ∧ w.grownBy w' (some g) := by
  obtain ⟨c0, c1, c2, c3, c4, c5⟩ := box6 hc
  have f0 := fz6 hc 0
  have f1 := fz6 hc 1
  have f2 := fz6 hc 2
  have f3 := fz6 hc 3
  have f4 := fz6 hc 4
  have f5 := fz6 hc 5
  have hlt := blk_lt hc
  have Hc := Lib.hid hc
  clear hc
  go_enter Tryz.func18, Tryz.ntmps18
  go_region
  all_goals go_end0
  all_goals
    obtain ⟨V, hV⟩ : ∃ V, V = (((((w.setCell ⟨g, 0, none⟩ (S [])).setCell ⟨g, 1, none⟩ (S c.out)).setCell ⟨g, 2, none⟩ (.bool true)).setCell ⟨g, 3, none⟩ (.bool false)).setCell ⟨g, 4, none⟩ (.bool false)).setCell ⟨g, 5, none⟩ (.int .u64 c.since) := ⟨_, rfl⟩
    obtain ⟨hk, hg⟩ := put6 Hc.out _ _ _ _ _ _ hV
    rw [show (((((w.setCell ⟨g, 0, none⟩ (.string ⟨#[]⟩)).setCell ⟨g, 1, none⟩ (.string ⟨c.out.toArray⟩)).setCell ⟨g, 2, none⟩ (.bool true)).setCell ⟨g, 3, none⟩ (.bool false)).setCell ⟨g, 4, none⟩ (.bool false)).setCell ⟨g, 5, none⟩ (.int .u64 c.since) = V from hV.symm]
    clear hV
    exact ⟨rfl, hk, hg.trans (below_grown (Below.refl _ _).drew _)⟩
theorem cn_take (w : World) (g : Nat) (c : Cn) (hc : w.heap[g]? = some (.cells c.cells 46 (0, 0))) :
    Calls Tryz.prog 13 #[.pointer (some ⟨g, 0, none⟩)] w fun e w' => e = .returned (S c.out) ∧ w'.heap[g]? = some (.cells (Cn.mk c.buf [] c.closed c.busy c.last c.since).cells 46 (0, 0)) ∧ w.grownBy w' (some g) := by
  obtain ⟨c0, c1, c2, c3, c4, c5⟩ := box6 hc
  have f1 := fz6 hc 1
  have hlt := blk_lt hc
  have Hc := Lib.hid hc
  clear hc
  go_enter Tryz.func13, Tryz.ntmps13
  go_wp2
  go_ret
  exact ⟨rfl, put1of6 Hc.out _⟩
theorem cn_rules (w : World) : Calls Tryz.prog 9 #[] w fun e w' => e = .returned (.agg #[.int .i64 1000, .int .u64 10]) ∧ Below w.heap.size w w' := by
  obtain ⟨X, hX⟩ : ∃ X, X = w.alloc (.cells #[.int .i64 0, .int .u64 0] 26) := ⟨_, rfl⟩
  have hx : X.heap[w.heap.size]? = some (.cells #[.int .i64 0, .int .u64 0] 26 (0, 0)) := by rw [hX]; exact blk_new w _
  have hb : Below w.heap.size w X := by rw [hX]; exact (Below.refl _ w).alloc (Nat.le_refl _) _
  obtain ⟨c0, c1⟩ := box2 hx
  have f0 : X.frozen? ⟨w.heap.size, 0, none⟩ = false := fz6 hx 0
  have f1 : X.frozen? ⟨w.heap.size, 1, none⟩ = false := fz6 hx 1
  have hlt := blk_lt hx
  have Hx := Lib.hid hx
  have Hb := Lib.hid hb
  clear hx hb
  go_enter Tryz.func9, Tryz.ntmps9
  go_upto_region 1 with (fail)
  rw [← hX]
  clear hX
  go_wp2
  obtain ⟨V, hV⟩ : ∃ V, V = (X.setCell ⟨w.heap.size, 0, none⟩ (.int .i64 1000)).setCell ⟨w.heap.size, 1, none⟩ (.int .u64 10) := ⟨_, rfl⟩
  rw [← hV]
  obtain ⟨hk, hg⟩ := put2 Hx.out _ _ hV
  obtain ⟨k0, k1⟩ := box2 hk
  clear hV c0 c1 f0 f1
  refine bodyPost_ret (by simp [results, Tryz.results9, go_sem, k0, k1]; try rfl) rfl ?_
  exact ⟨rfl, grown_below Hb.out hg (Nat.le_refl _) hlt⟩
/-- Check's answer -/
def chk (c : Cn) (m : Int) : Int := if m < 0 ∨ 65536 < m then 2 else if 262144 < c.buf.length ∨ 262144 < c.out.length then 6 else if (c.closed = true ∧ (c.buf ≠ [] ∨ c.busy = true)) ∨ (c.last = true ∧ c.busy = false) then 6 else 0
end Go.Proofs.YtomicdkmbgckkaaGreatDoor
