/- CONF: THE WALK OVER value. -/
import Derived.Deep.Onto
import Derived.Test.YtegobomfhdfodaaGreatDoorCe
namespace Go.Proofs.YtegobomfhdfodaaGreatDoor
open Go.RowKit
set_option maxRecDepth 100000
set_option linter.unusedVariables false
set_option linter.unusedSimpArgs false

namespace K
/-- a node without nodes below it -/
structure Leaf where
  kind : Nat
  text : T
  list : List T
def value (l : T) : Option (Leaf × T) :=
  if l.head? = some 34 then (qt (l.tail.length + 1) [] l.tail).map fun x => (⟨1, x.1, []⟩, x.2)
  else if l.head? = some 91 then (list l.tail).map fun x => (⟨2, [], x.1⟩, x.2)
  else (plainOf l).map fun x => (⟨1, x.1, []⟩, x.2)
end K
/-- how value ends -/
def VP (g : Nat) (w : World) (o : Option (K.Leaf × K.T)) (e : Ending) (w' : World) : Prop :=
  match o with
  | some x => ∃ v, e = .returned (.agg #[.int .u8 (x.1.kind : Int), S x.1.text, v, .slice none 0 0]) ∧ Mv g x.2 w w' ∧ Txs w.heap.size v x.1.list w'
  | none => e = pan 15 ∧ w.grownBy w' (some g)
theorem box4 {w : World} {g : Nat} {x0 x1 x2 x3 : Value} {t : TypeId} (h : w.heap[g]? = some (.cells #[x0, x1, x2, x3] t (0, 0))) :
    (w.cell? ⟨g, 0, none⟩ = some x0 ∧ w.cell? ⟨g, 1, none⟩ = some x1 ∧ w.cell? ⟨g, 2, none⟩ = some x2 ∧ w.cell? ⟨g, 3, none⟩ = some x3) ∧ (w.frozen? ⟨g, 0, none⟩ = false ∧ w.frozen? ⟨g, 1, none⟩ = false ∧ w.frozen? ⟨g, 2, none⟩ = false ∧ w.frozen? ⟨g, 3, none⟩ = false) :=
  ⟨⟨cell_of_row w g 0 _ t (0, 0) h, cell_of_row w g 1 _ t (0, 0) h, cell_of_row w g 2 _ t (0, 0) h, cell_of_row w g 3 _ t (0, 0) h⟩, frozen_of_row w g 0 _ t h, frozen_of_row w g 1 _ t h, frozen_of_row w g 2 _ t h, frozen_of_row w g 3 _ t h⟩
/-- four cells stored into the call's own block n: what lies ahead of it stays, and so does a row behind it -/
theorem put4_keep {w w2 : World} {g n : Nat} {r : K.T} {v : Value} {ss : List K.T} {x0 x1 x2 x3 : Value} {t : TypeId} (a b c d : Value) (hn : n = w.heap.size) (hg : g < n) (hcur : Cur w2 g r) (hgr : w.grownBy w2 (some g)) (hrow : Txs (n + 1) v ss w2) (hblk : w2.heap[n]? = some (.cells #[x0, x1, x2, x3] t (0, 0)))
    {V : World} (hV : V = ((((w2.setCell ⟨n, 0, none⟩ a).setCell ⟨n, 1, none⟩ b).setCell ⟨n, 2, none⟩ c).setCell ⟨n, 3, none⟩ d)) :
    (V.cell? ⟨n, 0, none⟩ = some a ∧ V.cell? ⟨n, 1, none⟩ = some b ∧ V.cell? ⟨n, 2, none⟩ = some c ∧ V.cell? ⟨n, 3, none⟩ = some d) ∧ Mv g r w V ∧ Txs n v ss V := by
  have hg4 : w2.grownBy V (some n) := by
    rw [hV]
    exact (((set_grown1 w2 n 0 a).trans (set_grown1 _ n 1 b)).trans (set_grown1 _ n 2 c)).trans (set_grown1 _ n 3 d)
  have hB : Below n w2 V := ⟨hg4.os, hg4.tape, hg4.output, hg4.size, fun i hi => hg4.block i (by have := blk_lt hblk; omega) (fun e => by injection e with e; omega)⟩
  have hk : V.heap[n]? = some (.cells #[a, b, c, d] t (0, 0)) := by
    rw [hV]
    exact heap_setCell_same _ n 3 _ t _ (heap_setCell_same _ n 2 _ t _ (heap_setCell_same _ n 1 _ t _ (heap_setCell_same w2 n 0 _ t _ hblk)))
  refine ⟨(box4 hk).1, ⟨(hB.block g hg).trans hcur, grown_behind hgr hB (by omega)⟩, ?_⟩
  exact World.ownsRow.mono (show V.ownsRow (n + 1) 9 1 v ss.length (ss.map S) from Txs.kept hrow hg4 (by omega)) (by omega)
theorem Txs.nil (base : Nat) (w : World) : Txs base (.slice none 0 0) [] w := World.ownsRow_nil _ _ _ _
set_option maxHeartbeats 4000000 in
theorem cu_value (w : World) (g : Nat) (l : K.T) (hc : Cur w g l) (hl : l.length ≤ 1000000) (hT : Tb w) (hg : 4 < g) :
    Calls Tryz.prog 58 #[.pointer (some ⟨g, 0, none⟩)] w (VP g w (K.value l)) := by
  have hlt := blk_lt hc
  obtain ⟨R, hR⟩ : ∃ R, K.value l = R := ⟨_, rfl⟩
  rw [hR]
  have HR := Lib.hid hR
  obtain ⟨n, hn⟩ : ∃ n, n = w.heap.size := ⟨_, rfl⟩
  obtain ⟨W, hW⟩ : ∃ W, W = w.alloc (.cells #[.int .u8 0, .string ⟨#[]⟩, .slice none 0 0, .slice none 0 0] 32) := ⟨_, rfl⟩
  have hwb : Below w.heap.size w W := by rw [hW]; exact (Below.refl _ w).alloc (Nat.le_refl _) _
  have hrow : W.heap[n]? = some (.cells #[.int .u8 0, .string ⟨#[]⟩, .slice none 0 0, .slice none 0 0] 32 (0, 0)) := by rw [hW, hn]; exact blk_new w _
  have hWs : W.heap.size = n + 1 := by rw [hW, World.size_alloc, hn]
  have hcW : Cur W g l := hc.under hwb
  have hTW : Tb W := hT.under hwb
  have HW := Lib.hid (And.intro hW hn)
  have HG := Lib.hid hwb
  have HN := Lib.hid (And.intro hn hWs)
  clear hR hT hc hW hwb hn
  have hrow2 : ∀ w2, W.grownBy w2 (some g) → w2.heap[n]? = some (.cells #[.int .u8 0, .string ⟨#[]⟩, .slice none 0 0, .slice none 0 0] 32 (0, 0)) := fun w2 h => by
    have := HN.out
    exact (h.block n (by omega) (fun e => by injection e with e; omega)).trans hrow
  have hgrow2 : ∀ w2, W.grownBy w2 (some g) → w.grownBy w2 (some g) := fun w2 h => (below_grown HG.out _).trans h
  by_cases h34 : l.head? = some 34
  · cases l with
    | nil => cases h34
    | cons y t =>
      obtain rfl : y = 34 := by simpa using h34
      have hR' : (K.qt (t.length + 1) [] t).map (fun x => ((⟨1, x.1, []⟩ : K.Leaf), x.2)) = R := by rw [← HR.out]; rfl
      have hat := cu_at W g (34 :: t) 34 hcW
      rw [show ((34 :: t : K.T).head? == some 34) = true from by simp] at hat
      have hcq := cu_quoted W g t hcW (by simp at hl; omega)
      have HR2 := Lib.hid hR'
      clear hR' hl
      go_enter Tryz.func58, Tryz.ntmps58
      go_wp2_with fail
      rw [← HW.out.1, ← HW.out.2]
      go_wp2_with (go_at_call 57; refine hat.mono ?_; rintro e w4 ⟨rfl, rfl⟩)
      refine hcq.mono ?_
      intro e w2 hQ
      cases hq : K.qt (t.length + 1) [] t with
      | none =>
        rw [hq] at hQ
        obtain ⟨rfl, hgr⟩ := hQ
        have hR' : R = none := by rw [← HR2.out, hq]; rfl
        go_wp2
        try rw [hR']
        exact ⟨rfl, rfl, hgrow2 _ hgr⟩
      | some x =>
        obtain ⟨x, r⟩ := x
        rw [hq] at hQ
        obtain ⟨rfl, hm⟩ := hQ
        have hR' : R = some (⟨1, x, []⟩, r) := by rw [← HR2.out, hq]; rfl
        obtain ⟨⟨c0, c1, c2, c3⟩, f0, f1, f2, f3⟩ := box4 (hrow2 _ hm.2)
        have hltn := blk_lt (hrow2 _ hm.2)
        have HM := Lib.hid hm
        have HR3 := Lib.hid hR'
        clear hR' hm hcq hat
        go_wp2
        obtain ⟨⟨r0, r1, r2, r3⟩, k1, k2⟩ := put4_keep (w := w) (n := n) (.int .u8 1) (S x) (.slice none 0 0) (.slice none 0 0) HN.out.1 (by have := HN.out; omega) HM.out.1 (hgrow2 _ HM.out.2) (Txs.nil (n + 1) w2) (hrow2 _ HM.out.2) rfl
        refine bodyPost_ret (v := .agg #[.int .u8 1, S x, .slice none 0 0, .slice none 0 0]) (by simp [results, Tryz.results58, go_sem, r0, r1, r2, r3]) rfl ?_
        try rw [HR3.out]
        exact ⟨_, rfl, k1, by rw [← HN.out.1]; exact k2⟩
  · have hat : Calls Tryz.prog 57 #[.pointer (some ⟨g, 0, none⟩), .int .u8 34] W fun e w' => e = .returned (.bool false) ∧ W = w' := by
      have := cu_at W g l 34 hcW
      rw [show (l.head? == some 34) = false from by simp [h34]] at this
      exact this
    by_cases h91 : l.head? = some 91
    · cases l with
      | nil => cases h91
      | cons y t =>
        obtain rfl : y = 91 := by simpa using h91
        have hR' : (K.list t).map (fun x => ((⟨2, [], x.1⟩ : K.Leaf), x.2)) = R := by rw [← HR.out]; rfl
        have hat2 : Calls Tryz.prog 57 #[.pointer (some ⟨g, 0, none⟩), .int .u8 91] W fun e w' => e = .returned (.bool true) ∧ W = w' := by
          have := cu_at W g (91 :: t) 91 hcW
          rw [show ((91 :: t : K.T).head? == some 91) = true from by simp] at this
          exact this
        have hcq := cu_list W g t hcW (by simp at hl; omega) hTW hg
        have HR2 := Lib.hid hR'
        clear hR' hl
        go_enter Tryz.func58, Tryz.ntmps58
        go_wp2_with fail
        rw [← HW.out.1, ← HW.out.2]
        go_wp2_with (first | (go_at_call 57; with_reducible refine hat.mono ?_; rintro e w4 ⟨rfl, rfl⟩) | (go_at_call 57; with_reducible refine hat2.mono ?_; rintro e w4 ⟨rfl, rfl⟩))
        refine hcq.mono ?_
        intro e w2 hQ
        cases hq : K.list t with
        | none =>
          rw [hq] at hQ
          obtain ⟨rfl, hgr⟩ := hQ
          have hR' : R = none := by rw [← HR2.out, hq]; rfl
          go_wp2
          try rw [hR']
          exact ⟨rfl, rfl, hgrow2 _ hgr⟩
        | some x =>
          obtain ⟨x, r⟩ := x
          rw [hq] at hQ
          obtain ⟨v, rfl, hm, hrw⟩ := hQ
          have hR' : R = some (⟨2, [], x⟩, r) := by rw [← HR2.out, hq]; rfl
          rw [HN.out.2] at hrw
          obtain ⟨⟨c0, c1, c2, c3⟩, f0, f1, f2, f3⟩ := box4 (hrow2 _ hm.2)
          have hltn := blk_lt (hrow2 _ hm.2)
          have HM := Lib.hid hm
          have HR3 := Lib.hid hR'
          have HV := Lib.hid hrw
          obtain ⟨q1, q2, q3, rfl⟩ : ∃ q1 q2 q3, v = .slice q1 q2 q3 := by
            rcases hrw.2 with ⟨h, _⟩ | ⟨q, c, _, h, _⟩
            · exact ⟨_, _, _, h⟩
            · exact ⟨_, _, _, h⟩
          clear hR' hm hcq hat hat2 hrw
          go_wp2
          obtain ⟨⟨r0, r1, r2, r3⟩, k1, k2⟩ := put4_keep (w := w) (n := n) (.int .u8 2) (.string ⟨#[]⟩) (.slice q1 q2 q3) (.slice none 0 0) HN.out.1 (by have := HN.out; omega) HM.out.1 (hgrow2 _ HM.out.2) HV.out (hrow2 _ HM.out.2) rfl
          refine bodyPost_ret (v := .agg #[.int .u8 2, .string ⟨#[]⟩, .slice q1 q2 q3, .slice none 0 0]) (by simp [results, Tryz.results58, go_sem, r0, r1, r2, r3]) rfl ?_
          try rw [HR3.out]
          exact ⟨_, rfl, k1, by rw [← HN.out.1]; exact k2⟩
    · have hat2 : Calls Tryz.prog 57 #[.pointer (some ⟨g, 0, none⟩), .int .u8 91] W fun e w' => e = .returned (.bool false) ∧ W = w' := by
        have := cu_at W g l 91 hcW
        rw [show (l.head? == some 91) = false from by simp [h91]] at this
        exact this
      have hR' : (K.plainOf l).map (fun x => ((⟨1, x.1, []⟩ : K.Leaf), x.2)) = R := by rw [← HR.out]; unfold K.value; rw [if_neg h34, if_neg h91]
      have hcq := cu_plain W g l hcW (by omega) hTW hg
      have HR2 := Lib.hid hR'
      clear hR' hl
      go_enter Tryz.func58, Tryz.ntmps58
      go_wp2_with fail
      rw [← HW.out.1, ← HW.out.2]
      go_wp2_with (first | (go_at_call 57; with_reducible refine hat.mono ?_; rintro e w4 ⟨rfl, rfl⟩) | (go_at_call 57; with_reducible refine hat2.mono ?_; rintro e w4 ⟨rfl, rfl⟩))
      refine hcq.mono ?_
      intro e w2 hQ
      cases hq : K.plainOf l with
      | none =>
        rw [hq] at hQ
        obtain ⟨rfl, hgr⟩ := hQ
        have hR' : R = none := by rw [← HR2.out, hq]; rfl
        go_wp2
        try rw [hR']
        exact ⟨rfl, rfl, hgrow2 _ hgr⟩
      | some x =>
        obtain ⟨x, r⟩ := x
        rw [hq] at hQ
        obtain ⟨rfl, hm⟩ := hQ
        have hR' : R = some (⟨1, x, []⟩, r) := by rw [← HR2.out, hq]; rfl
        obtain ⟨⟨c0, c1, c2, c3⟩, f0, f1, f2, f3⟩ := box4 (hrow2 _ hm.2)
        have hltn := blk_lt (hrow2 _ hm.2)
        have HM := Lib.hid hm
        have HR3 := Lib.hid hR'
        clear hR' hm hcq hat hat2
        go_wp2
        obtain ⟨⟨r0, r1, r2, r3⟩, k1, k2⟩ := put4_keep (w := w) (n := n) (.int .u8 1) (S x) (.slice none 0 0) (.slice none 0 0) HN.out.1 (by have := HN.out; omega) HM.out.1 (hgrow2 _ HM.out.2) (Txs.nil (n + 1) w2) (hrow2 _ HM.out.2) rfl
        refine bodyPost_ret (v := .agg #[.int .u8 1, S x, .slice none 0 0, .slice none 0 0]) (by simp [results, Tryz.results58, go_sem, r0, r1, r2, r3]) rfl ?_
        try rw [HR3.out]
        exact ⟨_, rfl, k1, by rw [← HN.out.1]; exact k2⟩
end Go.Proofs.YtegobomfhdfodaaGreatDoor
