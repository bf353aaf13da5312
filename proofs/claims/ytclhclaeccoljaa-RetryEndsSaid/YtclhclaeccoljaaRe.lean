/- RETRY: THE WALKS OVER Fail, twice. -/
import Derived.Test.YtclhclaeccoljaaRd
namespace Go.Proofs.Ytclhclaeccoljaa
open Go.RowKit
set_option linter.unusedVariables false
set_option linter.unusedSimpArgs false

theorem frz3 {w : World} {g : Nat} {x0 x1 x2 : Value} {t : TypeId} (h : w.heap[g]? = some (.cells #[x0, x1, x2] t (0, 0))) :
    w.frozen? ⟨g, 0, none⟩ = false ∧ w.frozen? ⟨g, 1, none⟩ = false ∧ w.frozen? ⟨g, 2, none⟩ = false :=
  ⟨frozen_of_row w g 0 _ t h, frozen_of_row w g 1 _ t h, frozen_of_row w g 2 _ t h⟩
theorem cell_put3 {w : World} {g : Nat} {x0 x1 x2 : Value} {t : TypeId} (h : w.heap[g]? = some (.cells #[x0, x1, x2] t (0, 0))) (v0 v1 v2 : Value) :
    (((w.setCell ⟨g, 0, none⟩ v0).setCell ⟨g, 1, none⟩ v1).setCell ⟨g, 2, none⟩ v2).heap[g]? = some (.cells #[v0, v1, v2] t (0, 0)) := by
  have h0 : (w.setCell ⟨g, 0, none⟩ v0).heap[g]? = some (.cells #[v0, x1, x2] t (0, 0)) := heap_setCell_same _ g 0 _ t _ h
  have h1 : ((w.setCell ⟨g, 0, none⟩ v0).setCell ⟨g, 1, none⟩ v1).heap[g]? = some (.cells #[v0, v1, x2] t (0, 0)) := heap_setCell_same _ g 1 _ t _ h0
  exact heap_setCell_same _ g 2 _ t _ h1
theorem below_put3 {B : Nat} {w0 w : World} {g : Nat} (h : Below B w0 w) (hg : B ≤ g) (v0 v1 v2 : Value) : Below B w0 (((w.setCell ⟨g, 0, none⟩ v0).setCell ⟨g, 1, none⟩ v1).setCell ⟨g, 2, none⟩ v2) :=
  ((h.setCell (p := ⟨g, 0, none⟩) hg v0).setCell (p := ⟨g, 1, none⟩) hg v1).setCell (p := ⟨g, 2, none⟩) hg v2
/-- what is told of a failure -/
structure FA where
  k : Int
  s : Int
  x : Int
  over : Bool
  c : Int
def failA (k s x f m t now : Int) : FA :=
  if ¬ RR f m t ∨ ¬ TR k ∨ now < s ∨ 4611686018427387904 < now then ⟨0, 0, 0, false, 2⟩
  else if t ≠ 0 ∧ t < now - s + waitM f m k.toNat then ⟨k, s, x, true, 0⟩ else ⟨k + 1, s, now + waitM f m k.toNat, false, 0⟩
theorem failA_no {k s x f m t now : Int} (h : ¬ RR f m t ∨ ¬ TR k ∨ now < s ∨ 4611686018427387904 < now) : failA k s x f m t now = ⟨0, 0, 0, false, 2⟩ := by unfold failA; rw [if_pos h]
theorem failA_over {k s x f m t now : Int} (h : ¬ (¬ RR f m t ∨ ¬ TR k ∨ now < s ∨ 4611686018427387904 < now)) (h2 : t ≠ 0 ∧ t < now - s + waitM f m k.toNat) : failA k s x f m t now = ⟨k, s, x, true, 0⟩ := by unfold failA; rw [if_neg h, if_pos h2]
theorem failA_next {k s x f m t now : Int} (h : ¬ (¬ RR f m t ∨ ¬ TR k ∨ now < s ∨ 4611686018427387904 < now)) (h2 : ¬ (t ≠ 0 ∧ t < now - s + waitM f m k.toNat)) : failA k s x f m t now = ⟨k + 1, s, now + waitM f m k.toNat, false, 0⟩ := by unfold failA; rw [if_neg h, if_neg h2]
abbrev faT (a : FA) : Value := .tuple #[.agg (tcells a.k a.s a.x), .bool a.over, .int .i64 a.c]

set_option maxHeartbeats 2000000 in
theorem Fail_any (w : World) (k s x f m t now : Int) (hk : I64 k) (hs : U64 s) (hx : U64 x) (hf : U64 f) (hm : U64 m) (ht : U64 t) (hn : U64 now) : Calls Try.prog 9 #[.agg (tcells k s x), .agg (rcells f m t), .int .u64 now] w fun e w' => e = .returned (faT (failA k s x f m t now)) ∧ Below w.heap.size w w' := by
  obtain ⟨X, hX⟩ : ∃ X, X = ((w.alloc (.cells (tcells k s x) 26)).alloc (.cells (rcells f m t) 24)).alloc (.cells (tcells 0 0 0) 26) := ⟨_, rfl⟩
  have hx0 : X.heap[w.heap.size]? = some (.cells (tcells k s x) 26 (0, 0)) := by rw [hX]; exact blk_alloc (blk_alloc (blk_new w _) _) _
  have hx1 : X.heap[w.heap.size + 1]? = some (.cells (rcells f m t) 24 (0, 0)) := by rw [hX]; refine blk_alloc ?_ _; have := blk_new (w.alloc (.cells (tcells k s x) 26)) (.cells (rcells f m t) 24); simpa using this
  have hx2 : X.heap[w.heap.size + 2]? = some (.cells (tcells 0 0 0) 26 (0, 0)) := by rw [hX]; have := blk_new ((w.alloc (.cells (tcells k s x) 26)).alloc (.cells (rcells f m t) 24)) (.cells (tcells 0 0 0) 26); simpa using this
  have hb : Below w.heap.size w X := by rw [hX]; exact (((Below.refl _ w).alloc (Nat.le_refl _) _).alloc (by simp) _).alloc (by simp; omega) _
  obtain ⟨a, ha⟩ : ∃ a, a = failA k s x f m t now := ⟨_, rfl⟩
  rw [← ha]
  obtain ⟨hk0, hk1⟩ := hk
  obtain ⟨hs0, hs1⟩ := hs
  obtain ⟨hn0, hn1⟩ := hn
  obtain ⟨ht0, ht1⟩ := ht
  have Ha := Lib.hid ha
  have Hx0 := Lib.hid hx0
  have Hx1 := Lib.hid hx1
  have Hx2 := Lib.hid hx2
  have HB := Lib.hid hb
  clear ha hb
  go_enter Try.func9, Try.ntmps9
  go_upto_region 1 with (fail)
  rw [← hX]
  clear hX
  obtain ⟨c0, c1, c2⟩ := box3 hx0
  obtain ⟨d0, d1, d2⟩ := box3 hx1
  obtain ⟨e0, e1, e2⟩ := box3 hx2
  obtain ⟨y0, y1, y2⟩ := frz3 hx0
  obtain ⟨z0, z1, z2⟩ := frz3 hx2
  have hl0 := (Array.getElem?_eq_some_iff.1 hx0).1
  have hl1 := (Array.getElem?_eq_some_iff.1 hx1).1
  have hl2 := (Array.getElem?_eq_some_iff.1 hx2).1
  clear hx0 hx1 hx2
  go_wp2_with fail
  refine (rules_any X f m t).mono ?_
  rintro e w1 ⟨rfl, hb1⟩
  have hx0 := (hb1.block _ hl0).trans Hx0.out
  have hx1 := (hb1.block _ hl1).trans Hx1.out
  have hx2 := (hb1.block _ hl2).trans Hx2.out
  replace Hx0 := Lib.hid hx0
  replace Hx1 := Lib.hid hx1
  replace Hx2 := Lib.hid hx2
  replace HB := Lib.hid (HB.out.trans (hb1.mono HB.out.size))
  clear c0 c1 c2 d0 d1 d2 e0 e1 e2 hl0 hl1 hl2 y0 y1 y2 z0 z1 z2 hb1
  obtain ⟨c0, c1, c2⟩ := box3 hx0
  obtain ⟨d0, d1, d2⟩ := box3 hx1
  obtain ⟨e0, e1, e2⟩ := box3 hx2
  obtain ⟨y0, y1, y2⟩ := frz3 hx0
  obtain ⟨z0, z1, z2⟩ := frz3 hx2
  have hl0 := (Array.getElem?_eq_some_iff.1 hx0).1
  have hl1 := (Array.getElem?_eq_some_iff.1 hx1).1
  have hl2 := (Array.getElem?_eq_some_iff.1 hx2).1
  clear hx0 hx1 hx2
  by_cases hR : RR f m t
  rotate_left
  · rw [decide_eq_false hR]
    have e := Ha.out.trans (failA_no (.inl hR))
    subst e
    clear Ha
    have hp := cell_put3 Hx2.out (.int .i64 0) (.int .u64 0) (.int .u64 0)
    obtain ⟨p0, p1, p2⟩ := box3 hp
    clear hp
    go_wp2
    refine bodyPost_ret (v := faT ⟨0, 0, 0, false, 2⟩) (by simp [results, Try.results9, go_sem, p0, p1, p2]) rfl ?_
    exact ⟨rfl, below_put3 HB.out (by omega) _ _ _⟩
  rw [decide_eq_true hR]
  go_wp2_with fail
  refine (tried_any w1 k s x).mono ?_
  rintro e w2 ⟨rfl, hb2⟩
  have hx0 := (hb2.block _ hl0).trans Hx0.out
  have hx1 := (hb2.block _ hl1).trans Hx1.out
  have hx2 := (hb2.block _ hl2).trans Hx2.out
  replace Hx0 := Lib.hid hx0
  replace Hx1 := Lib.hid hx1
  replace Hx2 := Lib.hid hx2
  replace HB := Lib.hid (HB.out.trans (hb2.mono HB.out.size))
  clear c0 c1 c2 d0 d1 d2 e0 e1 e2 hl0 hl1 hl2 y0 y1 y2 z0 z1 z2 hb2
  obtain ⟨c0, c1, c2⟩ := box3 hx0
  obtain ⟨d0, d1, d2⟩ := box3 hx1
  obtain ⟨e0, e1, e2⟩ := box3 hx2
  obtain ⟨y0, y1, y2⟩ := frz3 hx0
  obtain ⟨z0, z1, z2⟩ := frz3 hx2
  have hl0 := (Array.getElem?_eq_some_iff.1 hx0).1
  have hl1 := (Array.getElem?_eq_some_iff.1 hx1).1
  have hl2 := (Array.getElem?_eq_some_iff.1 hx2).1
  clear hx0 hx1 hx2
  by_cases hT : TR k
  rotate_left
  · rw [decide_eq_false hT]
    have e := Ha.out.trans (failA_no (.inr (.inl hT)))
    subst e
    clear Ha
    have hp := cell_put3 Hx2.out (.int .i64 0) (.int .u64 0) (.int .u64 0)
    obtain ⟨p0, p1, p2⟩ := box3 hp
    clear hp
    go_wp2
    refine bodyPost_ret (v := faT ⟨0, 0, 0, false, 2⟩) (by simp [results, Try.results9, go_sem, p0, p1, p2]) rfl ?_
    exact ⟨rfl, below_put3 HB.out (by omega) _ _ _⟩
  rw [decide_eq_true hT]
  by_cases hns : s ≤ now
  rotate_left
  · have e := Ha.out.trans (failA_no (.inr (.inr (.inl (by omega)))))
    subst e
    clear Ha
    have hp := cell_put3 Hx2.out (.int .i64 0) (.int .u64 0) (.int .u64 0)
    obtain ⟨p0, p1, p2⟩ := box3 hp
    clear hp
    go_wp2
    refine bodyPost_ret (v := faT ⟨0, 0, 0, false, 2⟩) (by simp [results, Try.results9, go_sem, p0, p1, p2]) rfl ?_
    exact ⟨rfl, below_put3 HB.out (by omega) _ _ _⟩
  by_cases hnt : now ≤ 4611686018427387904
  rotate_left
  · have e := Ha.out.trans (failA_no (.inr (.inr (.inr (by omega)))))
    subst e
    clear Ha
    have hp := cell_put3 Hx2.out (.int .i64 0) (.int .u64 0) (.int .u64 0)
    obtain ⟨p0, p1, p2⟩ := box3 hp
    clear hp
    go_wp2
    refine bodyPost_ret (v := faT ⟨0, 0, 0, false, 2⟩) (by simp [results, Try.results9, go_sem, p0, p1, p2]) rfl ?_
    exact ⟨rfl, below_put3 HB.out (by omega) _ _ _⟩
  have hg : ¬ (¬ RR f m t ∨ ¬ TR k ∨ now < s ∨ 4611686018427387904 < now) := by
    rintro (h | h | h | h)
    · exact h hR
    · exact h hT
    · omega
    · omega
  have HR := Lib.hid hR
  have Hg := Lib.hid hg
  obtain ⟨r1, r2, r3, r4⟩ := hR
  obtain ⟨t1, t2⟩ := hT
  clear hg
  obtain ⟨v, hv⟩ : ∃ v, waitM f m k.toNat = v := ⟨_, rfl⟩
  have hv1 : v ≤ m := by rw [← hv]; exact waitM_le f m _
  have hv0 : f ≤ v := by rw [← hv]; exact waitM_ge (by omega) r2 _
  have Hv := Lib.hid hv
  clear hv
  go_wp2_with fail
  refine (wait_any w2 f m t k HR.out t1 (by omega)).mono ?_
  rintro e w3 ⟨rfl, hb3⟩
  rw [Hv.out]
  have hx0 := (hb3.block _ hl0).trans Hx0.out
  have hx1 := (hb3.block _ hl1).trans Hx1.out
  have hx2 := (hb3.block _ hl2).trans Hx2.out
  replace Hx0 := Lib.hid hx0
  replace Hx1 := Lib.hid hx1
  replace Hx2 := Lib.hid hx2
  replace HB := Lib.hid (HB.out.trans (hb3.mono HB.out.size))
  clear c0 c1 c2 d0 d1 d2 e0 e1 e2 hl0 hl1 hl2 y0 y1 y2 z0 z1 z2 hb3
  obtain ⟨c0, c1, c2⟩ := box3 hx0
  obtain ⟨d0, d1, d2⟩ := box3 hx1
  obtain ⟨e0, e1, e2⟩ := box3 hx2
  obtain ⟨y0, y1, y2⟩ := frz3 hx0
  obtain ⟨z0, z1, z2⟩ := frz3 hx2
  have hl0 := (Array.getElem?_eq_some_iff.1 hx0).1
  have hl1 := (Array.getElem?_eq_some_iff.1 hx1).1
  have hl2 := (Array.getElem?_eq_some_iff.1 hx2).1
  clear hx0 hx1 hx2
  by_cases ht2 : t = 0
  · have e := Ha.out.trans (failA_next Hg.out (fun h => h.1 ht2))
    rw [Hv.out] at e
    subst ht2
    subst e
    clear Ha
    go_upto_region 8 with (fail)
    obtain ⟨G, hG⟩ : ∃ G, G = (w3.setCell ⟨w.heap.size, 0, none⟩ (.int .i64 (k + 1))).setCell ⟨w.heap.size, 2, none⟩ (.int .u64 (now + v)) := ⟨_, rfl⟩
    rw [← hG]
    have hG0 : G.heap[w.heap.size]? = some (.cells (tcells (k + 1) s (now + v)) 26 (0, 0)) := by rw [hG]; exact heap_setCell_same _ _ 2 _ _ _ (heap_setCell_same _ _ 0 _ _ _ Hx0.out)
    have hG2 : G.heap[w.heap.size + 2]? = some (.cells (tcells 0 0 0) 26 (0, 0)) := by
      have h1 := Below.heap_setCell w3 ⟨w.heap.size, 0, none⟩ (.int .i64 (k + 1)) (w.heap.size + 2) (by show w.heap.size + 2 ≠ w.heap.size; omega)
      have h2 := Below.heap_setCell (w3.setCell ⟨w.heap.size, 0, none⟩ (.int .i64 (k + 1))) ⟨w.heap.size, 2, none⟩ (.int .u64 (now + v)) (w.heap.size + 2) (by show w.heap.size + 2 ≠ w.heap.size; omega)
      rw [hG]; exact (h2.trans h1).trans Hx2.out
    have hGB : Below w.heap.size w G := by rw [hG]; exact (HB.out.setCell (p := ⟨w.heap.size, 0, none⟩) (Nat.le_refl _) _).setCell (p := ⟨w.heap.size, 2, none⟩) (Nat.le_refl _) _
    clear hG c0 c1 c2 d0 d1 d2 e0 e1 e2 hl0 hl1 hl2 y0 y1 y2 z0 z1 z2
    obtain ⟨c0, c1, c2⟩ := box3 hG0
    obtain ⟨e0, e1, e2⟩ := box3 hG2
    obtain ⟨z0, z1, z2⟩ := frz3 hG2
    have hl0 := (Array.getElem?_eq_some_iff.1 hG0).1
    have hl2 := (Array.getElem?_eq_some_iff.1 hG2).1
    have hp := cell_put3 hG2 (.int .i64 (k + 1)) (.int .u64 s) (.int .u64 (now + v))
    obtain ⟨p0, p1, p2⟩ := box3 hp
    clear hp hG0 hG2
    go_wp2
    refine bodyPost_ret (v := faT ⟨k + 1, s, now + v, false, 0⟩) (by simp [results, Try.results9, go_sem, p0, p1, p2]) rfl ?_
    exact ⟨rfl, below_put3 hGB (by omega) _ _ _⟩
  by_cases hov : t < now - s + v
  · have e := Ha.out.trans (failA_over Hg.out ⟨ht2, by rw [Hv.out]; exact hov⟩)
    subst e
    clear Ha
    have hp := cell_put3 Hx2.out (.int .i64 k) (.int .u64 s) (.int .u64 x)
    obtain ⟨p0, p1, p2⟩ := box3 hp
    clear hp
    go_wp2
    refine bodyPost_ret (v := faT ⟨k, s, x, true, 0⟩) (by simp [results, Try.results9, go_sem, p0, p1, p2]) rfl ?_
    exact ⟨rfl, below_put3 HB.out (by omega) _ _ _⟩
  have e := Ha.out.trans (failA_next Hg.out (fun h => hov (by have := h.2; rw [Hv.out] at this; exact this)))
  rw [Hv.out] at e
  subst e
  clear Ha
  go_upto_region 8 with (fail)
  obtain ⟨G, hG⟩ : ∃ G, G = (w3.setCell ⟨w.heap.size, 0, none⟩ (.int .i64 (k + 1))).setCell ⟨w.heap.size, 2, none⟩ (.int .u64 (now + v)) := ⟨_, rfl⟩
  rw [← hG]
  have hG0 : G.heap[w.heap.size]? = some (.cells (tcells (k + 1) s (now + v)) 26 (0, 0)) := by rw [hG]; exact heap_setCell_same _ _ 2 _ _ _ (heap_setCell_same _ _ 0 _ _ _ Hx0.out)
  have hG2 : G.heap[w.heap.size + 2]? = some (.cells (tcells 0 0 0) 26 (0, 0)) := by
    have h1 := Below.heap_setCell w3 ⟨w.heap.size, 0, none⟩ (.int .i64 (k + 1)) (w.heap.size + 2) (by show w.heap.size + 2 ≠ w.heap.size; omega)
    have h2 := Below.heap_setCell (w3.setCell ⟨w.heap.size, 0, none⟩ (.int .i64 (k + 1))) ⟨w.heap.size, 2, none⟩ (.int .u64 (now + v)) (w.heap.size + 2) (by show w.heap.size + 2 ≠ w.heap.size; omega)
    rw [hG]; exact (h2.trans h1).trans Hx2.out
  have hGB : Below w.heap.size w G := by rw [hG]; exact (HB.out.setCell (p := ⟨w.heap.size, 0, none⟩) (Nat.le_refl _) _).setCell (p := ⟨w.heap.size, 2, none⟩) (Nat.le_refl _) _
  clear hG c0 c1 c2 d0 d1 d2 e0 e1 e2 hl0 hl1 hl2 y0 y1 y2 z0 z1 z2
  obtain ⟨c0, c1, c2⟩ := box3 hG0
  obtain ⟨e0, e1, e2⟩ := box3 hG2
  obtain ⟨z0, z1, z2⟩ := frz3 hG2
  have hl0 := (Array.getElem?_eq_some_iff.1 hG0).1
  have hl2 := (Array.getElem?_eq_some_iff.1 hG2).1
  have hp := cell_put3 hG2 (.int .i64 (k + 1)) (.int .u64 s) (.int .u64 (now + v))
  obtain ⟨p0, p1, p2⟩ := box3 hp
  clear hp hG0 hG2
  go_wp2
  refine bodyPost_ret (v := faT ⟨k + 1, s, now + v, false, 0⟩) (by simp [results, Try.results9, go_sem, p0, p1, p2]) rfl ?_
  exact ⟨rfl, below_put3 hGB (by omega) _ _ _⟩

set_option maxHeartbeats 2000000 in
theorem RFail_any (w : World) (k s x f m t now : Int) (hk : I64 k) (hs : U64 s) (hx : U64 x) (hf : U64 f) (hm : U64 m) (ht : U64 t) (hn : U64 now) : Calls Try.prog 10 #[.agg (tcells k s x), .agg (rcells f m t), .int .u64 now] w fun e w' => e = .returned (faT (failA k s x f m t now)) ∧ Below w.heap.size w w' := by
  obtain ⟨X, hX⟩ : ∃ X, X = ((w.alloc (.cells (tcells k s x) 26)).alloc (.cells (rcells f m t) 24)).alloc (.cells (tcells 0 0 0) 26) := ⟨_, rfl⟩
  have hx0 : X.heap[w.heap.size]? = some (.cells (tcells k s x) 26 (0, 0)) := by rw [hX]; exact blk_alloc (blk_alloc (blk_new w _) _) _
  have hx1 : X.heap[w.heap.size + 1]? = some (.cells (rcells f m t) 24 (0, 0)) := by rw [hX]; refine blk_alloc ?_ _; have := blk_new (w.alloc (.cells (tcells k s x) 26)) (.cells (rcells f m t) 24); simpa using this
  have hx2 : X.heap[w.heap.size + 2]? = some (.cells (tcells 0 0 0) 26 (0, 0)) := by rw [hX]; have := blk_new ((w.alloc (.cells (tcells k s x) 26)).alloc (.cells (rcells f m t) 24)) (.cells (tcells 0 0 0) 26); simpa using this
  have hb : Below w.heap.size w X := by rw [hX]; exact (((Below.refl _ w).alloc (Nat.le_refl _) _).alloc (by simp) _).alloc (by simp; omega) _
  obtain ⟨a, ha⟩ : ∃ a, a = failA k s x f m t now := ⟨_, rfl⟩
  rw [← ha]
  obtain ⟨hk0, hk1⟩ := hk
  obtain ⟨hs0, hs1⟩ := hs
  obtain ⟨hn0, hn1⟩ := hn
  obtain ⟨ht0, ht1⟩ := ht
  have Ha := Lib.hid ha
  have Hx0 := Lib.hid hx0
  have Hx1 := Lib.hid hx1
  have Hx2 := Lib.hid hx2
  have HB := Lib.hid hb
  clear ha hb
  go_enter Try.func10, Try.ntmps10
  go_upto_region 1 with (fail)
  rw [← hX]
  clear hX
  obtain ⟨c0, c1, c2⟩ := box3 hx0
  obtain ⟨d0, d1, d2⟩ := box3 hx1
  obtain ⟨e0, e1, e2⟩ := box3 hx2
  obtain ⟨y0, y1, y2⟩ := frz3 hx0
  obtain ⟨z0, z1, z2⟩ := frz3 hx2
  have hl0 := (Array.getElem?_eq_some_iff.1 hx0).1
  have hl1 := (Array.getElem?_eq_some_iff.1 hx1).1
  have hl2 := (Array.getElem?_eq_some_iff.1 hx2).1
  clear hx0 hx1 hx2
  go_wp2_with fail
  refine (right_any X f m t).mono ?_
  rintro e w1 ⟨rfl, hb1⟩
  have hx0 := (hb1.block _ hl0).trans Hx0.out
  have hx1 := (hb1.block _ hl1).trans Hx1.out
  have hx2 := (hb1.block _ hl2).trans Hx2.out
  replace Hx0 := Lib.hid hx0
  replace Hx1 := Lib.hid hx1
  replace Hx2 := Lib.hid hx2
  replace HB := Lib.hid (HB.out.trans (hb1.mono HB.out.size))
  clear c0 c1 c2 d0 d1 d2 e0 e1 e2 hl0 hl1 hl2 y0 y1 y2 z0 z1 z2 hb1
  obtain ⟨c0, c1, c2⟩ := box3 hx0
  obtain ⟨d0, d1, d2⟩ := box3 hx1
  obtain ⟨e0, e1, e2⟩ := box3 hx2
  obtain ⟨y0, y1, y2⟩ := frz3 hx0
  obtain ⟨z0, z1, z2⟩ := frz3 hx2
  have hl0 := (Array.getElem?_eq_some_iff.1 hx0).1
  have hl1 := (Array.getElem?_eq_some_iff.1 hx1).1
  have hl2 := (Array.getElem?_eq_some_iff.1 hx2).1
  clear hx0 hx1 hx2
  by_cases hR : RR f m t
  rotate_left
  · rw [decide_eq_false hR]
    have e := Ha.out.trans (failA_no (.inl hR))
    subst e
    clear Ha
    have hp := cell_put3 Hx2.out (.int .i64 0) (.int .u64 0) (.int .u64 0)
    obtain ⟨p0, p1, p2⟩ := box3 hp
    clear hp
    go_wp2
    refine bodyPost_ret (v := faT ⟨0, 0, 0, false, 2⟩) (by simp [results, Try.results10, go_sem, p0, p1, p2]) rfl ?_
    exact ⟨rfl, below_put3 HB.out (by omega) _ _ _⟩
  rw [decide_eq_true hR]
  by_cases hT0 : 0 ≤ k
  rotate_left
  · have e := Ha.out.trans (failA_no (.inr (.inl fun h => hT0 h.1)))
    subst e
    clear Ha
    have hp := cell_put3 Hx2.out (.int .i64 0) (.int .u64 0) (.int .u64 0)
    obtain ⟨p0, p1, p2⟩ := box3 hp
    clear hp
    go_wp2
    refine bodyPost_ret (v := faT ⟨0, 0, 0, false, 2⟩) (by simp [results, Try.results10, go_sem, p0, p1, p2]) rfl ?_
    exact ⟨rfl, below_put3 HB.out (by omega) _ _ _⟩
  by_cases hT1 : k ≤ 1073741824
  rotate_left
  · have e := Ha.out.trans (failA_no (.inr (.inl fun h => hT1 h.2)))
    subst e
    clear Ha
    have hp := cell_put3 Hx2.out (.int .i64 0) (.int .u64 0) (.int .u64 0)
    obtain ⟨p0, p1, p2⟩ := box3 hp
    clear hp
    go_wp2
    refine bodyPost_ret (v := faT ⟨0, 0, 0, false, 2⟩) (by simp [results, Try.results10, go_sem, p0, p1, p2]) rfl ?_
    exact ⟨rfl, below_put3 HB.out (by omega) _ _ _⟩
  have hT : TR k := ⟨hT0, hT1⟩
  by_cases hns : s ≤ now
  rotate_left
  · have e := Ha.out.trans (failA_no (.inr (.inr (.inl (by omega)))))
    subst e
    clear Ha
    have hp := cell_put3 Hx2.out (.int .i64 0) (.int .u64 0) (.int .u64 0)
    obtain ⟨p0, p1, p2⟩ := box3 hp
    clear hp
    go_wp2
    refine bodyPost_ret (v := faT ⟨0, 0, 0, false, 2⟩) (by simp [results, Try.results10, go_sem, p0, p1, p2]) rfl ?_
    exact ⟨rfl, below_put3 HB.out (by omega) _ _ _⟩
  by_cases hnt : now ≤ 4611686018427387904
  rotate_left
  · have e := Ha.out.trans (failA_no (.inr (.inr (.inr (by omega)))))
    subst e
    clear Ha
    have hp := cell_put3 Hx2.out (.int .i64 0) (.int .u64 0) (.int .u64 0)
    obtain ⟨p0, p1, p2⟩ := box3 hp
    clear hp
    go_wp2
    refine bodyPost_ret (v := faT ⟨0, 0, 0, false, 2⟩) (by simp [results, Try.results10, go_sem, p0, p1, p2]) rfl ?_
    exact ⟨rfl, below_put3 HB.out (by omega) _ _ _⟩
  have hg : ¬ (¬ RR f m t ∨ ¬ TR k ∨ now < s ∨ 4611686018427387904 < now) := by
    rintro (h | h | h | h)
    · exact h hR
    · exact h hT
    · omega
    · omega
  have HR := Lib.hid hR
  have Hg := Lib.hid hg
  obtain ⟨r1, r2, r3, r4⟩ := hR
  obtain ⟨t1, t2⟩ := hT
  clear hg
  obtain ⟨v, hv⟩ : ∃ v, waitM f m k.toNat = v := ⟨_, rfl⟩
  have hv1 : v ≤ m := by rw [← hv]; exact waitM_le f m _
  have hv0 : f ≤ v := by rw [← hv]; exact waitM_ge (by omega) r2 _
  have Hv := Lib.hid hv
  clear hv
  go_wp2_with fail
  refine (RWait_any w1 f m t k (by omega)).mono ?_
  rintro e w3 ⟨rfl, hb3⟩
  rw [waitA_yes HR.out t1]
  simp only
  rw [Hv.out]
  have hx0 := (hb3.block _ hl0).trans Hx0.out
  have hx1 := (hb3.block _ hl1).trans Hx1.out
  have hx2 := (hb3.block _ hl2).trans Hx2.out
  replace Hx0 := Lib.hid hx0
  replace Hx1 := Lib.hid hx1
  replace Hx2 := Lib.hid hx2
  replace HB := Lib.hid (HB.out.trans (hb3.mono HB.out.size))
  clear c0 c1 c2 d0 d1 d2 e0 e1 e2 hl0 hl1 hl2 y0 y1 y2 z0 z1 z2 hb3
  obtain ⟨c0, c1, c2⟩ := box3 hx0
  obtain ⟨d0, d1, d2⟩ := box3 hx1
  obtain ⟨e0, e1, e2⟩ := box3 hx2
  obtain ⟨y0, y1, y2⟩ := frz3 hx0
  obtain ⟨z0, z1, z2⟩ := frz3 hx2
  have hl0 := (Array.getElem?_eq_some_iff.1 hx0).1
  have hl1 := (Array.getElem?_eq_some_iff.1 hx1).1
  have hl2 := (Array.getElem?_eq_some_iff.1 hx2).1
  clear hx0 hx1 hx2
  by_cases ht2 : t = 0
  · have e := Ha.out.trans (failA_next Hg.out (fun h => h.1 ht2))
    rw [Hv.out] at e
    subst ht2
    subst e
    clear Ha
    go_upto_region 8 with (fail)
    obtain ⟨G, hG⟩ : ∃ G, G = (w3.setCell ⟨w.heap.size, 0, none⟩ (.int .i64 (k + 1))).setCell ⟨w.heap.size, 2, none⟩ (.int .u64 (now + v)) := ⟨_, rfl⟩
    rw [← hG]
    have hG0 : G.heap[w.heap.size]? = some (.cells (tcells (k + 1) s (now + v)) 26 (0, 0)) := by rw [hG]; exact heap_setCell_same _ _ 2 _ _ _ (heap_setCell_same _ _ 0 _ _ _ Hx0.out)
    have hG2 : G.heap[w.heap.size + 2]? = some (.cells (tcells 0 0 0) 26 (0, 0)) := by
      have h1 := Below.heap_setCell w3 ⟨w.heap.size, 0, none⟩ (.int .i64 (k + 1)) (w.heap.size + 2) (by show w.heap.size + 2 ≠ w.heap.size; omega)
      have h2 := Below.heap_setCell (w3.setCell ⟨w.heap.size, 0, none⟩ (.int .i64 (k + 1))) ⟨w.heap.size, 2, none⟩ (.int .u64 (now + v)) (w.heap.size + 2) (by show w.heap.size + 2 ≠ w.heap.size; omega)
      rw [hG]; exact (h2.trans h1).trans Hx2.out
    have hGB : Below w.heap.size w G := by rw [hG]; exact (HB.out.setCell (p := ⟨w.heap.size, 0, none⟩) (Nat.le_refl _) _).setCell (p := ⟨w.heap.size, 2, none⟩) (Nat.le_refl _) _
    clear hG c0 c1 c2 d0 d1 d2 e0 e1 e2 hl0 hl1 hl2 y0 y1 y2 z0 z1 z2
    obtain ⟨c0, c1, c2⟩ := box3 hG0
    obtain ⟨e0, e1, e2⟩ := box3 hG2
    obtain ⟨z0, z1, z2⟩ := frz3 hG2
    have hl0 := (Array.getElem?_eq_some_iff.1 hG0).1
    have hl2 := (Array.getElem?_eq_some_iff.1 hG2).1
    have hp := cell_put3 hG2 (.int .i64 (k + 1)) (.int .u64 s) (.int .u64 (now + v))
    obtain ⟨p0, p1, p2⟩ := box3 hp
    clear hp hG0 hG2
    go_wp2
    refine bodyPost_ret (v := faT ⟨k + 1, s, now + v, false, 0⟩) (by simp [results, Try.results10, go_sem, p0, p1, p2]) rfl ?_
    exact ⟨rfl, below_put3 hGB (by omega) _ _ _⟩
  by_cases hov : t < now - s + v
  · have e := Ha.out.trans (failA_over Hg.out ⟨ht2, by rw [Hv.out]; exact hov⟩)
    subst e
    clear Ha
    have hp := cell_put3 Hx2.out (.int .i64 k) (.int .u64 s) (.int .u64 x)
    obtain ⟨p0, p1, p2⟩ := box3 hp
    clear hp
    go_wp2
    refine bodyPost_ret (v := faT ⟨k, s, x, true, 0⟩) (by simp [results, Try.results10, go_sem, p0, p1, p2]) rfl ?_
    exact ⟨rfl, below_put3 HB.out (by omega) _ _ _⟩
  have e := Ha.out.trans (failA_next Hg.out (fun h => hov (by have := h.2; rw [Hv.out] at this; exact this)))
  rw [Hv.out] at e
  subst e
  clear Ha
  go_upto_region 8 with (fail)
  obtain ⟨G, hG⟩ : ∃ G, G = (w3.setCell ⟨w.heap.size, 0, none⟩ (.int .i64 (k + 1))).setCell ⟨w.heap.size, 2, none⟩ (.int .u64 (now + v)) := ⟨_, rfl⟩
  rw [← hG]
  have hG0 : G.heap[w.heap.size]? = some (.cells (tcells (k + 1) s (now + v)) 26 (0, 0)) := by rw [hG]; exact heap_setCell_same _ _ 2 _ _ _ (heap_setCell_same _ _ 0 _ _ _ Hx0.out)
  have hG2 : G.heap[w.heap.size + 2]? = some (.cells (tcells 0 0 0) 26 (0, 0)) := by
    have h1 := Below.heap_setCell w3 ⟨w.heap.size, 0, none⟩ (.int .i64 (k + 1)) (w.heap.size + 2) (by show w.heap.size + 2 ≠ w.heap.size; omega)
    have h2 := Below.heap_setCell (w3.setCell ⟨w.heap.size, 0, none⟩ (.int .i64 (k + 1))) ⟨w.heap.size, 2, none⟩ (.int .u64 (now + v)) (w.heap.size + 2) (by show w.heap.size + 2 ≠ w.heap.size; omega)
    rw [hG]; exact (h2.trans h1).trans Hx2.out
  have hGB : Below w.heap.size w G := by rw [hG]; exact (HB.out.setCell (p := ⟨w.heap.size, 0, none⟩) (Nat.le_refl _) _).setCell (p := ⟨w.heap.size, 2, none⟩) (Nat.le_refl _) _
  clear hG c0 c1 c2 d0 d1 d2 e0 e1 e2 hl0 hl1 hl2 y0 y1 y2 z0 z1 z2
  obtain ⟨c0, c1, c2⟩ := box3 hG0
  obtain ⟨e0, e1, e2⟩ := box3 hG2
  obtain ⟨z0, z1, z2⟩ := frz3 hG2
  have hl0 := (Array.getElem?_eq_some_iff.1 hG0).1
  have hl2 := (Array.getElem?_eq_some_iff.1 hG2).1
  have hp := cell_put3 hG2 (.int .i64 (k + 1)) (.int .u64 s) (.int .u64 (now + v))
  obtain ⟨p0, p1, p2⟩ := box3 hp
  clear hp hG0 hG2
  go_wp2
  refine bodyPost_ret (v := faT ⟨k + 1, s, now + v, false, 0⟩) (by simp [results, Try.results10, go_sem, p0, p1, p2]) rfl ?_
  exact ⟨rfl, below_put3 hGB (by omega) _ _ _⟩
end Go.Proofs.Ytclhclaeccoljaa
