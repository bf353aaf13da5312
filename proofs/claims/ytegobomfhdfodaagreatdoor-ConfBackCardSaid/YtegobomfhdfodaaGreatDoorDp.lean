/- CONF: THE WALK OVER clone, of a node with no keys. -/
import Derived.Test.YtegobomfhdfodaaGreatDoorDo
import Derived.Test.YtegobomfhdfodaaGreatDoorDg
import Derived.Test.YtegobomfhdfodaaGreatDoorDb
namespace Go.Proofs.YtegobomfhdfodaaGreatDoor
open Go.RowKit
set_option maxRecDepth 100000
set_option linter.unusedVariables false
set_option linter.unusedSimpArgs false

/-- a slice whose block, of n0 on, may be written -/
def FreeS (n0 : Nat) (W : World) (v : Value) : Prop := ∀ a n c, v = .slice (some a) n c → n0 ≤ a.block ∧ ∃ cs t, W.heap[a.block]? = some (.cells cs t (0, 0))
theorem FreeS.keep {n0 n1 : Nat} {W W' : World} {v : Value} (h : FreeS n0 W v) (hn : n1 ≤ n0) (hG : ∀ g, n0 ≤ g → g < W.heap.size → W'.heap[g]? = W.heap[g]?) : FreeS n1 W' v := fun a n c e => by
  obtain ⟨h1, cs, t, h2⟩ := h a n c e
  exact ⟨Nat.le_trans hn h1, cs, t, (hG _ h1 (blk_lt h2)).trans h2⟩
theorem FreeS.of_row {n0 : Nat} {e : TypeId} {sz n : Nat} {xs : List Value} {W : World} {v : Value} (h : W.ownsRow n0 e sz v n xs) : FreeS n0 W v := fun a m c he => by
  rcases h.2 with ⟨hv, _⟩ | ⟨g, cap, cur, hv, hbg, hg, _⟩
  · rw [hv] at he; cases he
  · rw [hv] at he
    injection he with h1 _ _
    have h1 := Option.some.inj h1
    subst h1
    exact ⟨hbg, cur, e, hg⟩
theorem FreeS.nil (n0 : Nat) (W : World) (n c : Nat) : FreeS n0 W (.slice none n c) := fun a m c' he => by cases he
/-- clone of x: the same in new memory, which may be written -/
def CloneC (x : Nd) : Prop := ∀ (B : Nat → Prop) (w : World) (q1 q2 : Value), Rep B w q1 q2 x → Calls Tryz.prog 36 #[.agg (nv x q1 q2)] w fun e w' => Below w.heap.size w w' ∧ ∃ r1 r2, e = .returned (.agg (nv x r1 r2)) ∧ Rep (fun g => w.heap.size ≤ g) w' r1 r2 x ∧ FreeS w.heap.size w' r1 ∧ FreeS w.heap.size w' r2
theorem Txs.low {n0 : Nat} {w : World} {v : Value} {ss : List K.T} (h : Txs n0 v ss w) (hl : ∀ s ∈ ss, s.length ≤ 140737488353000) : RepT (fun g => n0 ≤ g) w v ss := by
  rcases h.2 with ⟨rfl, hn⟩ | ⟨g, cap, cur, rfl, hbg, hg, h1, h2, h3, h4⟩
  · have hx : ss = [] := List.eq_nil_of_length_eq_zero hn
    subst hx
    exact RepT.nil _ _
  · refine ⟨g, 0, ⟨_, cap, rfl, ⟨h1, by simp only [maxLen] at h2; omega⟩, fun _ => ⟨rfl, hbg, blk_lt hg⟩⟩, fun i y hy => ⟨?_, hl y (List.mem_of_getElem? hy)⟩⟩
    have := World.ownsRow.cells h (g := g) rfl i (S y) (by rw [List.getElem?_map, hy]; rfl)
    rwa [show (⟨g, 0, none⟩ : Addr).add i = ⟨g, 0 + i, none⟩ by unfold Addr.add; split <;> simp_all] at this
theorem RepT.short {B : Nat → Prop} {w : World} {q : Value} {l : List K.T} (h : RepT B w q l) : ∀ s ∈ l, s.length ≤ 140737488353000 := by
  intro s hs
  obtain ⟨i, hi⟩ := List.getElem?_of_mem hs
  obtain ⟨ad, cap, rfl, _⟩ := h.form
  obtain ⟨g, o, _, _, _, hl⟩ := h.at hi
  exact hl
theorem four {w : World} {g : Nat} {a b c d : Value} {t : TypeId} (h : w.heap[g]? = some (.cells #[a, b, c, d] t (0, 0))) : w.cell? ⟨g, 0, none⟩ = some a ∧ w.cell? ⟨g, 1, none⟩ = some b ∧ w.cell? ⟨g, 2, none⟩ = some c ∧ w.cell? ⟨g, 3, none⟩ = some d :=
  ⟨cell_of_row w g 0 _ t (0, 0) h, cell_of_row w g 1 _ t (0, 0) h, cell_of_row w g 2 _ t (0, 0) h, cell_of_row w g 3 _ t (0, 0) h⟩
theorem free4 {w : World} {g : Nat} {a b c d : Value} {t : TypeId} (h : w.heap[g]? = some (.cells #[a, b, c, d] t (0, 0))) : w.frozen? ⟨g, 0, none⟩ = false ∧ w.frozen? ⟨g, 1, none⟩ = false ∧ w.frozen? ⟨g, 2, none⟩ = false ∧ w.frozen? ⟨g, 3, none⟩ = false :=
  ⟨frozen_of_row w g 0 _ t h, frozen_of_row w g 1 _ t h, frozen_of_row w g 2 _ t h, frozen_of_row w g 3 _ t h⟩
theorem put4 {X : World} {n : Nat} {t : TypeId} {c0 c1 c2 c3 : Value} (h : X.heap[n]? = some (.cells #[c0, c1, c2, c3] t (0, 0))) (a0 a1 a2 a3 : Value) {G : World}
    (hG : G = (((X.setCell ⟨n, 0, none⟩ a0).setCell ⟨n, 1, none⟩ a1).setCell ⟨n, 2, none⟩ a2).setCell ⟨n, 3, none⟩ a3) :
    G.heap[n]? = some (.cells #[a0, a1, a2, a3] t (0, 0)) ∧ (∀ j, j ≠ n → G.heap[j]? = X.heap[j]?) ∧ G.heap.size = X.heap.size ∧ Below n X G := by
  refine ⟨?_, fun j hj => ?_, ?_, ?_⟩
  · rw [hG]
    exact heap_setCell_same _ n 3 _ t _ (heap_setCell_same _ n 2 _ t _ (heap_setCell_same _ n 1 _ t _ (heap_setCell_same _ n 0 _ t _ h)))
  · rw [hG]
    exact (Below.heap_setCell _ ⟨n, 3, none⟩ a3 j hj).trans ((Below.heap_setCell _ ⟨n, 2, none⟩ a2 j hj).trans ((Below.heap_setCell _ ⟨n, 1, none⟩ a1 j hj).trans (Below.heap_setCell _ ⟨n, 0, none⟩ a0 j hj)))
  · rw [hG]
    exact (set_size _ _ _).trans ((set_size _ _ _).trans ((set_size _ _ _).trans (set_size _ _ _)))
  · rw [hG]
    exact ((((Below.refl n X).setCell (p := ⟨n, 0, none⟩) (Nat.le_refl _) a0).setCell (p := ⟨n, 1, none⟩) (Nat.le_refl _) a1).setCell (p := ⟨n, 2, none⟩) (Nat.le_refl _) a2).setCell (p := ⟨n, 3, none⟩) (Nat.le_refl _) a3
theorem Kept.set (X : World) (g i : Nat) (v : Value) (B : Nat → Prop) (h : ¬ B g) : Kept B X (X.setCell ⟨g, i, none⟩ v) :=
  ⟨by rw [set_size]; exact Nat.le_refl _, fun k hk _ => Below.heap_setCell X ⟨g, i, none⟩ v k (fun e => by have e : k = g := e; subst e; exact h hk)⟩
set_option maxHeartbeats 8000000 in
theorem clone_leaf (x : Nd) (hp : x.p = []) : CloneC x := by
  intro B w q1 q2 hr
  obtain ⟨fit, hrt, hrk⟩ := hr.parts
  have hsh := hrt.short
  obtain ⟨ad1, cap1, rfl, hl1⟩ := hrt.form
  obtain ⟨ad2, cap2, hq2, hl2⟩ := hrk.form
  rw [hp, List.length_nil] at hq2
  subst hq2
  obtain ⟨W, hW⟩ : ∃ W, W = (w.alloc (.cells #[.int .u8 (x.k : Int), S x.s, .slice ad1 x.l.length cap1, .slice ad2 0 cap2] 32)).alloc (.cells #[.int .u8 0, .string ⟨#[]⟩, .slice none 0 0, .slice none 0 0] 32) := ⟨_, rfl⟩
  have hB : Below w.heap.size w W := by rw [hW]; exact ((Below.refl _ w).alloc (Nat.le_refl _) _).alloc (by simp) _
  have hb0 : W.heap[w.heap.size]? = some (.cells #[.int .u8 (x.k : Int), S x.s, .slice ad1 x.l.length cap1, .slice ad2 0 cap2] 32 (0, 0)) := by rw [hW]; exact blk_under (blk_new w _) ((Below.refl _ _).alloc (Nat.le_refl _) _)
  have hb1 : W.heap[w.heap.size + 1]? = some (.cells #[.int .u8 0, .string ⟨#[]⟩, .slice none 0 0, .slice none 0 0] 32 (0, 0)) := by rw [hW]; have := blk_new (w.alloc (.cells #[.int .u8 (x.k : Int), S x.s, .slice ad1 x.l.length cap1, .slice ad2 0 cap2] 32)) (.cells #[.int .u8 0, .string ⟨#[]⟩, .slice none 0 0, .slice none 0 0] 32); simpa using this
  have hc1 := tclone_any W _ x.l (hrt.under hB) fit.l1
  have hkl : ∀ X, Below w.heap.size w X → Calls Tryz.prog 66 #[.slice ad2 0 cap2] X _ := fun X h => kclone_any X (.slice ad2 0 cap2) x.p ((hrk.mono (B' := fun g => g < w.heap.size) fun _ _ h => h).keep (Kept.low h) fun _ h _ => h) fit.p1
  rw [hp] at hkl
  have HW := Lib.hid hW
  have HB := Lib.hid hB
  have HC1 := Lib.hid hc1
  have HKL := Lib.hid hkl
  obtain ⟨c0, c1, c2, c3⟩ := four hb0
  have hlt0 := blk_lt hb0
  have hlt1 := blk_lt hb1
  have HB01 := Lib.hid (And.intro hb0 hb1)
  clear hW hB hc1 hkl hr hrt hrk
  go_enter Tryz.func36, Tryz.ntmps36
  go_upto_region 1 with (fail)
  rw [← HW.out]
  go_wp2_with fail
  refine (HC1.out).mono ?_
  rintro e w2 ⟨v1, rfl, ht1, hbb⟩
  obtain ⟨ad1', cap1', rfl, _⟩ := (ht1.low hsh).form
  have hWs : W.heap.size = w.heap.size + 2 := by rw [HW.out]; simp
  have HWS := Lib.hid hWs
  have hb20 := blk_under HB01.out.1 hbb
  have hb21 := blk_under HB01.out.2 hbb
  have hfr := (free4 hb20).2.2.1
  obtain ⟨X, hX⟩ : ∃ X, X = w2.setCell ⟨w.heap.size, 2, none⟩ (.slice ad1' x.l.length cap1') := ⟨_, rfl⟩
  have hx0 : X.heap[w.heap.size]? = some (.cells #[.int .u8 (x.k : Int), S x.s, .slice ad1' x.l.length cap1', .slice ad2 0 cap2] 32 (0, 0)) := by rw [hX]; exact heap_setCell_same w2 w.heap.size 2 _ 32 (.slice ad1' x.l.length cap1') hb20
  have hx1 : X.heap[w.heap.size + 1]? = some (.cells #[.int .u8 0, .string ⟨#[]⟩, .slice none 0 0, .slice none 0 0] 32 (0, 0)) := by rw [hX]; exact (Below.heap_setCell w2 ⟨w.heap.size, 2, none⟩ (.slice ad1' x.l.length cap1') _ (by show w.heap.size + 1 ≠ w.heap.size; omega)).trans hb21
  have hBX : Below w.heap.size w X := by rw [hX]; exact (HB.out.trans (hbb.mono HB.out.size)).setCell (p := ⟨w.heap.size, 2, none⟩) (Nat.le_refl _) (.slice ad1' x.l.length cap1')
  have hT1 : RepT (fun g => W.heap.size ≤ g) X (.slice ad1' x.l.length cap1') x.l := by rw [hX]; exact (ht1.low hsh).keep (Kept.set _ _ _ _ _ (by show ¬ W.heap.size ≤ w.heap.size; omega)) fun _ h _ => h
  obtain ⟨y0, y1, y2, y3⟩ := four hb20
  have hX2 : W.heap.size ≤ X.heap.size := by rw [hX, set_size]; exact hbb.size
  obtain ⟨z0, z1, z2, z3⟩ := four hx0
  have HXX := Lib.hid hX
  have HX := Lib.hid (And.intro hx0 (And.intro hx1 (And.intro hBX (And.intro hT1 hX2))))
  have HF1 := Lib.hid (show FreeS W.heap.size X (.slice ad1' x.l.length cap1') from (FreeS.of_row ht1).keep (Nat.le_refl _) fun g hg _ => by rw [hX]; exact Below.heap_setCell w2 ⟨w.heap.size, 2, none⟩ _ g (by show g ≠ w.heap.size; omega))
  clear hX hx0 hx1 hBX hT1 hX2 hb20 hb21 hbb ht1 c0 c1 c2 c3
  go_upto_region 2 with (fail)
  rw [← HXX.out]
  clear y0 y1 y2 y3
  go_wp2_with fail
  refine (HKL.out X HX.out.2.2.1).mono ?_
  rintro e w3 ⟨v2, rfl, ⟨es, hes, _, hrow⟩, hbb⟩
  obtain rfl : es = [] := by simpa using hes
  obtain ⟨g2, cap3, rfl, hcap3⟩ : ∃ g2 cap3, v2 = .slice g2 0 cap3 ∧ cap3 ≤ 9223372036854775807 := by
    rcases hrow.2 with ⟨hv, _⟩ | ⟨g, cap, cur, hv, _, _, _, h2, _⟩
    · exact ⟨none, 0, hv, by omega⟩
    · exact ⟨_, cap, hv, by simp only [maxLen] at h2; omega⟩
  have hb20 := blk_under HX.out.1 hbb
  have hb21 := blk_under HX.out.2.1 hbb
  have hfr3 := (free4 hb20).2.2.2
  obtain ⟨Y, hY⟩ : ∃ Y, Y = w3.setCell ⟨w.heap.size, 3, none⟩ (.slice g2 0 cap3) := ⟨_, rfl⟩
  have hx0 : Y.heap[w.heap.size]? = some (.cells #[.int .u8 (x.k : Int), S x.s, .slice ad1' x.l.length cap1', .slice g2 0 cap3] 32 (0, 0)) := by rw [hY]; exact heap_setCell_same w3 w.heap.size 3 _ 32 _ hb20
  have hx1 : Y.heap[w.heap.size + 1]? = some (.cells #[.int .u8 0, .string ⟨#[]⟩, .slice none 0 0, .slice none 0 0] 32 (0, 0)) := by rw [hY]; exact (Below.heap_setCell w3 ⟨w.heap.size, 3, none⟩ _ _ (by show w.heap.size + 1 ≠ w.heap.size; omega)).trans hb21
  have hBY : Below w.heap.size w Y := by rw [hY]; exact (HX.out.2.2.1.trans (hbb.mono HX.out.2.2.1.size)).setCell (p := ⟨w.heap.size, 3, none⟩) (Nat.le_refl _) _
  have hT1 : RepT (fun g => W.heap.size ≤ g) Y (.slice ad1' x.l.length cap1') x.l := by rw [hY]; exact (HX.out.2.2.2.1.under hbb).keep (Kept.set _ _ _ _ _ (by show ¬ W.heap.size ≤ w.heap.size; omega)) fun _ h _ => h
  obtain ⟨y0, y1, y2, y3⟩ := four hb20
  obtain ⟨u0, u1, u2, u3⟩ := four hx0
  obtain ⟨v0, v1', v2', v3'⟩ := four hx1
  obtain ⟨f0, f1, f2, f3⟩ := free4 hx1
  have hl0 := blk_lt hx0
  have hl1 := blk_lt hx1
  have HYY := Lib.hid hY
  have hXw : w.heap.size + 2 ≤ X.heap.size := by rw [← HWS.out]; exact HX.out.2.2.2.2
  have hset : ∀ g, w.heap.size + 2 ≤ g → Y.heap[g]? = w3.heap[g]? := fun g hg => by rw [hY]; exact Below.heap_setCell w3 ⟨w.heap.size, 3, none⟩ _ g (by show g ≠ w.heap.size; omega)
  have HF3 := Lib.hid (show FreeS (w.heap.size + 2) Y (.slice ad1' x.l.length cap1') ∧ FreeS (w.heap.size + 2) Y (.slice g2 0 cap3) from
    ⟨HF1.out.keep (by rw [HWS.out]; exact Nat.le_refl _) fun g hg hl => (hset g (by rw [← HWS.out]; exact hg)).trans (hbb.block g hl), (FreeS.of_row hrow).keep hXw fun g hg _ => hset g (by omega)⟩)
  have HY := Lib.hid (And.intro hx0 (And.intro hx1 (And.intro hBY hT1)))
  clear hY hset hXw hx0 hx1 hBY hT1 hb20 hb21 hbb hrow z0 z1 z2 z3
  go_upto_region 3 with (fail)
  rw [← HYY.out]
  clear y0 y1 y2 y3
  go_wp2
  go_loopw [3, 15] (fun _ i wr => i = .int .i64 0 ∧ wr = Y) (fun _ _ _ => 0)
  case atStart => exact ⟨rfl, rfl⟩
  case round =>
    obtain ⟨rfl, hwY⟩ := hrel
    subst wr
    go_wp2
    obtain ⟨G, hG⟩ : ∃ G, G = (((Y.setCell ⟨w.heap.size + 1, 0, none⟩ (.int .u8 (x.k : Int))).setCell ⟨w.heap.size + 1, 1, none⟩ (S x.s)).setCell ⟨w.heap.size + 1, 2, none⟩ (.slice ad1' x.l.length cap1')).setCell ⟨w.heap.size + 1, 3, none⟩ (.slice g2 0 cap3) := ⟨_, rfl⟩
    rw [← hG]
    obtain ⟨g1, go, gs, gb⟩ := put4 HY.out.2.1 _ _ _ _ hG
    obtain ⟨r0, r1, r2, r3⟩ := four g1
    refine bodyPost_ret (v := .agg (nv x (.slice ad1' x.l.length cap1') (.slice g2 0 cap3))) (by simp [results, Tryz.results36, go_sem, r0, r1, r2, r3]) rfl ?_
    refine ⟨HY.out.2.2.1.trans (gb.mono (by omega)), _, _, rfl, Rep.of fit ?_ ?_, HF3.out.1.keep (by omega) fun g hg _ => go g (by omega), HF3.out.2.keep (by omega) fun g hg _ => go g (by omega)⟩
    · exact (HY.out.2.2.2.mono (B' := fun g => w.heap.size + 2 ≤ g) fun g h _ => by rw [← HWS.out]; exact h).keep (w' := G) ⟨by omega, fun g hg _ => go g (by have : w.heap.size + 2 ≤ g := hg; omega)⟩ fun g h _ => by have : w.heap.size + 2 ≤ g := h; omega
    · rw [hp]
      exact ⟨0, 0, fun _ => .nilIface, fun _ => .nilIface, ⟨g2, cap3, rfl, ⟨Nat.zero_le _, hcap3⟩, fun h => absurd h (by simp)⟩, fun i y h => by simp at h⟩
end Go.Proofs.YtegobomfhdfodaaGreatDoor
