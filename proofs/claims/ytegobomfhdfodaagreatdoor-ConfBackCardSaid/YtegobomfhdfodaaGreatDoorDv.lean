/- CONF: THE WALK OVER clone, of any node. -/
import Derived.Test.YtegobomfhdfodaaGreatDoorDq
namespace Go.Proofs.YtegobomfhdfodaaGreatDoor
open Go.RowKit
set_option maxRecDepth 100000
set_option linter.unusedVariables false
set_option linter.unusedSimpArgs false

abbrev zero4' : Array Value := #[.int .u8 0, .string ⟨#[]⟩, .slice none 0 0, .slice none 0 0]
theorem kcs_len (l : List KE) : (l.flatMap kcs).length = l.length * 5 := by
  induction l with
  | nil => rfl
  | cons y r ih => rw [List.flatMap_cons, List.length_append, ih, List.length_cons]; simp [kcs]; omega
theorem kcs_at (l : List KE) (k : Nat) (e : KE) (h : l[k]? = some e) (r : Nat) (hr : r < 5) : (l.flatMap kcs)[k * 5 + r]? = (kcs e)[r]? := by
  obtain ⟨hk, he⟩ := List.getElem?_eq_some_iff.1 h
  have hs : l = l.take k ++ e :: l.drop (k + 1) := by rw [← he, ← List.drop_eq_getElem_cons hk, List.take_append_drop]
  have hl : ((l.take k).flatMap kcs).length = k * 5 := by rw [kcs_len, List.length_take]; omega
  rw [hs, List.flatMap_append, List.flatMap_cons, List.getElem?_append_right (by rw [hl]; omega), hl, show k * 5 + r - k * 5 = r from by omega, List.getElem?_append_left (by simpa [kcs] using hr)]
theorem kcs_set (l : List KE) (k : Nat) (e : KE) (h : l[k]? = some e) (r1 r2 : Value) :
    ((((l.flatMap kcs).set (k * 5 + 1) (.int .u8 (e.2.1.k : Int))).set (k * 5 + 1 + 1) (S e.2.1.s)).set (k * 5 + 1 + 2) r1).set (k * 5 + 1 + 3) r2 = (l.set k (e.1, e.2.1, r1, r2)).flatMap kcs := by
  obtain ⟨hk, he⟩ := List.getElem?_eq_some_iff.1 h
  have hs : l = l.take k ++ e :: l.drop (k + 1) := by rw [← he, ← List.drop_eq_getElem_cons hk, List.take_append_drop]
  have hl : ((l.take k).flatMap kcs).length = k * 5 := by rw [kcs_len, List.length_take]; omega
  have hl2 : (l.take k).length = k := by rw [List.length_take]; omega
  obtain ⟨A, hA⟩ : ∃ A, l.take k = A := ⟨_, rfl⟩
  obtain ⟨C, hC⟩ : ∃ C, l.drop (k + 1) = C := ⟨_, rfl⟩
  rw [hA, hC] at hs
  rw [hA] at hl hl2
  subst hs
  rw [List.set_append_right (s := A) k _ (by omega), hl2, Nat.sub_self, List.set_cons_zero, List.flatMap_append, List.flatMap_append, List.flatMap_cons, List.flatMap_cons]
  obtain ⟨A', hA'⟩ : ∃ A', A.flatMap kcs = A' := ⟨_, rfl⟩
  obtain ⟨C', hC'⟩ : ∃ C', C.flatMap kcs = C' := ⟨_, rfl⟩
  rw [hA'] at hl ⊢
  rw [hC', ← hl]
  rw [List.set_append_right (s := A') (A'.length + 1) _ (by omega), List.set_append_right (s := A') (A'.length + 1 + 1) _ (by omega), List.set_append_right (s := A') (A'.length + 1 + 2) _ (by omega), List.set_append_right (s := A') (A'.length + 1 + 3) _ (by omega)]
  rw [show A'.length + 1 - A'.length = 1 from by omega, show A'.length + 1 + 1 - A'.length = 2 from by omega, show A'.length + 1 + 2 - A'.length = 3 from by omega, show A'.length + 1 + 3 - A'.length = 4 from by omega]
  rfl
/-- clone's loop behind k keys -/
structure CL (w : World) (lo gv n cap k : Nat) (x : Nd) (q1 : Value) (es : List KE) (V : World) : Prop where
  b0 : V.heap[w.heap.size]? = some (.cells #[.int .u8 (x.k : Int), S x.s, q1, .slice (some ⟨gv, 0, none⟩) n cap] 32 (0, 0))
  b1 : V.heap[w.heap.size + 1]? = some (.cells zero4' 32 (0, 0))
  bel : Below w.heap.size w V
  gvl : w.heap.size + 2 ≤ gv
  tx : RepT (fun g => w.heap.size + 2 ≤ g ∧ g ≠ gv) V q1 x.l
  fx : FreeS (w.heap.size + 2) V q1 ∧ ∀ a n c, q1 = .slice (some a) n c → a.block ≠ gv
  row : V.ownsRow lo 44 5 (.slice (some ⟨gv, 0, none⟩) n cap) n (es.flatMap kcs)
  map : es.map (fun e => (e.1, e.2.1)) = x.p
  done : ∀ (j : Nat) e, es[j]? = some e → j < k → Rep (fun g => gv < g) V e.2.2.1 e.2.2.2 e.2.1
  rest : ∀ (j : Nat) e, es[j]? = some e → k ≤ j → Rep (fun g => g < w.heap.size) V e.2.2.1 e.2.2.2 e.2.1
theorem CL.put {w V w2 G : World} {lo gv n cap k : Nat} {x nd : Nd} {q1 p1 p2 r1 r2 : Value} {key : K.T} {es : List KE} (h : CL w lo gv n cap k x q1 es V) (hk : es[k]? = some (key, nd, p1, p2)) (hb : Below V.heap.size V w2) (hr : Rep (fun g => V.heap.size ≤ g) w2 r1 r2 nd)
    (hG : G = (((w2.setCell ⟨gv, k * 5 + 1, none⟩ (.int .u8 (nd.k : Int))).setCell ⟨gv, k * 5 + 1 + 1, none⟩ (S nd.s)).setCell ⟨gv, k * 5 + 1 + 2, none⟩ r1).setCell ⟨gv, k * 5 + 1 + 3, none⟩ r2) : CL w lo gv n cap (k + 1) x q1 (es.set k (key, nd, r1, r2)) G := by
  have hgl := (World.ownsRow.lt h.row gv rfl).2
  have hrow2 := World.ownsRow.kept h.row (below_grown hb none) (.inr (fun e => nomatch e))
  have s1 := World.ownsRow.stored hrow2 (k * 5 + 1) (.int .u8 (nd.k : Int))
  have s2 := World.ownsRow.stored s1.1 (k * 5 + 1 + 1) (S nd.s)
  have s3 := World.ownsRow.stored s2.1 (k * 5 + 1 + 2) r1
  have s4 := World.ownsRow.stored s3.1 (k * 5 + 1 + 3) r2
  have hgr := ((s1.2.trans s2.2).trans s3.2).trans s4.2
  have hrow := s4.1
  rw [← hG] at hgr hrow
  have hset := kcs_set es k (key, nd, p1, p2) hk r1 r2
  simp only at hset
  rw [hset] at hrow
  have hgsz := hgr.size
  have hbsz := hb.size
  have hother : ∀ g, g < w2.heap.size → g ≠ gv → G.heap[g]? = w2.heap[g]? := fun g hg hne => hgr.block g hg (fun e => hne (Option.some.inj e))
  have hbG : Below w.heap.size w G := by
    rw [hG]
    exact ((((h.bel.trans (hb.mono h.bel.size)).setCell (p := ⟨gv, k * 5 + 1, none⟩) (by show w.heap.size ≤ gv; have := h.gvl; omega) _).setCell (p := ⟨gv, k * 5 + 1 + 1, none⟩) (by show w.heap.size ≤ gv; have := h.gvl; omega) _).setCell (p := ⟨gv, k * 5 + 1 + 2, none⟩) (by show w.heap.size ≤ gv; have := h.gvl; omega) _).setCell (p := ⟨gv, k * 5 + 1 + 3, none⟩) (by show w.heap.size ≤ gv; have := h.gvl; omega) _
  have hl0 := blk_lt h.b0
  have hl1 := blk_lt h.b1
  have hgvl := h.gvl
  have hel : es.length = (es.set k (key, nd, r1, r2)).length := by rw [List.length_set]
  refine ⟨(hother _ (by omega) (by omega)).trans (blk_under h.b0 hb), (hother _ (by omega) (by omega)).trans (blk_under h.b1 hb), hbG, h.gvl, (h.tx.under hb).keep ⟨by omega, fun g hg hl => hother g hl hg.2⟩ fun _ h _ => h, ⟨fun a n c e => ?_, h.fx.2⟩, hrow, ?_, ?_, ?_⟩
  · obtain ⟨f1, cs, t, f2⟩ := h.fx.1 a n c e
    have f3 := blk_under f2 hb
    exact ⟨f1, cs, t, (hother _ (blk_lt f3) (h.fx.2 a n c e)).trans f3⟩
  · rw [← h.map]
    apply List.ext_getElem?
    intro j
    rw [List.getElem?_map, List.getElem?_map, List.getElem?_set]
    by_cases hjk : k = j
    · subst hjk
      rw [if_pos rfl, if_pos (lt_of_get hk), hk]
      rfl
    · rw [if_neg hjk]
  · intro j e he hj
    rw [List.getElem?_set] at he
    by_cases hjk : k = j
    · subst hjk
      rw [if_pos rfl, if_pos (lt_of_get hk)] at he
      have he := Option.some.inj he
      subst he
      exact (hr.mono (B' := fun g => gv < g) fun g hg _ => Nat.lt_of_lt_of_le hgl hg).keep (w' := G) ⟨by omega, fun g hg hl => hother g hl (by have : gv < g := hg; omega)⟩ fun _ h _ => h
    · rw [if_neg hjk] at he
      exact ((h.done j e he (by omega)).under hb).keep (w' := G) ⟨by omega, fun g hg hl => hother g hl (by have : gv < g := hg; omega)⟩ fun _ h _ => h
  · intro j e he hj
    rw [List.getElem?_set, if_neg (by omega)] at he
    exact ((h.rest j e he (by omega)).under hb).keep (w' := G) ⟨by omega, fun g hg hl => hother g hl (by have : g < w.heap.size := hg; omega)⟩ fun _ h _ => h
/-- the row that is left is the keys -/
theorem CL.keys {w V G : World} {lo gv n cap : Nat} {x : Nd} {q1 : Value} {es : List KE} (h : CL w lo gv n cap n x q1 es V) (hn : es.length = n) (hc : n ≤ cap ∧ cap ≤ 9223372036854775807) (hs : ∀ y ∈ x.p, y.1.length ≤ 140737488353000) (hG : ∀ j, j ≠ w.heap.size + 1 → G.heap[j]? = V.heap[j]?) (hz : V.heap.size ≤ G.heap.size) : RepK (fun g => w.heap.size ≤ g) G (.slice (some ⟨gv, 0, none⟩) n cap) x.p := by
  have hgl := (World.ownsRow.lt h.row gv rfl).2
  have hgvl := h.gvl
  have hpl : x.p.length = n := by rw [← h.map, List.length_map, hn]
  refine ⟨gv, 0, fun i => match es[i]? with | some e => e.2.2.1 | none => .nilIface, fun i => match es[i]? with | some e => e.2.2.2 | none => .nilIface, ⟨_, cap, by rw [hpl], by rw [hpl]; exact hc, fun _ => ⟨rfl, by omega, by omega⟩⟩, fun i y hy => ?_⟩
  have hy2 := hy
  rw [← h.map, List.getElem?_map] at hy2
  obtain ⟨e, he⟩ : ∃ e, es[i]? = some e := by
    cases he : es[i]? with
    | none => rw [he] at hy2; cases hy2
    | some e => exact ⟨e, rfl⟩
  rw [he] at hy2
  have hy2 := Option.some.inj hy2
  subst hy2
  simp only [he]
  have hcell : ∀ r u, r < 5 → (kcs e)[r]? = some u → G.cell? ⟨gv, 0 + i * 5 + r, none⟩ = some u := fun r u hr hu => by
    have := World.ownsRow.cells h.row (g := gv) rfl (i * 5 + r) u (by rw [kcs_at es i e he r hr]; exact hu)
    rw [Nat.zero_add]
    refine (cell_block (hG gv (by omega)) _).trans ?_
    rwa [show (⟨gv, 0, none⟩ : Addr).add (i * 5 + r) = ⟨gv, i * 5 + r, none⟩ by unfold Addr.add; split <;> simp_all] at this
  refine ⟨⟨hcell 0 _ (by omega) rfl, hcell 1 _ (by omega) rfl, hcell 2 _ (by omega) rfl, hcell 3 _ (by omega) rfl, hcell 4 _ (by omega) rfl⟩, hs _ (List.mem_of_getElem? hy), ?_⟩
  exact (h.done i e he (by rw [← hn]; exact lt_of_get he)).keep (w' := G) ⟨hz, fun g hg _ => hG g (by have : gv < g := hg; omega)⟩ fun g hg _ => by have : gv < g := hg; omega
set_option maxHeartbeats 8000000 in
theorem clone_step (x : Nd) (hp : x.p ≠ []) (ih : ∀ y ∈ x.p, CloneC y.2) : CloneC x := by
  intro B w q1 q2 hr
  obtain ⟨fit, hrt, hrk⟩ := hr.parts
  have hsh := hrt.short
  have HKS := Lib.hid (show ∀ y ∈ x.p, y.1.length ≤ 140737488353000 from fun y hy => by
    obtain ⟨i, hi⟩ := List.getElem?_of_mem hy
    obtain ⟨g, o, c, d, _, h4⟩ := hrk
    exact (h4 i y hi).2.1)
  obtain ⟨ad1, cap1, rfl, hl1⟩ := hrt.form
  obtain ⟨ad2, cap2, rfl, hl2⟩ := hrk.form
  obtain ⟨n, hn⟩ : ∃ n, x.p.length = n := ⟨_, rfl⟩
  rw [hn] at hl2 hrk
  have hn1 : 1 ≤ n := by rw [← hn]; exact List.length_pos_iff.2 hp
  obtain ⟨W, hW⟩ : ∃ W, W = (w.alloc (.cells #[.int .u8 (x.k : Int), S x.s, .slice ad1 x.l.length cap1, .slice ad2 n cap2] 32)).alloc (.cells #[.int .u8 0, .string ⟨#[]⟩, .slice none 0 0, .slice none 0 0] 32) := ⟨_, rfl⟩
  have hB : Below w.heap.size w W := by rw [hW]; exact ((Below.refl _ w).alloc (Nat.le_refl _) _).alloc (by simp) _
  have hb0 : W.heap[w.heap.size]? = some (.cells #[.int .u8 (x.k : Int), S x.s, .slice ad1 x.l.length cap1, .slice ad2 n cap2] 32 (0, 0)) := by rw [hW]; exact blk_under (blk_new w _) ((Below.refl _ _).alloc (Nat.le_refl _) _)
  have hb1 : W.heap[w.heap.size + 1]? = some (.cells #[.int .u8 0, .string ⟨#[]⟩, .slice none 0 0, .slice none 0 0] 32 (0, 0)) := by rw [hW]; have := blk_new (w.alloc (.cells #[.int .u8 (x.k : Int), S x.s, .slice ad1 x.l.length cap1, .slice ad2 n cap2] 32)) (.cells #[.int .u8 0, .string ⟨#[]⟩, .slice none 0 0, .slice none 0 0] 32); simpa using this
  have hc1 := tclone_any W _ x.l (hrt.under hB) fit.l1
  have hkl : ∀ X, Below w.heap.size w X → Calls Tryz.prog 66 #[.slice ad2 n cap2] X _ := fun X h => kclone_any X (.slice ad2 n cap2) x.p ((hrk.mono (B' := fun g => g < w.heap.size) fun _ _ h => h).keep (Kept.low h) fun _ h _ => h) fit.p1
  simp only [hn] at hkl
  rw [hn]
  have HHN := Lib.hid hn
  clear hn
  have HW := Lib.hid hW
  have HB := Lib.hid hB
  have HC1 := Lib.hid hc1
  have HKL := Lib.hid hkl
  obtain ⟨c0, c1, c2, c3⟩ := four hb0
  have hlt0 := blk_lt hb0
  have hlt1 := blk_lt hb1
  have HB01 := Lib.hid (And.intro hb0 hb1)
  clear hW hB hc1 hkl hr hrt hrk
  go_enter Tryz.func36, Tryz.ntmps36
  go_upto_region 1 with (fail)
  rw [← HW.out]
  go_wp2_with fail
  refine (HC1.out).mono ?_
  rintro e w2 ⟨v1, rfl, ht1, hbb⟩
  obtain ⟨ad1', cap1', rfl, _⟩ := (ht1.low hsh).form
  have hWs : W.heap.size = w.heap.size + 2 := by rw [HW.out]; simp
  have HWS := Lib.hid hWs
  have hb20 := blk_under HB01.out.1 hbb
  have hb21 := blk_under HB01.out.2 hbb
  have hfr := (free4 hb20).2.2.1
  obtain ⟨X, hX⟩ : ∃ X, X = w2.setCell ⟨w.heap.size, 2, none⟩ (.slice ad1' x.l.length cap1') := ⟨_, rfl⟩
  have hx0 : X.heap[w.heap.size]? = some (.cells #[.int .u8 (x.k : Int), S x.s, .slice ad1' x.l.length cap1', .slice ad2 n cap2] 32 (0, 0)) := by rw [hX]; exact heap_setCell_same w2 w.heap.size 2 _ 32 (.slice ad1' x.l.length cap1') hb20
  have hx1 : X.heap[w.heap.size + 1]? = some (.cells #[.int .u8 0, .string ⟨#[]⟩, .slice none 0 0, .slice none 0 0] 32 (0, 0)) := by rw [hX]; exact (Below.heap_setCell w2 ⟨w.heap.size, 2, none⟩ (.slice ad1' x.l.length cap1') _ (by show w.heap.size + 1 ≠ w.heap.size; omega)).trans hb21
  have hBX : Below w.heap.size w X := by rw [hX]; exact (HB.out.trans (hbb.mono HB.out.size)).setCell (p := ⟨w.heap.size, 2, none⟩) (Nat.le_refl _) (.slice ad1' x.l.length cap1')
  have hT1 : RepT (fun g => W.heap.size ≤ g) X (.slice ad1' x.l.length cap1') x.l := by rw [hX]; exact (ht1.low hsh).keep (Kept.set _ _ _ _ _ (by show ¬ W.heap.size ≤ w.heap.size; omega)) fun _ h _ => h
  obtain ⟨y0, y1, y2, y3⟩ := four hb20
  have hX2 : W.heap.size ≤ X.heap.size := by rw [hX, set_size]; exact hbb.size
  obtain ⟨z0, z1, z2, z3⟩ := four hx0
  have HXX := Lib.hid hX
  have HX := Lib.hid (And.intro hx0 (And.intro hx1 (And.intro hBX (And.intro hT1 hX2))))
  have HF1 := Lib.hid (show FreeS W.heap.size X (.slice ad1' x.l.length cap1') from (FreeS.of_row ht1).keep (Nat.le_refl _) fun g hg _ => by rw [hX]; exact Below.heap_setCell w2 ⟨w.heap.size, 2, none⟩ _ g (by show g ≠ w.heap.size; omega))
  clear hX hx0 hx1 hBX hT1 hX2 hb20 hb21 hbb ht1 c0 c1 c2 c3
  go_upto_region 2 with (fail)
  rw [← HXX.out]
  clear y0 y1 y2 y3
  go_wp2_with fail
  refine (HKL.out X HX.out.2.2.1).mono ?_
  rintro e w3 ⟨v2, rfl, ⟨es, hes, hre, hrow⟩, hbb⟩
  obtain ⟨gv, cap3, rfl, hgv, hcap, hcap4⟩ : ∃ gv cap3, v2 = .slice (some ⟨gv, 0, none⟩) n cap3 ∧ X.heap.size ≤ gv ∧ n ≤ cap3 ∧ cap3 ≤ 9223372036854775807 := by
    rcases hrow.2 with ⟨_, hz⟩ | ⟨g, cap, cur, hv, hg, _, h1, h2, _⟩
    · omega
    · exact ⟨g, cap, hv, hg, h1, by simp only [maxLen] at h2; omega⟩
  have hb20 := blk_under HX.out.1 hbb
  have hb21 := blk_under HX.out.2.1 hbb
  have hfr3 := (free4 hb20).2.2.2
  have hXw : w.heap.size + 2 ≤ X.heap.size := by rw [← HWS.out]; exact HX.out.2.2.2.2
  obtain ⟨Y, hY⟩ : ∃ Y, Y = w3.setCell ⟨w.heap.size, 3, none⟩ (.slice (some ⟨gv, 0, none⟩) n cap3) := ⟨_, rfl⟩
  have hx0 : Y.heap[w.heap.size]? = some (.cells #[.int .u8 (x.k : Int), S x.s, .slice ad1' x.l.length cap1', .slice (some ⟨gv, 0, none⟩) n cap3] 32 (0, 0)) := by rw [hY]; exact heap_setCell_same w3 w.heap.size 3 _ 32 _ hb20
  have hx1 : Y.heap[w.heap.size + 1]? = some (.cells #[.int .u8 0, .string ⟨#[]⟩, .slice none 0 0, .slice none 0 0] 32 (0, 0)) := by rw [hY]; exact (Below.heap_setCell w3 ⟨w.heap.size, 3, none⟩ _ _ (by show w.heap.size + 1 ≠ w.heap.size; omega)).trans hb21
  have hBY : Below w.heap.size w Y := by rw [hY]; exact (HX.out.2.2.1.trans (hbb.mono HX.out.2.2.1.size)).setCell (p := ⟨w.heap.size, 3, none⟩) (Nat.le_refl _) _
  have hT1 : RepT (fun g => w.heap.size + 2 ≤ g ∧ g ≠ gv) Y (.slice ad1' x.l.length cap1') x.l := by
    rw [hY]
    refine ((HX.out.2.2.2.1.mono (B' := fun g => w.heap.size + 2 ≤ g ∧ g ≠ gv) fun g h hl => ⟨by rw [← HWS.out]; exact h, by omega⟩).under hbb).keep (Kept.set _ _ _ _ _ (by rintro ⟨h, _⟩; omega)) fun _ h _ => h
  have hR1 : Y.ownsRow X.heap.size 44 5 (.slice (some ⟨gv, 0, none⟩) n cap3) n (es.flatMap kcs) := by
    rw [hY]
    exact World.ownsRow.kept hrow (set_grown1 w3 w.heap.size 3 _) (.inr (fun e => by have : gv = w.heap.size := Option.some.inj e; omega))
  have hbel3 : Below w.heap.size w Y := hBY
  have hXY : Below w.heap.size X Y := by rw [hY]; exact (hbb.mono HX.out.2.2.1.size).setCell (p := ⟨w.heap.size, 3, none⟩) (Nat.le_refl _) _
  have hes2 : ∀ e ∈ es, Rep (fun g => g < w.heap.size) Y e.2.2.1 e.2.2.2 e.2.1 := fun e he => (hre e he).keep (Kept.low hXY) fun _ h _ => h
  obtain ⟨y0, y1, y2, y3⟩ := four hb20
  have hl0 := blk_lt hx0
  have hl1 := blk_lt hx1
  have HYY := Lib.hid hY
  have HGVL := Lib.hid (show w.heap.size + 2 ≤ X.heap.size from hXw)
  have HF3 := Lib.hid (show FreeS (w.heap.size + 2) Y (.slice ad1' x.l.length cap1') ∧ ∀ a n c, Value.slice ad1' x.l.length cap1' = .slice (some a) n c → a.block ≠ gv from by
    refine ⟨HF1.out.keep (by rw [HWS.out]; exact Nat.le_refl _) fun g hg hl => ?_, fun a n c e => ?_⟩
    · have hWS := HWS.out
      rw [hY]
      exact (Below.heap_setCell w3 ⟨w.heap.size, 3, none⟩ _ g (by show g ≠ w.heap.size; omega)).trans (hbb.block g hl)
    · obtain ⟨_, cs, t, h2⟩ := HF1.out a n c e
      have := blk_lt h2
      omega)
  have HY := Lib.hid (And.intro hx0 (And.intro hx1 (And.intro hBY (And.intro hT1 hR1))))
  have HES := Lib.hid (And.intro hes hes2)
  obtain ⟨u0, u1, u2, u3⟩ := four hx0
  clear hY hx0 hx1 hBY hT1 hR1 hb20 hb21 hbb hrow z0 z1 z2 z3 hes hes2 hre hbel3 hXY
  go_upto_region 3 with (fail)
  rw [← HYY.out]
  clear y0 y1 y2 y3
  go_wp2
  go_loopw [3, 15] (fun _ i wr => ∃ (k : Nat) (es : List KE), i = .int .i64 (k : Int) ∧ k ≤ n ∧ CL w X.heap.size gv n cap3 k x (.slice ad1' x.l.length cap1') es wr) (fun _ i _ => n - (intOf i).toNat)
  case atStart => exact ⟨0, es, rfl, Nat.zero_le _, HY.out.1, HY.out.2.1, HY.out.2.2.1, by omega, HY.out.2.2.2.1, HF3.out, HY.out.2.2.2.2, HES.out.1, fun j e _ h => by omega, fun j e h _ => HES.out.2 e (List.mem_of_getElem? h)⟩
  case round =>
    obtain ⟨k, es, rfl, hk, hcl0⟩ := hrel
    have HL := Lib.hid hcl0
    obtain ⟨u0, u1, u2, u3⟩ := four hcl0.b0
    have hl0 := blk_lt hcl0.b0
    have hl1 := blk_lt hcl0.b1
    have hsz := hcl0.bel.size
    have hnl : es.length = n := by rw [← HHN.out, ← hcl0.map, List.length_map]
    obtain ⟨cur, hgvb⟩ : ∃ cur, wr.heap[gv]? = some (.cells cur 44 (0, 0)) := by
      rcases hcl0.row.2 with ⟨hv, _⟩ | ⟨g, cap, cur, hv, _, hg, _⟩
      · cases hv
      · injection hv with h1 h2 h3
        have e : gv = g := congrArg Addr.block (Option.some.inj h1)
        rw [e]
        exact ⟨cur, hg⟩
    have hfz := fun j => frozen_of_row wr gv j cur 44 hgvb
    have hgvl := blk_lt hgvb
    by_cases hlt : k < n
    · obtain ⟨e, he⟩ := get_at (l := es) (k := k) (by omega)
      have hcell : ∀ r u, r < 5 → (kcs e)[r]? = some u → wr.cell? ⟨gv, k * 5 + r, none⟩ = some u := fun r u hr hu => by
        have := World.ownsRow.cells hcl0.row (g := gv) rfl (k * 5 + r) u (by rw [kcs_at es k e he r hr]; exact hu)
        rwa [show (⟨gv, 0, none⟩ : Addr).add (k * 5 + r) = ⟨gv, k * 5 + r, none⟩ by unfold Addr.add; split <;> simp_all] at this
      have hre := hcl0.rest k e he (Nat.le_refl _)
      have hmem : (e.1, e.2.1) ∈ x.p := by rw [← hcl0.map]; exact List.mem_map.2 ⟨e, List.mem_of_getElem? he, rfl⟩
      have hcl := ih _ hmem _ wr.drew e.2.2.1 e.2.2.2 (hre.under ((Below.refl _ wr).drew))
      obtain ⟨key, nd, p1, p2⟩ := e
      simp only at hcell hre hcl
      obtain ⟨ae, ce, rfl, _⟩ := hre.parts.2.1.form
      obtain ⟨be, de, rfl, _⟩ := hre.parts.2.2.form
      have a1 := hcell 1 _ (by omega) rfl
      have a2 := hcell 2 _ (by omega) rfl
      have a3 := hcell 3 _ (by omega) rfl
      have a4 := hcell 4 _ (by omega) rfl
      have hkn : (k : Int) < (n : Int) := by omega
      have hk0 : (0 : Int) ≤ (k : Int) := by omega
      have hkc : (k : Int) ≤ (cap3 : Int) := by omega
      have HA14 := Lib.hid (show wr.cell? ⟨gv, k * 5 + 1, none⟩ = some (.int .u8 (nd.k : Int)) ∧ wr.cell? ⟨gv, k * 5 + 1 + 1, none⟩ = some (S nd.s) ∧ wr.cell? ⟨gv, k * 5 + 1 + 2, none⟩ = some (.slice ae nd.l.length ce) ∧ wr.cell? ⟨gv, k * 5 + 1 + 3, none⟩ = some (.slice be nd.p.length de) from ⟨a1, a2, a3, a4⟩)
      have HCL := Lib.hid hcl
      have HE := Lib.hid he
      have HGB := Lib.hid hgvb
      clear he hgvb hcell hre hmem hcl hcl0
      go_upto_region 6 with (fail)
      go_region_law (first | (go_simp; go_at_call 36; refine (HCL.out).mono ?_; rintro e' w2 ⟨hb2, r1, r2, rfl, hrr, _⟩; obtain ⟨f1, g1, rfl, _⟩ := hrr.parts.2.1.form; obtain ⟨f2, g2, rfl, _⟩ := hrr.parts.2.2.form; have hbD : Below wr.heap.size wr w2 := ((Below.refl _ wr).drew).trans hb2; have u3' := (four (blk_under HL.out.b0 hbD)).2.2.2; have hfz' := fun j => frozen_of_row w2 gv j cur 44 (blk_under HGB.out hbD); have m1 : w2.cell? ⟨gv, k * 5 + 1, none⟩ = some (.int .u8 (nd.k : Int)) := (cell_block (hbD.block gv hgvl) _).trans HA14.out.1; have m2 : w2.cell? ⟨gv, k * 5 + 1 + 1, none⟩ = some (S nd.s) := (cell_block (hbD.block gv hgvl) _).trans HA14.out.2.1; have m3 : w2.cell? ⟨gv, k * 5 + 1 + 2, none⟩ = some (.slice ae nd.l.length ce) := (cell_block (hbD.block gv hgvl) _).trans HA14.out.2.2.1; have m4 : w2.cell? ⟨gv, k * 5 + 1 + 3, none⟩ = some (.slice be nd.p.length de) := (cell_block (hbD.block gv hgvl) _).trans HA14.out.2.2.2; have y1 := hfz' (k * 5 + 1); have y2 := hfz' (k * 5 + 1 + 1); have y3 := hfz' (k * 5 + 1 + 2); have y4 := hfz' (k * 5 + 1 + 3); have hgvl2 := blk_lt (blk_under HGB.out hbD); have HRR := Lib.hid hrr; have HBD := Lib.hid hbD; clear hrr hb2 hbD) | (go_simp; done))
      all_goals
        obtain ⟨G, hG⟩ : ∃ G, G = (((w2.setCell ⟨gv, k * 5 + 1, none⟩ (.int .u8 (nd.k : Int))).setCell ⟨gv, k * 5 + 1 + 1, none⟩ (S nd.s)).setCell ⟨gv, k * 5 + 1 + 2, none⟩ (.slice f1 nd.l.length g1)).setCell ⟨gv, k * 5 + 1 + 3, none⟩ (.slice f2 nd.p.length g2) := ⟨_, rfl⟩
        rw [← hG]
        have HCG := Lib.hid (CL.put HL.out HE.out HBD.out (HRR.out.mono fun _ h _ => h) hG)
        clear hG m1 m2 m3 m4 y1 y2 y3 y4 u3' hfz' a1 a2 a3 a4
        go_wp2
        go_roundw
        case rel => exact ⟨k + 1, _, by go_num, by omega, HCG.out⟩
        case measure => simp [intOf]; omega
    · have hkn : ¬ (k : Int) < (n : Int) := by omega
      obtain rfl : k = n := by omega
      obtain ⟨h0, h1, h2, h3⟩ := free4 hcl0.b1
      obtain ⟨v0, v1', v2', v3'⟩ := four hcl0.b1
      clear hcl0 hgvb
      go_wp2
      obtain ⟨G, hG⟩ : ∃ G, G = (((wr.setCell ⟨w.heap.size + 1, 0, none⟩ (.int .u8 (x.k : Int))).setCell ⟨w.heap.size + 1, 1, none⟩ (S x.s)).setCell ⟨w.heap.size + 1, 2, none⟩ (.slice ad1' x.l.length cap1')).setCell ⟨w.heap.size + 1, 3, none⟩ (.slice (some ⟨gv, 0, none⟩) k cap3) := ⟨_, rfl⟩
      rw [← hG]
      obtain ⟨b1, go, gs, gb⟩ := put4 HL.out.b1 _ _ _ _ hG
      obtain ⟨r0, r1, r2, r3⟩ := four b1
      refine bodyPost_ret (v := .agg (nv x (.slice ad1' x.l.length cap1') (.slice (some ⟨gv, 0, none⟩) k cap3))) (by simp [results, Tryz.results36, go_sem, r0, r1, r2, r3]) rfl ?_
      refine ⟨HL.out.bel.trans (gb.mono (by omega)), _, _, rfl, Rep.of fit ?_ (CL.keys HL.out hnl ⟨by omega, by omega⟩ HKS.out go (by omega)), HL.out.fx.1.keep (by omega) fun g hg _ => go g (by omega), (FreeS.of_row HL.out.row).keep (by have := HGVL.out; omega) fun g hg _ => go g (by have := HGVL.out; omega)⟩
      exact HL.out.tx.keep (w' := G) ⟨by omega, fun g hg _ => go g (by have : w.heap.size + 2 ≤ g ∧ g ≠ gv := hg; omega)⟩ fun g h _ => by have : w.heap.size + 2 ≤ g ∧ g ≠ gv := h; omega
theorem clone_any (x : Nd) : CloneC x := by
  by_cases hp : x.p = []
  · exact clone_leaf x hp
  · exact clone_step x hp (fun y hy => clone_any y.2)
termination_by SizeOf.sizeOf x
decreasing_by exact Nd.size_p hy
end Go.Proofs.YtegobomfhdfodaaGreatDoor
