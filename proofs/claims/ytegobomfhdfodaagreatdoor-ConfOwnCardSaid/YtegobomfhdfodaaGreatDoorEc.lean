/- CONF: THE WALK OVER the document's Copy, of any node. -/
import Derived.Test.YtegobomfhdfodaaGreatDoorEa
import Derived.Deep.RegionLaw
namespace Go.Proofs.YtegobomfhdfodaaGreatDoor
open Go.RowKit
set_option maxRecDepth 100000
set_option linter.unusedVariables false
set_option linter.unusedSimpArgs false

/-- the document's Copy of x: the same in new memory -/
def CopyD (x : Nd) : Prop := ∀ (B : Nat → Prop) (w : World) (q1 q2 : Value), Rep B w q1 q2 x → Calls Tryz.prog 20 #[.agg (nv x q1 q2)] w fun e w' => Below w.heap.size w w' ∧ ∃ r1 r2, e = .returned (.agg (nv x r1 r2)) ∧ Rep (fun g => w.heap.size ≤ g) w' r1 r2 x
theorem below_drew1 {W w1 : World} (h : Below W.drew.heap.size W.drew w1) : Below W.heap.size W w1 := ⟨h.os, h.tape, h.output, h.size, h.block⟩
theorem cell_alloc1 {w1 : World} {a : Addr} {u : Value} (h : w1.cell? a = some u) : ∀ ob, (w1.alloc ob).cell? a = some u := fun ob => (Below.cell ((Below.refl w1.heap.size w1).alloc (Nat.le_refl _) ob) (World.block_lt_of_cell? w1 a h)).trans h
/-- an append of texts that came in to an empty row -/
theorem run_app_texts {B : Nat → Prop} (w : World) (q : Value) (l : List K.T) (hq : RepT B w q l) (h16 : l.length * 16 ≤ 140737488353000) :
    ∃ v' w', (Builtin.append_ #[29, 29] 29 #[.slice (some ⟨w.heap.size, 0, none⟩) 0 0, q]).run Tryz.prog (w.alloc (.cells #[] 9)) = .ok v' w' ∧ Txs w.heap.size v' l w' ∧ Below w.heap.size w w' := by
  obtain ⟨i0, hi, hz0, hz1, hz2⟩ := info_parts Tryz.info9
  have hown := World.ownsRow_lit (base := w.heap.size) (e := 9) (size := 1) w #[] 0 (Nat.le_refl _) (by simp [maxLen]) rfl
  have hB : Below w.heap.size w (w.alloc (.cells #[] 9)) := (Below.refl _ w).alloc (Nat.le_refl _) _
  obtain ⟨ad, cap, rfl, hl⟩ := hq.form
  cases ad with
  | none =>
    have hx : l = [] := by
      cases l with
      | nil => rfl
      | cons y r => obtain ⟨g, o, e, _⟩ := hq.at (i := 0) (y := y) rfl; cases e
    subst hx
    exact ⟨_, _, by simp [Builtin.append_, run_underlying Tryz.underlying29, sizeOf, typeInfo, hi, Builtin.lenOf, Builtin.firstCells, storeCells], hown, hB⟩
  | some a =>
    have hcells : ∀ (j : Nat) (u : Value), (l.map S)[j]? = some u → (w.alloc (.cells #[] 9)).cell? (a.add j) = some u := by
      intro j u hj
      rw [List.getElem?_map] at hj
      cases hlj : l[j]? with
      | none => rw [hlj] at hj; cases hj
      | some s =>
        rw [hlj] at hj
        have hj : S s = u := Option.some.inj hj
        obtain ⟨g, o, ha, hg, hc, _⟩ := hq.at hlj
        injection ha with ha
        subst ha
        subst hj
        rw [show (⟨g, o, none⟩ : Addr).add j = ⟨g, o + j, none⟩ by unfold Addr.add; split <;> simp_all]
        exact (cell_block (hB.block g hg) _).trans hc
    obtain ⟨v', w', hr, h2, h3, _⟩ := run_append_own_at (P := Tryz.prog) (w.alloc (.cells #[] 9)) w.heap.size 29 29 9 i0 _ 1 16 Tryz.underlying29 hi hz0 hz1 hz2 rfl (by decide) _ 0 _ hown a l.length cap (l.map S) (by rw [List.length_map]; omega) hcells (by intro u hu; obtain ⟨x, _, rfl⟩ := List.mem_map.1 hu; rfl) (by simp [maxLen]; omega) (by omega) (by simp)
    refine ⟨v', w', hr, by unfold Txs; simpa using h2, hB.grown h3 (by simp) fun k hk => ?_⟩
    simp [Value.ownBlock] at hk
    omega
theorem wpList_app_run {w : World} {ops : Array Oper} {rest : List Oper} {o : Oper} {a : Act} {Q : Exit → Act → World → Prop} (hgd : o.guard = none) (s x : Operand) (t : TypeId)
    (ho : o.op = .call { callee := .builtin .append, args := #[s, x], argTypes := #[t, t] }) {v q v' : Value} {w' : World} (hs : a.eval s = v) (hx : a.eval x = q) (hr : (Builtin.append_ #[t, t] o.type #[v, q]).run Tryz.prog w = .ok v' w')
    (h : wpList Tryz.prog ops Q rest (a.put o.dst v') w') : wpList Tryz.prog ops Q (o :: rest) a w :=
  wpList_plain hgd fun _ hK => by
    unfold Oper.wp execOp
    simp only [ho, resolve, invoke, builtin, Sem.run_bind, Sem.run_pure, Result.andThen_ok, List.map_toArray, List.map_cons, List.map_nil, hs, hx, hr]
    exact hK _ _ h
theorem step_app_k {w : World} {ops : Array Oper} {o : Oper} {a : Act} {Kk : Act → World → Prop} {Q : Exit → Act → World → Prop} {Ee : Prop} (hgd : o.guard = none) (s x : Operand)
    (ho : o.op = .call { callee := .builtin .append, args := #[s, x], argTypes := #[30, 30] }) (base n : Nat) (v : Value) (xs : List Value) (hs : a.eval s = v) (hown : w.ownsRow base 44 5 v n xs) (key : K.T) (y : Nd) (p1 p2 : Value) (ho1 : p1.oneCell' = true) (ho2 : p2.oneCell' = true) (g0 : Nat) (hx : a.eval x = .slice (some ⟨g0, 0, none⟩) 1 1) (hg0 : g0 = w.heap.size) (hlen : (n + 1) * 88 ≤ 140737488355000) (hbase : base ≤ w.heap.size)
    (h : ∀ v' w', w'.ownsRow base 44 5 v' (n + 1) (xs ++ kcs (key, y, p1, p2)) → (w.alloc (.cells (kv key y p1 p2) 44)).grownBy w' v.ownBlock → (v'.ownBlock = v.ownBlock ∨ v'.ownBlock = some (w.heap.size + 1)) → Kk (a.put o.dst v') w') :
    if Region.wanted o (yielded ops a.tmps) = true then Oper.wp Tryz.prog o a (w.alloc (.cells (kv key y p1 p2) 44)) Kk Q else Ee := by
  have hw : Region.wanted o (yielded ops a.tmps) = true := by simp [Region.wanted, hgd]
  rw [if_pos hw]
  subst hg0
  obtain ⟨i0, hi, hz0, hz1, hz2⟩ := info_parts Tryz.info44
  obtain ⟨v', w', hr, h2, h3, _, h5⟩ := run_append_own_at (P := Tryz.prog) (w.alloc (.cells (kv key y p1 p2) 44)) base 30 o.type 44 i0 _ 5 88 Tryz.underlying30 hi hz0 hz1 hz2 rfl (by decide) v n xs (World.ownsRow.alloc hown _)
    ⟨w.heap.size, 0, none⟩ 1 1 (kcs (key, y, p1, p2)) rfl
    (by
      intro j u hu
      have e : (⟨w.heap.size, 0, none⟩ : Addr).add j = ⟨w.heap.size, j, none⟩ := by unfold Addr.add; split <;> simp_all
      rw [e, cell_of_row _ w.heap.size j _ 44 (0, 0) (heap_alloc_new w _), ← Array.getElem?_toList]
      exact hu)
    (by
      intro u hu
      simp only [kcs, List.mem_cons, List.not_mem_nil, or_false] at hu
      rcases hu with rfl | rfl | rfl | rfl | rfl <;> first | rfl | assumption) (by unfold maxLen; omega) (by omega) (by simp; omega)
  rw [World.size_alloc] at h5
  unfold Oper.wp execOp
  simp only [ho, resolve, invoke, builtin, Sem.run_bind, Sem.run_pure, Result.andThen_ok, List.map_toArray, List.map_cons, List.map_nil, hs, hx, hr]
  exact h v' w' h2 h3 h5
/-- Copy's loop behind k keys -/
structure CI (w : World) (N0 k : Nat) (x : Nd) (a1 : Option Addr) (c1 : Nat) (q2 cur : Value) (es : List KE) (V : World) : Prop where
  b0 : V.heap[w.heap.size]? = some (.cells #[.int .u8 (x.k : Int), S x.s, .slice a1 x.l.length c1, q2] 32 (0, 0))
  b1 : V.heap[w.heap.size + 1]? = some (.cells zero4' 32 (0, 0))
  bel : Below w.heap.size w V
  lo : w.heap.size + 2 ≤ N0
  n0 : N0 ≤ V.heap.size
  tx : RepT (fun g => w.heap.size + 2 ≤ g ∧ g < N0) V (.slice a1 x.l.length c1) x.l
  row : V.ownsRow N0 44 5 cur k (es.flatMap kcs)
  map : es.map (fun e => (e.1, e.2.1)) = x.p.take k
  done : ∀ e ∈ es, Rep (fun g => N0 ≤ g ∧ cur.ownBlock ≠ some g) V e.2.2.1 e.2.2.2 e.2.1
theorem CI.next {w V W w1 w2 : World} {N0 k : Nat} {x : Nd} {a1 : Option Addr} {c1 : Nat} {q2 cur cur' : Value} {es : List KE} {key : K.T} {y : Nd} {p1 p2 : Value} (h : CI w N0 k x a1 c1 q2 cur es V) (hW : Below V.heap.size V W) (hb1 : Below W.heap.size W w1) (hr : Rep (fun g => W.heap.size ≤ g) w1 p1 p2 y)
    (hrow : w2.ownsRow N0 44 5 cur' (k + 1) (es.flatMap kcs ++ kcs (key, y, p1, p2))) (hg : (w1.alloc (.cells (kv key y p1 p2) 44)).grownBy w2 cur.ownBlock) (ho : cur'.ownBlock = cur.ownBlock ∨ cur'.ownBlock = some (w1.heap.size + 1)) (hy : x.p[k]? = some (key, y)) :
    CI w N0 (k + 1) x a1 c1 q2 cur' (es ++ [(key, y, p1, p2)]) w2 := by
  have s1 := hW.size
  have s2 := hb1.size
  have s3 := hg.size
  simp at s3
  have hlo := h.lo
  have hn0 := h.n0
  have hc : ∀ g, cur.ownBlock = some g → N0 ≤ g ∧ g < V.heap.size := fun g hg => World.ownsRow.lt h.row g hg
  have hbk : ∀ g, g < w1.heap.size → cur.ownBlock ≠ some g → w2.heap[g]? = w1.heap[g]? := fun g hlt hne => (hg.block g (by simp; omega) (fun e => hne e.symm)).trans (Below.heap_alloc w1 _ g hlt)
  have hbV : ∀ g, g < V.heap.size → cur.ownBlock ≠ some g → w2.heap[g]? = V.heap[g]? := fun g hlt hne => (hbk g (by omega) hne).trans ((hb1.block g (by omega)).trans (hW.block g hlt))
  have hl0 := blk_lt h.b0
  have hl1 := blk_lt h.b1
  refine ⟨(hbV _ hl0 fun e => by have := hc _ e; omega).trans h.b0, (hbV _ hl1 fun e => by have := hc _ e; omega).trans h.b1, ?_, h.lo, by omega, ?_, by rw [List.flatMap_append, List.flatMap_singleton]; exact hrow, ?_, ?_⟩
  · have h1 : Below w.heap.size w w1 := (h.bel.trans (hW.mono h.bel.size)).trans (hb1.mono (by have := h.bel.size; omega))
    refine (h1.alloc (by have := h.bel.size; omega) _).grown hg (by have := h.bel.size; simp; omega) fun g e => ?_
    have := hc g e
    omega
  · exact h.tx.keep (w' := w2) ⟨by omega, fun g hg hlt => hbV g hlt fun e => by have := hc g e; have := hg.2; omega⟩ fun g h _ => h
  · rw [List.map_append, h.map, take_snoc hy]; rfl
  · intro e he
    have hnew : ∀ g, g < w1.heap.size → cur.ownBlock ≠ some g → cur'.ownBlock ≠ some g := fun g hlt hne e => by
      rcases ho with h1 | h1
      · exact hne (h1 ▸ e)
      · rw [h1] at e; injection e with e; omega
    rcases List.mem_append.1 he with he | he
    · exact (h.done e he).keep (w' := w2) ⟨by omega, fun g hg hlt => hbV g hlt hg.2⟩ fun g hg hlt => ⟨hg.1, hnew g (by omega) hg.2⟩
    · simp only [List.mem_singleton] at he
      subst he
      have hne : ∀ g, W.heap.size ≤ g → cur.ownBlock ≠ some g := fun g hg e => by have := hc g e; omega
      exact hr.keep (w' := w2) ⟨by omega, fun g hg hlt => hbk g hlt (hne g hg)⟩ fun g hg hlt => ⟨by have : W.heap.size ≤ g := hg; omega, hnew g hlt (hne g hg)⟩
/-- the row that is left is the keys -/
theorem CI.keys {w V G : World} {N0 n : Nat} {x : Nd} {a1 : Option Addr} {c1 : Nat} {q2 cur : Value} {es : List KE} (h : CI w N0 n x a1 c1 q2 cur es V) (hn : x.p.length = n) (hs : ∀ y ∈ x.p, y.1.length ≤ 140737488353000) (hG : ∀ j, N0 ≤ j → G.heap[j]? = V.heap[j]?) (hz : V.heap.size ≤ G.heap.size) : RepK (fun g => w.heap.size ≤ g) G cur x.p := by
  have hlo := h.lo
  have hmap : es.map (fun e => (e.1, e.2.1)) = x.p := by rw [h.map]; exact List.take_of_length_le (by omega)
  have hel : es.length = n := by rw [← hn, ← hmap, List.length_map]
  rcases h.row.2 with ⟨hv, h0⟩ | ⟨gv, cap, cur0, hv, hbg, hg, h1, h2, h3, h4⟩
  · have : x.p = [] := List.eq_nil_of_length_eq_zero (by omega)
    rw [this, hv]
    exact RepK.nil _ _
  · subst hv
    have hgl := (World.ownsRow.lt h.row gv rfl).2
    refine ⟨gv, 0, fun i => match es[i]? with | some e => e.2.2.1 | none => .nilIface, fun i => match es[i]? with | some e => e.2.2.2 | none => .nilIface, ⟨_, cap, by rw [hn], by rw [hn]; simp only [maxLen] at h2; omega, fun _ => ⟨rfl, by omega, by omega⟩⟩, fun i y hy => ?_⟩
    have hy2 := hy
    rw [← hmap, List.getElem?_map] at hy2
    obtain ⟨e, he⟩ : ∃ e, es[i]? = some e := by
      cases he : es[i]? with
      | none => rw [he] at hy2; cases hy2
      | some e => exact ⟨e, rfl⟩
    rw [he] at hy2
    have hy2 := Option.some.inj hy2
    subst hy2
    simp only [he]
    have hcell : ∀ r u, r < 5 → (kcs e)[r]? = some u → G.cell? ⟨gv, 0 + i * 5 + r, none⟩ = some u := fun r u hr hu => by
      have := World.ownsRow.cells h.row (g := gv) rfl (i * 5 + r) u (by rw [kcs_at es i e he r hr]; exact hu)
      rw [Nat.zero_add]
      refine (cell_block (hG gv hbg) _).trans ?_
      rwa [show (⟨gv, 0, none⟩ : Addr).add (i * 5 + r) = ⟨gv, i * 5 + r, none⟩ by unfold Addr.add; split <;> simp_all] at this
    refine ⟨⟨hcell 0 _ (by omega) rfl, hcell 1 _ (by omega) rfl, hcell 2 _ (by omega) rfl, hcell 3 _ (by omega) rfl, hcell 4 _ (by omega) rfl⟩, hs _ (List.mem_of_getElem? hy), ?_⟩
    exact (h.done e (List.mem_of_getElem? he)).keep (w' := G) ⟨hz, fun g hg _ => hG g hg.1⟩ fun g hg _ => by have := hg.1; omega
set_option maxHeartbeats 8000000 in
theorem copy_step (x : Nd) (ih : ∀ y ∈ x.p, CopyD y.2) : CopyD x := by
  intro B w q1 q2 hr
  obtain ⟨fit, hrt, hrk⟩ := hr.parts
  have hsh := hrt.short
  have HKS := Lib.hid (show ∀ y ∈ x.p, y.1.length ≤ 140737488353000 from fun y hy => by
    obtain ⟨i, hi⟩ := List.getElem?_of_mem hy
    obtain ⟨g, o, c, d, _, h4⟩ := hrk
    exact (h4 i y hi).2.1)
  obtain ⟨ad1, cap1, rfl, hl1⟩ := hrt.form
  obtain ⟨ad2, cap2, rfl, hl2⟩ := hrk.form
  have hroom := hrk.room
  obtain ⟨n, hn⟩ : ∃ n, x.p.length = n := ⟨_, rfl⟩
  rw [hn] at hl2 hrk hroom ⊢
  obtain ⟨W, hW⟩ : ∃ W, W = (w.alloc (.cells #[.int .u8 (x.k : Int), S x.s, .slice ad1 x.l.length cap1, .slice ad2 n cap2] 32)).alloc (.cells #[.int .u8 0, .string ⟨#[]⟩, .slice none 0 0, .slice none 0 0] 32) := ⟨_, rfl⟩
  have hB : Below w.heap.size w W := by rw [hW]; exact ((Below.refl _ w).alloc (Nat.le_refl _) _).alloc (by simp) _
  have hb0 : W.heap[w.heap.size]? = some (.cells #[.int .u8 (x.k : Int), S x.s, .slice ad1 x.l.length cap1, .slice ad2 n cap2] 32 (0, 0)) := by rw [hW]; exact blk_under (blk_new w _) ((Below.refl _ _).alloc (Nat.le_refl _) _)
  have hb1 : W.heap[w.heap.size + 1]? = some (.cells #[.int .u8 0, .string ⟨#[]⟩, .slice none 0 0, .slice none 0 0] 32 (0, 0)) := by rw [hW]; have := blk_new (w.alloc (.cells #[.int .u8 (x.k : Int), S x.s, .slice ad1 x.l.length cap1, .slice ad2 n cap2] 32)) (.cells #[.int .u8 0, .string ⟨#[]⟩, .slice none 0 0, .slice none 0 0] 32); simpa using this
  have hWs : W.heap.size = w.heap.size + 2 := by rw [hW]; simp
  obtain ⟨v1, w2, hrun, ht1, hbb⟩ := run_app_texts W _ x.l (hrt.under hB) fit.l1
  obtain ⟨a1, c1, rfl, _⟩ := (ht1.low hsh).form
  have hbk0 := blk_under hb0 hbb
  have hbk1 := blk_under hb1 hbb
  obtain ⟨X, hX⟩ : ∃ X, X = w2.setCell ⟨w.heap.size, 2, none⟩ (.slice a1 x.l.length c1) := ⟨_, rfl⟩
  have hx0 : X.heap[w.heap.size]? = some (.cells #[.int .u8 (x.k : Int), S x.s, .slice a1 x.l.length c1, .slice ad2 n cap2] 32 (0, 0)) := by rw [hX]; exact heap_setCell_same w2 w.heap.size 2 _ 32 (.slice a1 x.l.length c1) hbk0
  have hx1 : X.heap[w.heap.size + 1]? = some (.cells zero4' 32 (0, 0)) := by rw [hX]; exact (Below.heap_setCell w2 ⟨w.heap.size, 2, none⟩ (.slice a1 x.l.length c1) _ (by show w.heap.size + 1 ≠ w.heap.size; omega)).trans hbk1
  have hBX : Below w.heap.size w X := by rw [hX]; exact (hB.trans (hbb.mono hB.size)).setCell (p := ⟨w.heap.size, 2, none⟩) (Nat.le_refl _) (.slice a1 x.l.length c1)
  have hT1 : RepT (fun g => w.heap.size + 2 ≤ g ∧ g < X.heap.size) X (.slice a1 x.l.length c1) x.l := by
    rw [hX]
    refine (((ht1.low hsh).keep (Kept.set _ _ _ _ _ (by show ¬ W.heap.size ≤ w.heap.size; omega)) fun _ h _ => h)).mono fun g h hl => ⟨by have : W.heap.size ≤ g := h; omega, hl⟩
  have hci : CI w X.heap.size 0 x a1 c1 (.slice ad2 n cap2) (.slice none 0 0) [] X := ⟨hx0, hx1, hBX, by have := hbb.size; rw [hX, set_size]; omega, Nat.le_refl _, hT1, World.ownsRow_nil _ _ _ _, by simp, fun e he => by cases he⟩
  have hrk2 : RepK (fun g => g < w.heap.size) w (.slice ad2 n cap2) x.p := hrk.mono fun _ _ h => h
  obtain ⟨c0, c1', c2, c3⟩ := four hb0
  have hlt0 := blk_lt hb0
  obtain ⟨y0, y1, y2, y3⟩ := four hbk0
  have hfr := (free4 hbk0).2.2.1
  have hltw2 := blk_lt hbk0
  obtain ⟨z0, z1, z2, z3⟩ := four hx0
  have hltX := blk_lt hx0
  obtain ⟨N0, hN0⟩ : ∃ N0, N0 = X.heap.size := ⟨_, rfl⟩
  rw [← hN0] at hci
  have HW := Lib.hid hW
  have HXX := Lib.hid hX
  have HCI := Lib.hid hci
  have HRK := Lib.hid hrk2
  have HN := Lib.hid hn
  have IH := Lib.hid ih
  have HFIT := Lib.hid fit
  have h88 : n * 88 ≤ 140737488353000 := by rw [← hn]; exact fit.p1
  have HWS := Lib.hid hWs
  have HRUN := Lib.hid hrun
  clear hW hX hci hrk2 hn ih fit hWs hr hrt hrk hb0 hb1 hbb hbk0 hbk1 hx0 hx1 hBX hT1 hB ht1 hN0 hrun
  go_enter Tryz.func20, Tryz.ntmps20
  go_upto_region 1 with (fail)
  rw [← HW.out]
  go_wp2_with (at_builtin; refine wpList_app_run rfl _ _ 29 rfl rfl rfl HRUN.out ?_)
  clear c0 c1' c2 c3
  rw [← HXX.out]
  clear y0 y1 y2 y3 hfr
  go_loopw [3, 14] (fun v i wr => ∃ (k : Nat) (es : List KE), i = .int .i64 (k : Int) ∧ k ≤ n ∧ CI w N0 k x a1 c1 (.slice ad2 n cap2) v es wr) (fun _ i _ => n - (intOf i).toNat)
  case atStart => exact ⟨0, [], rfl, Nat.zero_le _, HCI.out⟩
  case round =>
    obtain ⟨k, es, rfl, hk, hci0⟩ := hrel
    have HL := Lib.hid hci0
    have hl0 := blk_lt hci0.b0
    have hl1 := blk_lt hci0.b1
    clear hci0 z0 z1 z2 z3
    by_cases hlt : k < n
    · obtain ⟨y, hy⟩ := get_at (l := x.p) (k := k) (by rw [HN.out]; exact hlt)
      obtain ⟨g, o, p1, p2, rfl, hg, ⟨f0, f1, f2, f3, f4⟩, hyl, hry⟩ := ((HRK.out.keep (Kept.low HL.out.bel) fun _ h _ => h)).at hy
      obtain ⟨t1, t2, rfl, _⟩ := hry.parts.2.1.form
      obtain ⟨t3, t4, rfl, _⟩ := hry.parts.2.2.form
      obtain ⟨V, hV⟩ : ∃ V, V = wr.alloc (.cells (kv y.1 y.2 (.slice t1 y.2.l.length t2) (.slice t3 y.2.p.length t4)) 44) := ⟨_, rfl⟩
      have hBV : Below wr.heap.size wr V := by rw [hV]; exact (Below.refl _ wr).alloc (Nat.le_refl _) _
      have hbk : V.heap[wr.heap.size]? = some (.cells (kv y.1 y.2 (.slice t1 y.2.l.length t2) (.slice t3 y.2.p.length t4)) 44 (0, 0)) := by rw [hV]; exact blk_new wr _
      have HBK := Lib.hid hbk
      have HV := Lib.hid hV
      have HBV := Lib.hid hBV
      have HC := Lib.hid (IH.out y (List.mem_of_getElem? hy) _ V.drew _ _ (hry.under (hBV.trans ((Below.refl _ V).drew.mono hBV.size))))
      have HY := Lib.hid hy
      have HROW := Lib.hid (World.ownsRow.kept HL.out.row (below_grown HBV.out none) (Classical.em _))
      have HBASE := Lib.hid (Nat.le_trans HL.out.n0 hBV.size)
      have hk0 : (0 : Int) ≤ (k : Int) := by omega
      have hkn : (k : Int) < (n : Int) := by omega
      have hkc : (k : Int) ≤ (cap2 : Int) := by omega
      obtain ⟨v0, v1, v2, v3, v4⟩ := At5.box hbk
      simp only [Nat.zero_add] at v0 v1 v2 v3 v4
      have hlV := blk_lt hbk
      have HLEN := Lib.hid (show (k + 1) * 88 ≤ 140737488355000 by omega)
      clear hbk hV hBV hy hry hyl
      go_upto_region 6 with (fail)
      rw [← HV.out]
      clear f0 f1 f2 f3 f4
      go_region_law (first | (refine step_app_k rfl (.tmp 18) (.tmp 25) rfl N0 k _ _ (by rfl) (World.ownsRow.kept HROW.out (below_grown hbD none) (Classical.em _)) y.1 y.2 _ _ (by rfl) (by rfl) _ (by rfl) (by rfl) HLEN.out (Nat.le_trans HBASE.out hbD.size) ?_; intro v2' w4 hrow4 hgr4 hob4) | (go_simp; go_at_call 20; refine (HC.out).mono ?_; rintro e' w3 ⟨hb3, r1, r2, rfl, hrr⟩; obtain ⟨r3, r4, rfl, _⟩ := hrr.parts.2.1.form; obtain ⟨r5, r6, rfl, _⟩ := hrr.parts.2.2.form; have hbD : Below V.heap.size V w3 := below_drew1 hb3; have u0 := (At5.box (blk_under HBK.out hbD)).c0; have u0' := cell_alloc1 u0) | (go_simp; done))
      all_goals
        have HNX := Lib.hid (CI.next HL.out HBV.out hbD (hrr.mono fun _ h _ => h) hrow4 hgr4 hob4 HY.out)
        clear hrow4 hgr4 hob4 hrr hb3 u0 u0' v0 v1 v2 v3 v4
        go_wp2
        go_roundw
        case rel => exact ⟨k + 1, _, by go_num, by omega, HNX.out⟩
        case measure => simp [intOf]; omega
    · have hkn : ¬ (k : Int) < (n : Int) := by omega
      obtain rfl : k = n := by omega
      obtain ⟨m0, m1, m2, m3⟩ := four HL.out.b0
      obtain ⟨e0, e1, e2, e3⟩ := free4 HL.out.b0
      obtain ⟨h0, h1, h2, h3⟩ := free4 HL.out.b1
      obtain ⟨v0, v1, v2, v3⟩ := four HL.out.b1
      obtain ⟨ac, cc, rfl⟩ : ∃ ac cc, u3 = .slice ac k cc := by
        rcases HL.out.row.2 with ⟨h1, h2⟩ | ⟨g, cap, cur, h1, _⟩
        · exact ⟨none, 0, by rw [h1, h2]⟩
        · exact ⟨_, _, h1⟩
      go_wp2
      obtain ⟨Y, hY⟩ : ∃ Y, Y = wr.setCell ⟨w.heap.size, 3, none⟩ (.slice ac k cc) := ⟨_, rfl⟩
      rw [← hY]
      have hYo : ∀ j, j ≠ w.heap.size → Y.heap[j]? = wr.heap[j]? := fun j hj => by rw [hY]; exact Below.heap_setCell wr ⟨w.heap.size, 3, none⟩ _ j hj
      have hYs : Y.heap.size = wr.heap.size := by rw [hY]; exact set_size _ _ _
      have hYb : Below w.heap.size w Y := by rw [hY]; exact HL.out.bel.setCell (p := ⟨w.heap.size, 3, none⟩) (Nat.le_refl _) _
      obtain ⟨G, hG⟩ : ∃ G, G = (((Y.setCell ⟨w.heap.size + 1, 0, none⟩ (.int .u8 (x.k : Int))).setCell ⟨w.heap.size + 1, 1, none⟩ (S x.s)).setCell ⟨w.heap.size + 1, 2, none⟩ (.slice a1 x.l.length c1)).setCell ⟨w.heap.size + 1, 3, none⟩ (.slice ac k cc) := ⟨_, rfl⟩
      rw [← hG]
      obtain ⟨b1, go, gs, gb⟩ := put4 ((hYo (w.heap.size + 1) (by omega)).trans HL.out.b1) _ _ _ _ hG
      obtain ⟨r0, r1, r2, r3⟩ := four b1
      refine bodyPost_ret (v := .agg (nv x (.slice a1 x.l.length c1) (.slice ac k cc))) (by simp [results, Tryz.results20, go_sem, r0, r1, r2, r3]) rfl ?_
      have hlo := HL.out.lo
      refine ⟨hYb.trans (gb.mono (by omega)), _, _, rfl, Rep.of HFIT.out ?_ (CI.keys HL.out HN.out HKS.out (fun j hj => (go j (by omega)).trans (hYo j (by omega))) (by omega))⟩
      exact HL.out.tx.keep (w' := G) ⟨by omega, fun g hg _ => (go g (by have := hg.1; omega)).trans (hYo g (by have := hg.1; omega))⟩ fun g hg _ => by have := hg.1; omega
theorem copy_any (x : Nd) : CopyD x := copy_step x (fun y hy => copy_any y.2)
termination_by SizeOf.sizeOf x
decreasing_by exact Nd.size_p hy
end Go.Proofs.YtegobomfhdfodaaGreatDoor
