/- CONF: WHAT KEEPS MAPS; THE WALKS OVER begin, end. -/
import Derived.Test.YtegobomfhdfodaaGreatDoorCo
namespace Go.Proofs.YtegobomfhdfodaaGreatDoor
open Go.RowKit
set_option maxRecDepth 100000
set_option linter.unusedVariables false
set_option linter.unusedSimpArgs false

/-- all texts and keys but those of the block x are as they were -/
def SameX (x : Option Nat) (w w' : World) : Prop := w.heap.size ≤ w'.heap.size ∧ ∀ b cs t, w.heap[b]? = some (.cells cs t (0, 0)) → (t = 9 ∨ t = 44) → x ≠ some b → w'.heap[b]? = w.heap[b]?
theorem SameX.of_grown {w w' : World} {x : Option Nat} (h : w.grownBy w' x) : SameX x w w' := ⟨h.size, fun b cs t hb _ hx => h.block b (blk_lt hb) (fun e => hx e.symm)⟩
theorem SameX.of_below {w w' : World} (h : Below w.heap.size w w') (x : Option Nat) : SameX x w w' := ⟨h.size, fun b cs t hb _ hx => h.block b (blk_lt hb)⟩
/-- a change of a block of another type -/
theorem SameX.other {w w' : World} {g : Nat} {cs : Array Value} {t : TypeId} (h : w.grownBy w' (some g)) (hg : w.heap[g]? = some (.cells cs t (0, 0))) (ht : t ≠ 9 ∧ t ≠ 44) : SameX none w w' :=
  ⟨h.size, fun b cs' t' hb ht' _ => h.block b (blk_lt hb) (fun e => by
    injection e with e; subst e; rw [hb] at hg; injection hg with hg; injection hg with _ hg _; subst hg; rcases ht' with h | h; exact ht.1 h; exact ht.2 h)⟩
theorem SameX.trans {w w1 w2 : World} {x : Option Nat} (h : SameX x w w1) (k : SameX x w1 w2) : SameX x w w2 :=
  ⟨Nat.le_trans h.1 k.1, fun b cs t hb ht hx => (k.2 b cs t ((h.2 b cs t hb ht hx).trans hb) ht hx).trans (h.2 b cs t hb ht hx)⟩
theorem SameX.any {w w1 : World} {x : Option Nat} (h : SameX none w w1) : SameX x w w1 := ⟨h.1, fun b cs t hb ht _ => h.2 b cs t hb ht (fun e => nomatch e)⟩
theorem Far.kept {w w' : World} {base : Nat} {act act' : List Value} {x : Option Nat} (hs : SameX x w w') (h2 : x = none ∨ ∃ a ∈ act, a.ownBlock = x)
    (h3 : ∀ a' ∈ act', (∃ a ∈ act, a.ownBlock = a'.ownBlock) ∨ ∀ k, a'.ownBlock = some k → w.heap.size ≤ k) {b : Nat} (h : Far w base act b) : w'.heap[b]? = w.heap[b]? ∧ Far w' base act' b := by
  obtain ⟨h1, hn, cs, t, hc, ht⟩ := h
  have hb := blk_lt hc
  have e : w'.heap[b]? = w.heap[b]? := hs.2 b cs t hc ht (fun e => by
    rcases h2 with h2 | ⟨a, ha, h2⟩
    · rw [h2] at e; cases e
    · exact hn a ha (h2.trans e))
  refine ⟨e, h1, fun a' ha' e' => ?_, cs, t, e.trans hc, ht⟩
  rcases h3 a' ha' with ⟨a, ha, h⟩ | h
  · exact hn a ha (h.trans e')
  · have := h b e'; omega
theorem KR.kept {w w' : World} {base : Nat} {act act' : List Value} {q : Value} {es : List E} {x : Option Nat} (h : KR w base act q es) (hs : SameX x w w') (h1 : q.ownBlock = none ∨ q.ownBlock ≠ x) (h2 : x = none ∨ ∃ a ∈ act, a.ownBlock = x)
    (h3 : ∀ a' ∈ act', (∃ a ∈ act, a.ownBlock = a'.ownBlock) ∨ ∀ k, a'.ownBlock = some k → w.heap.size ≤ k) : KR w' base act' q es := by
  refine ⟨⟨h.row.1, ?_⟩, h.key, fun e he => (h.rep e he).keep ⟨hs.1, fun b hb _ => (Far.kept (act' := act') hs h2 h3 hb).1⟩ fun b hb _ => (Far.kept hs h2 h3 hb).2⟩
  rcases h.row.2 with hr | ⟨g, cap, cur, hv, hbg, hg, r⟩
  · exact .inl hr
  · refine .inr ⟨g, cap, cur, hv, hbg, (hs.2 g cur 44 hg (.inr rfl) (fun e => ?_)).trans hg, r⟩
    rcases h1 with h1 | h1
    · rw [hv] at h1; cases h1
    · exact h1 (by rw [hv, e]; rfl)
theorem same_act (act : List Value) (n : Nat) : ∀ a' ∈ act, (∃ a ∈ act, a.ownBlock = a'.ownBlock) ∨ ∀ k, a'.ownBlock = some k → n ≤ k := fun a h => .inl ⟨a, h, rfl⟩
/-- a row of another type is elsewhere -/
theorem row_apart {w : World} {base : Nat} {e : TypeId} {z : Nat} {v : Value} {n : Nat} {xs : List Value} (h : w.ownsRow base e z v n xs) {g : Nat} {cs : Array Value} {t : TypeId} {f : Nat × Nat} (hg : w.heap[g]? = some (.cells cs t f)) (ht : t ≠ e) : v.ownBlock ≠ some g := by
  rcases h.2 with ⟨hv, _⟩ | ⟨b, cap, cur, hv, _, hb, _⟩
  · rw [hv]; exact fun e => nomatch e
  · rw [hv]; intro e; injection e with e; subst e; dsimp only at hg; rw [hb] at hg; injection hg with hg; injection hg with _ hg _; exact ht hg.symm
theorem rows_apart {w : World} {base base' : Nat} {e e' : TypeId} {z z' : Nat} {v v' : Value} {n n' : Nat} {xs xs' : List Value} (h : w.ownsRow base e z v n xs) (h' : w.ownsRow base' e' z' v' n' xs') (ht : e' ≠ e) : ∀ k, v'.ownBlock = some k → v.ownBlock ≠ some k := by
  intro k hk
  rcases h'.2 with ⟨hv, _⟩ | ⟨b, cap, cur, hv, _, hb, _⟩
  · rw [hv] at hk; cases hk
  · rw [hv] at hk; injection hk with hk; subst hk; exact row_apart h hb ht
theorem MS.lt {base far g : Nat} {v : Value} {lv : List LV} {w : World} (h : MS base far g v lv w) : g < w.heap.size := blk_lt h.box
theorem MS.under {base far g : Nat} {v : Value} {lv : List LV} {w w' : World} (h : MS base far g v lv w) (hb : Below w.heap.size w w') : MS base far g v lv w' :=
  ⟨h.bf, h.bg, blk_under h.box hb, World.ownsRow.kept h.row (below_grown hb none) (by cases h : v.ownBlock; exact .inl rfl; exact .inr (fun e => nomatch e)), fun a ha => (h.keys a ha).kept (SameX.of_below hb none) (by cases h : a.q.ownBlock; exact .inl rfl; exact .inr (fun e => nomatch e)) (.inl rfl) (same_act _ _), h.apart⟩
/-- a level's cells -/
theorem MS.at {base far g : Nat} {v : Value} {lv : List LV} {w : World} (h : MS base far g v lv w) {i : Nat} {a : LV} (ha : lv[i]? = some a) :
    ∃ b cap, v = .slice (some ⟨b, 0, none⟩) lv.length cap ∧ base ≤ b ∧ b < w.heap.size ∧ w.cell? ⟨b, i * 2, none⟩ = some (.int .i64 (a.ind : Int)) ∧ w.cell? ⟨b, i * 2 + 1, none⟩ = some a.q := by
  have hi := lt_of_get ha
  rcases h.row.2 with ⟨rfl, hn⟩ | ⟨b, cap, cur, rfl, hbg, hg, h1, h2, h3, h4⟩
  · omega
  · have hr := h.row
    have hcell : ∀ j u, j < 2 → (lc a)[j]? = some u → w.cell? ⟨b, i * 2 + j, none⟩ = some u := fun j u hj hu => by
      have h5 := World.ownsRow.cellAt hr (i * 2 + j) (by omega)
      rw [h5, fm_at lc_len lv i a ha j hj]
      exact hu
    exact ⟨b, cap, rfl, hbg, blk_lt hg, hcell 0 _ (by omega) rfl, hcell 1 _ (by omega) rfl⟩
theorem below_of_grown {base : Nat} {w w' : World} {x : Option Nat} (h : w.grownBy w' x) (hb : base ≤ w.heap.size) (hx : ∀ k, x = some k → base ≤ k) : Below base w w' :=
  ⟨h.os, h.tape, h.output, h.size, fun i hi => h.block i (by omega) (fun e => by have := hx i e.symm; omega)⟩
/-- what is no key's, level's or maps' block stays -/
def Oth (w w' : World) : Prop := w.heap.size ≤ w'.heap.size ∧ ∀ (b : Nat) (o : Obj), w.heap[b]? = some o → (∀ cs t f, o = Obj.cells cs t f → t ≠ 44 ∧ t ≠ 63 ∧ t ≠ 65) → w'.heap[b]? = some o
theorem Oth.of_below {w w' : World} (h : Below w.heap.size w w') : Oth w w' := ⟨h.size, fun b o hb _ => blk_under hb h⟩
theorem Oth.trans {a b c : World} (h : Oth a b) (k : Oth b c) : Oth a c := ⟨Nat.le_trans h.1 k.1, fun x o hx ho => k.2 x o (h.2 x o hx ho) ho⟩
theorem Oth.of_grown {w w' : World} {g : Nat} {cs : Array Value} {t : TypeId} {f : Nat × Nat} (h : w.grownBy w' (some g)) (hg : w.heap[g]? = some (.cells cs t f)) (ht : t = 44 ∨ t = 63 ∨ t = 65) : Oth w w' :=
  ⟨h.size, fun b o hb ho => (h.block b (blk_lt hb) (fun e => by
    injection e with e; subst e; rw [hb] at hg; injection hg with hg
    have := ho cs t f hg
    rcases ht with rfl | rfl | rfl
    · exact this.1 rfl
    · exact this.2.1 rfl
    · exact this.2.2 rfl)).trans hb⟩
theorem Oth.of_row {w w' : World} {base : Nat} {e : TypeId} {z : Nat} {v : Value} {n : Nat} {xs : List Value} (hr : w.ownsRow base e z v n xs) (he : e = 44 ∨ e = 63 ∨ e = 65) (h : w.grownBy w' v.ownBlock) : Oth w w' := by
  rcases hr.2 with ⟨hv, _⟩ | ⟨b, cap, cur, hv, _, hb, _⟩
  · rw [hv] at h
    exact ⟨h.size, fun x o hx _ => (h.block x (blk_lt hx) (fun e => nomatch e)).trans hx⟩
  · rw [hv] at h
    exact Oth.of_grown h hb he
/-- nothing below base is changed, and nothing but keys, levels, maps -/
structure Bo (base : Nat) (w w' : World) : Prop where
  low : Below base w w'
  oth : Oth w w'
theorem Bo.trans {base : Nat} {a b c : World} (h : Bo base a b) (k : Bo base b c) : Bo base a c := ⟨h.low.trans k.low, h.oth.trans k.oth⟩
theorem Bo.of_below {base : Nat} {w w' : World} (h : Below w.heap.size w w') (hb : base ≤ w.heap.size) : Bo base w w' := ⟨h.mono hb, .of_below h⟩
/-- levels come to a row of their own -/
theorem MS.grown {base far g : Nat} {v v' : Value} {lv lv' : List LV} {w w1 w' : World} (h : MS base far g v lv w) (h1 : Below w.heap.size w w1) (h2 : w1.grownBy w' v.ownBlock) (hrow : w'.ownsRow base 63 2 v' lv'.length (lv'.flatMap lc)) (hsub : ∀ a ∈ lv', a ∈ lv ∨ a.q = .slice none 0 0 ∧ a.es = []) (hap : lv'.Pairwise fun a b => ∀ k, a.q.ownBlock = some k → b.q.ownBlock ≠ some k) (hb : base ≤ w.heap.size) :
    MS base far g v' lv' (w'.setCell ⟨g, 0, none⟩ v') ∧ Bo base w (w'.setCell ⟨g, 0, none⟩ v') := by
  have hg1 : w1.heap[g]? = some (.cells #[v] 65 (0, 0)) := blk_under h.box h1
  have hrow1 : w1.ownsRow base 63 2 v lv.length (lv.flatMap lc) := (h.under h1).row
  have hg' : w'.heap[g]? = some (.cells #[v] 65 (0, 0)) := (h2.block g (blk_lt hg1) (fun e => row_apart hrow1 hg1 (by decide) e.symm)).trans hg1
  have hs1 : SameX none w1 w' := ⟨h2.size, fun b cs t hb ht _ => h2.block b (blk_lt hb) (fun e => row_apart hrow1 hb (by rcases ht with rfl | rfl <;> decide) e.symm)⟩
  have hg2 : w'.grownBy (w'.setCell ⟨g, 0, none⟩ v') (some g) := set_grown1 w' g 0 v'
  have hsame : SameX none w (w'.setCell ⟨g, 0, none⟩ v') := ((SameX.of_below h1 none).trans hs1).trans (SameX.other hg2 hg' (by decide))
  have hact : ∀ a' ∈ lv'.map (·.q), (∃ a ∈ lv.map (·.q), a.ownBlock = a'.ownBlock) ∨ ∀ k, a'.ownBlock = some k → w.heap.size ≤ k := by
    intro a' ha'
    obtain ⟨a, ha, rfl⟩ := List.mem_map.1 ha'
    rcases hsub a ha with hm | ⟨hq, _⟩
    · exact .inl ⟨_, List.mem_map.2 ⟨a, hm, rfl⟩, rfl⟩
    · exact .inr fun k hk => by rw [hq] at hk; cases hk
  refine ⟨⟨h.bf, h.bg, heap_setCell_same w' g 0 _ 65 v' hg', World.ownsRow.kept hrow hg2 (.inr (row_apart hrow hg' (by decide))), fun a ha => ?_, hap⟩, ?_⟩
  · rcases hsub a ha with hm | ⟨hq, he⟩
    · exact (h.keys a hm).kept hsame (by cases h : a.q.ownBlock; exact .inl rfl; exact .inr (fun e => nomatch e)) (.inl rfl) hact
    · rw [hq, he]; exact ⟨World.ownsRow_nil _ _ _ _, (fun e h => nomatch h), (fun e h => nomatch h)⟩
  · refine ⟨?_, ((Oth.of_below h1).trans (Oth.of_row hrow1 (.inr (.inl rfl)) h2)).trans (Oth.of_grown hg2 hg' (.inr (.inr rfl)))⟩
    exact ((h1.mono hb).trans (below_of_grown h2 (Nat.le_trans hb h1.size) (fun k hk => (World.ownsRow.lt h.row k hk).1))).trans (below_of_grown hg2 (Nat.le_trans hb (Nat.le_trans h1.size h2.size)) (fun k hk => by injection hk with hk; subst hk; exact h.bg))
set_option maxHeartbeats 4000000 in
theorem begin_any (w : World) (base far g : Nat) (v : Value) (lv : List LV) (ind : Nat) (h : MS base far g v lv w) (hn : lv.length ≤ 1000) (hb : base ≤ w.heap.size) :
    Calls Tryz.prog 84 #[.pointer (some ⟨g, 0, none⟩), .int .i64 (ind : Int)] w fun e w' => e = .returned (.tuple #[]) ∧ ∃ v', MS base far g v' (lv ++ [(⟨ind, .slice none 0 0, []⟩ : LV)]) w' ∧ Bo base w w' := by
  obtain ⟨i0, hi, hz0, hz1, hz2⟩ := info_parts Tryz.info63
  have c0 := cell_of_row w g 0 _ 65 (0, 0) h.box
  simp at c0
  have hlg := h.lt
  have H := Lib.hid h
  have Hb := Lib.hid hb
  have hown := h.row
  obtain ⟨n, hn'⟩ : ∃ n, lv.length = n := ⟨_, rfl⟩
  rw [hn'] at hown hn
  have Hn := Lib.hid hn'
  have HX := Lib.hid hn
  clear h hn' hn hb
  go_enter Tryz.func84, Tryz.ntmps84
  go_wp2_with (at_builtin; refine wpList_append_own _ rfl _ _ 65 rfl base 63 i0 (.agg #[.int .i64 0, .slice none 0 0]) 2 32 Tryz.underlying65 hi hz0 hz1 hz2 rfl (by decide) _ _ _ rfl (hown.alloc _) ⟨w.heap.size, 0, none⟩ 1 1 [.int .i64 (ind : Int), .slice none 0 0] rfl rfl ?c1 ?c2 ?c3 ?c4 ?c5 ?_)
  case c1 =>
    intro j q hj
    match j, hj with
    | 0, hj => simp at hj; subst hj; simp [Addr.add]
    | 1, hj => simp at hj; subst hj; simp [Addr.add]
  case c2 => intro q hq; simp at hq; rcases hq with rfl | rfl <;> rfl
  case c3 => have := HX.out; unfold maxLen; omega
  case c4 => have := HX.out; omega
  case c5 => have := Hb.out; rw [World.size_alloc]; omega
  intro v' w6 hown' hgrow _
  have hrow6 : w6.ownsRow base 63 2 v' (lv ++ [(⟨ind, .slice none 0 0, []⟩ : LV)]).length ((lv ++ [(⟨ind, .slice none 0 0, []⟩ : LV)]).flatMap lc) := by
    rw [List.length_append, List.flatMap_append, Hn.out]
    exact hown'
  have hfin := H.out.grown ((Below.refl _ w).alloc (Nat.le_refl _) _) hgrow hrow6 (fun a ha => by
    rcases List.mem_append.1 ha with ha | ha
    · exact .inl ha
    · simp at ha; subst ha; exact .inr ⟨rfl, rfl⟩) (List.pairwise_append.2 ⟨H.out.apart, List.pairwise_singleton _ _, fun a ha b hb k hk => by simp at hb; subst hb; simp [Value.ownBlock]⟩) Hb.out
  have Hfin := Lib.hid hfin
  have hg6 : w6.heap[g]? = some (.cells #[v] 65 (0, 0)) := by
    have hg1 := blk_alloc H.out.box (.cells #[.int .i64 (ind : Int), .slice none 0 0] 63)
    exact (hgrow.block g (blk_lt hg1) (fun e => row_apart H.out.row H.out.box (by decide) e.symm)).trans hg1
  have f6 := frozen_of_row w6 g 0 _ 65 hg6
  have c6 := cell_of_row w6 g 0 _ 65 (0, 0) hg6
  simp at c6
  have hl6 := blk_lt hg6
  obtain ⟨ad', cap', rfl, _⟩ := row_form hown'
  clear hfin hrow6 hgrow hown' hown hg6
  go_wp2
  go_end0
  exact ⟨rfl, _, Hfin.out⟩
end Go.Proofs.YtegobomfhdfodaaGreatDoor
