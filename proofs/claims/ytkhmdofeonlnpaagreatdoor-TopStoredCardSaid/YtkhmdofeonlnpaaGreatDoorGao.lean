/- SEGMENT: THE WALK OVER read. -/
import Derived.Test.YtkhmdofeonlnpaaGreatDoorGan
import Derived.Sort.CutIn
import Derived.OwnWalkIn
namespace Go.Proofs.YtkhmdofeonlnpaaGreatDoor
open Go.RowKit Go.Shelf
attribute [local go_sem] Oper.semAt_some
set_option maxRecDepth 100000
set_option linter.unusedVariables false
set_option linter.unusedSimpArgs false
abbrev nilV : Value := .slice none 0 0
theorem wpListIn_app {F : Fence} {n : Nat} {P : Program} {w w1 : World} {ops : Array Oper} {rest : List Oper} {o : Oper} {a : Act} {Q : Exit → Act → World → Prop} (hg : o.guard = none) (s x : Operand) {t u : TypeId} (hop : o.op = Op.call { callee := Callee.builtin Builtin.append, args := #[s, x], argTypes := #[t, u] })
    {S V v1 : Value} (hs : a.eval s = S) (hx : a.eval x = V) (hr : (Builtin.append_ #[t, u] o.type #[S, V]).run P w = .ok v1 w1) (h : wpListIn F n P ops Q rest (a.put o.dst v1) w1) : wpListIn F n P ops Q (o :: rest) a w := by
  refine wpListIn_plain hg fun K hK => ?_
  unfold Oper.wpIn
  refine ⟨?_, ?_⟩
  · simp [Oper.about, hop, resolve, Target.leads, Sem.run_pure]
  · rw [Oper.semAt_plain F _ _ (by rw [hop]; intro c hc'; cases hc')]
    simp [execOp, hop, resolve, invoke, builtin, hs, hx, hr, Result.andThen]
    exact hK _ _ h
/-- where files lie -/
def WPl (w : World) (B : Nat) (ad : Option Addr) (cap : Nat) (L : List SF) : Prop := L ≠ [] → ∃ g, ad = some ⟨g, 0, none⟩ ∧ B ≤ g ∧ g < w.heap.size ∧ L.length ≤ cap ∧ WAt w g 0 L
theorem WRow.pl {w : World} {base : Nat} {v : Value} {L : List SF} (h : WRow w base v L) : ∃ ad cap, v = .slice ad L.length cap ∧ WPl w base ad cap L := by
  by_cases hne : L = []
  · obtain ⟨ad, cap, hv⟩ := h.form
    exact ⟨ad, cap, hv, fun h => absurd hne h⟩
  · obtain ⟨g, cap, hv, h1, h2, h3, h4⟩ := h.place hne
    exact ⟨_, cap, hv, fun _ => ⟨g, rfl, h1, h2, h3, h4⟩⟩
theorem WPl.under {w w' : World} {B : Nat} {ad : Option Addr} {cap : Nat} {L : List SF} (h : WPl w B ad cap L) (hb : Below w.heap.size w w') : WPl w' B ad cap L := fun hne => by
  obtain ⟨g, e, h1, h2, h3, h4⟩ := h hne
  exact ⟨g, e, h1, Nat.lt_of_lt_of_le h2 hb.size, h3, h4.below h2 hb⟩
/-- between two rounds of read's loop -/
def RdR (base C : Nat) (wc : World) (ad1 : Option Addr) (cap1 m : Nat) (L : List SF) (fr : Nat) (lv cv : Value) (wr : World) : Prop :=
  ∃ (k : Nat) (adk : Option Addr) (capk n : Nat) (rs : List Rec) (rv : Value), k ≤ m ∧ lv = .slice adk (m - k) capk ∧ (L ≠ [] → ∃ g, ad1 = some ⟨g, 0, none⟩ ∧ (k < m → adk = some ⟨g, k * 4, none⟩) ∧ capk = cap1 - k) ∧ n ≤ 4611686018427387904 ∧ rs.length ≤ 262144 * k ∧
    wr.heap[C]? = some (Obj.cells (ccells (fr : Nat) (n : Nat) rv nilV) 113 (0, 0)) ∧ RRow wr base rv rs ∧ Below base wc wr ∧
    ((cv = nilV ∧ rdM fr L = ⟨rs ++ (rdM n (L.drop k)).rs, (rdM n (L.drop k)).nx, (rdM n (L.drop k)).cut, (rdM n (L.drop k)).rest⟩) ∨
     (∃ c gc, cv = .slice (some ⟨gc, 0, none⟩) 1 1 ∧ wr.heap[gc]? = some (Obj.cells (stp c).toArray 182 (0, 0)) ∧ C < gc ∧ rdM fr L = ⟨rs, n, [c], L.drop k⟩))
/-- behind the loop -/
def RdD (base C : Nat) (wc : World) (ad1 : Option Addr) (cap1 : Nat) (L : List SF) (fr : Nat) (r : RD) (lv cv : Value) (wr : World) : Prop :=
  ∃ (adk : Option Addr) (capk : Nat) (rv : Value) (k : Nat), r.rest = L.drop k ∧ lv = .slice adk r.rest.length capk ∧ (r.rest ≠ [] → ∃ g, ad1 = some ⟨g, 0, none⟩ ∧ adk = some ⟨g, k * 4, none⟩) ∧
    wr.heap[C]? = some (Obj.cells (ccells (fr : Nat) (r.nx : Nat) rv nilV) 113 (0, 0)) ∧ RRow wr base rv r.rs ∧ Below base wc wr ∧
    ((cv = nilV ∧ r.cut = []) ∨ (∃ c gc, cv = .slice (some ⟨gc, 0, none⟩) 1 1 ∧ wr.heap[gc]? = some (Obj.cells (stp c).toArray 182 (0, 0)) ∧ C < gc ∧ r.cut = [c]))
theorem RRow.drw {w : World} {base : Nat} {v : Value} {rs : List Rec} (h : RRow w base v rs) : RRow w.drew base v rs := h
theorem rdM_stop {n : Nat} {s : SF} {t : List SF} (h : ¬ s.n = n) : rdM n (s :: t) = ⟨[], n, [], s :: t⟩ := rdM_end h
theorem TRow.kept2 {W W' : World} {row : Option Nat} {base : Nat} {v : Value} {l : List S} (h : TRow W base v l) (hg : W.grownBy W' row) (hr : ∀ r, row = some r → ∃ o : Obj, W.heap[r]? = some o ∧ o.isCells = false) : TRow W' base v l := by
  refine World.ownsRow.kept h hg ?_
  rcases h.2 with ⟨hv, _⟩ | ⟨g, cap, cur, hv, _, hgc, _⟩
  · left; rw [hv]; rfl
  · right
    rw [hv]
    intro e
    obtain ⟨o, ho, hc⟩ := hr g (by simpa [Value.ownBlock] using e.symm)
    rw [hgc] at ho; cases ho; cases hc
/-- what is cut, in its slice -/
def CutA (W : World) (n₀ C : Nat) (cv : Value) (cut : List S) : Prop := (cv = nilV ∧ cut = []) ∨ ∃ c gc, cv = .slice (some ⟨gc, 0, none⟩) 1 1 ∧ W.heap[gc]? = some (Obj.cells (stp c).toArray 182 (0, 0)) ∧ gc < n₀ ∧ gc ≠ C ∧ cut = [c]
/-- the contents between two rounds of the range -/
def CM (n₀ C : Nat) (fr nx : Int) (rv : Value) (rs : List Rec) (cv : Value) (cut : List S) (pre : List (Nat × SF)) (W : World) : Prop :=
  (∃ mv, W.heap[C]? = some (Obj.cells (ccells fr nx rv mv) 113 (0, 0)) ∧ TRow W n₀ mv (pre.map fun x => rmS x.2)) ∧ RRow W C rv rs ∧ CutA W n₀ C cv cut
theorem CM.own (n₀ C : Nat) (fr nx : Int) (rv : Value) (rs : List Rec) (cv : Value) (cut : List S) : Go.Own (CM n₀ C fr nx rv rs cv cut) := fun pre W W' row hs hg hr => by
  obtain ⟨⟨mv, h1, h2⟩, h3, h4⟩ := hs
  refine ⟨⟨mv, cells_kept h1 hg hr, h2.kept2 hg hr⟩, h3.kept hg hr, ?_⟩
  rcases h4 with h | ⟨c, gc, e1, e2, e3, e4, e5⟩
  · exact .inl h
  · exact .inr ⟨c, gc, e1, cells_kept e2 hg hr, e3, e4, e5⟩
theorem CM.below {n₀ C : Nat} {fr nx : Int} {rv : Value} {rs : List Rec} {cv : Value} {cut : List S} {pre : List (Nat × SF)} {W X : World} (h : CM n₀ C fr nx rv rs cv cut pre W) (hb : Below W.heap.size W X) : CM n₀ C fr nx rv rs cv cut pre X :=
  CM.own n₀ C fr nx rv rs cv cut pre W X none h ⟨hb.os, hb.tape, hb.output, hb.size, fun k hk _ => hb.block k hk⟩ (fun r e => by cases e)
theorem below_others {W X : World} (hb : Below W.heap.size W X) : KeepsOthers W X :=
  KeepsOthers.of_grownBy (row := none) ⟨hb.os, hb.tape, hb.output, hb.size, fun k hk _ => hb.block k hk⟩ (fun j o e => by cases e)
theorem Kc.of_below {n₀ C : Nat} {W X : World} (hb : Below W.heap.size W X) (hn : n₀ ≤ W.heap.size) : Kc n₀ C W X := ⟨hb.size, fun k hk _ => hb.block k (by omega)⟩
theorem ownsRow_base {w : World} {b b' : Nat} {e : TypeId} {size : Nat} {v : Value} {n : Nat} {xs : List Value} (h : w.ownsRow b e size v n xs) (hb : b' ≤ b) : w.ownsRow b' e size v n xs := by
  obtain ⟨h1, h2⟩ := h
  refine ⟨h1, ?_⟩
  rcases h2 with h2 | ⟨g, cap, cur, hv, hg, r⟩
  · exact .inl h2
  · exact .inr ⟨g, cap, cur, hv, Nat.le_trans hb hg, r⟩
theorem rrow_form {w : World} {base : Nat} {v : Value} {l : List Rec} (h : RRow w base v l) : ∃ ad n cap, v = .slice ad n cap := by
  rcases h.1.2 with ⟨hv, _⟩ | ⟨g, cap, cur, hv, _⟩
  · exact ⟨_, _, _, hv⟩
  · exact ⟨_, _, _, hv⟩
theorem trow_form {w : World} {base : Nat} {v : Value} {l : List S} (h : TRow w base v l) : ∃ ad n cap, v = .slice ad n cap := by
  rcases h.2 with ⟨hv, _⟩ | ⟨g, cap, cur, hv, _⟩
  · exact ⟨_, _, _, hv⟩
  · exact ⟨_, _, _, hv⟩
theorem CM.step {n₀ C base : Nat} {fr nx : Int} {rv : Value} {rs : List Rec} {cv : Value} {cut : List S} {pre : List (Nat × SF)} {W X w1 : World} (x : Nat × SF) (h : CM n₀ C fr nx rv rs cv cut pre W) (hb : Below W.heap.size W X) (hC : C < n₀) (hn : n₀ ≤ W.heap.size) (hbase : base ≤ C) (hB : Below base w1 W) (hl : pre.length ≤ 1000000)
    (mv : Value) (hm : W.heap[C]? = some (Obj.cells (ccells fr nx rv mv) 113 (0, 0))) :
    ∃ v' w', (∃ ad n cap, v' = .slice ad n cap) ∧ (Builtin.append_ #[111, 111] 111 #[mv, .slice (some ⟨X.heap.size, 0, none⟩) 1 1]).run Tryz.prog (X.alloc (.cells (rmc x.2) 182)) = .ok v' w' ∧ w'.heap[C]? = some (Obj.cells (ccells fr nx rv mv) 113 (0, 0)) ∧
      CM n₀ C fr nx rv rs cv cut (pre ++ [x]) (w'.setCell ⟨C, 3, none⟩ v') ∧ KeepsFrom n₀ W (w'.setCell ⟨C, 3, none⟩ v') ∧ Kc n₀ C W (w'.setCell ⟨C, 3, none⟩ v') ∧ Below base w1 (w'.setCell ⟨C, 3, none⟩ v') := by
  obtain ⟨⟨mv2, h1, h2⟩, h3, h4⟩ := h.below hb
  have hCX : C < X.heap.size := by have := hb.size; omega
  have e : mv2 = mv := by
    have h5 := (hb.block C (by omega)).trans hm
    rw [h5] at h1; injection h1 with h1; injection h1 with h1; simp at h1; exact h1.symm
  subst e
  obtain ⟨v', w', hr, hrow, hg⟩ := app_step X n₀ mv2 (pre.map fun x => rmS x.2) (rmS x.2) (by have := hb.size; omega) h2 (by simpa using hl)
  have hown : ∀ g, mv2.ownBlock = some g → n₀ ≤ g ∧ g < X.heap.size := fun g e => World.ownsRow.lt h2 g e
  have hown' : ∀ g, v'.ownBlock = some g → n₀ ≤ g := fun g e => (World.ownsRow.lt hrow g e).1
  have same : ∀ k o, X.heap[k]? = some o → mv2.ownBlock ≠ some k → w'.heap[k]? = some o := fun k o ho hne => by
    have hlt := (Array.getElem?_eq_some_iff.1 ho).1
    exact (hg.block k (by rw [sz_alloc]; omega) (fun e => hne e.symm)).trans (blk_alloc ho _)
  have hC7 := same C _ h1 (fun e => by have := (hown C e).1; omega)
  have hRX : ∀ g, rv.ownBlock = some g → g < X.heap.size := fun g e => (h3.1.lt g e).2
  have hrr7 : RRow w' C rv rs := by
    refine ⟨(h3.1.alloc (.cells (rmc x.2) 182)).kept hg ?_, h3.2⟩
    cases hmv : mv2.ownBlock with
    | none => cases hrv : rv.ownBlock with
      | none => exact .inl rfl
      | some g => exact .inr (by simp)
    | some j =>
      refine .inr (fun e => ?_)
      rcases h2.2 with ⟨hv, _⟩ | ⟨g, cap, cur, hv, _, hgc, _⟩
      · rw [hv] at hmv; simp [Value.ownBlock] at hmv
      · rw [hv] at hmv
        simp [Value.ownBlock] at hmv
        subst hmv
        exact h3.not_blk hgc (by decide) e
  have hgr : W.heap.size ≤ w'.heap.size := by have h5 := hb.size; have h6 := hg.size; rw [sz_alloc] at h6; omega
  refine ⟨v', w', trow_form hrow, hr, hC7, ⟨⟨v', heap_setCell_same w' C 3 _ 113 _ hC7, ?_⟩, hrr7.set_far _ (hrr7.not_blk hC7 (by decide)), ?_⟩, ?_, ?_, ?_⟩
  · rw [List.map_append]
    exact World.ownsRow.kept hrow (grown_setc w' C 3 v') (.inr (fun e => by have := hown' C e; omega))
  · rcases h4 with h | ⟨c, gc, e1, e2, e3, e4, e5⟩
    · exact .inl h
    · exact .inr ⟨c, gc, e1, (Below.heap_setCell w' ⟨C, 3, none⟩ _ gc e4).trans (same gc _ e2 (fun e => by have := (hown gc e).1; omega)), e3, e4, e5⟩
  · refine ((below_others hb).trans ((KeepsOthers.alloc X _).trans ((KeepsOthers.of_grownBy hg fun j o ej hj => ?_).trans (KeepsOthers.setCell _ _ _)))).from n₀
    rcases h2.2 with ⟨hv, _⟩ | ⟨g, cap, cur, hv, _, hgc, _⟩
    · rw [hv] at ej; simp [Value.ownBlock] at ej
    · rw [hv] at ej
      simp [Value.ownBlock] at ej
      subst ej
      rw [blk_alloc hgc _] at hj
      cases hj; rfl
  · refine (Kc.of_below hb hn).trans ⟨?_, fun k hk hkC => ?_⟩
    · have h6 := hg.size; rw [sz_alloc] at h6; simp [World.setCell]; omega
    · have hkX : k < X.heap.size := by have := hb.size; omega
      refine (Below.heap_setCell w' ⟨C, 3, none⟩ _ k hkC).trans ?_
      refine (hg.block k (by rw [sz_alloc]; omega) (fun e => by have := (hown k e.symm).1; omega)).trans ?_
      exact (Array.getElem?_push_lt hkX).trans (Array.getElem?_eq_getElem hkX).symm
  · have hbX : Below base w1 X := hB.trans (hb.mono (by have := hB.size; omega))
    exact ((hbX.alloc (by omega) _).grown hg (by rw [sz_alloc]; omega) (fun g e => by have := (hown g e).1; omega)).setCell (p := ⟨C, 3, none⟩) hbase _
/-- the last append: of what is cut -/
theorem CM.last {n₀ C : Nat} {fr nx : Int} {rv : Value} {rs : List Rec} {cv : Value} {cut : List S} {pre : List (Nat × SF)} {W w1 : World} {base : Nat} (h : CM n₀ C fr nx rv rs cv cut pre W) (hC : C < n₀) (hn : n₀ ≤ W.heap.size) (hbase : base ≤ C) (hB : Below base w1 W) (hl : pre.length ≤ 1000000) :
    ∃ mv v' w', (∃ ad n cap, v' = .slice ad n cap) ∧ W.heap[C]? = some (Obj.cells (ccells fr nx rv mv) 113 (0, 0)) ∧ (Builtin.append_ #[111, 111] 111 #[mv, cv]).run Tryz.prog W = .ok v' w' ∧ w'.heap[C]? = some (Obj.cells (ccells fr nx rv mv) 113 (0, 0)) ∧
      RRow (w'.setCell ⟨C, 3, none⟩ v') C rv rs ∧ TRow (w'.setCell ⟨C, 3, none⟩ v') n₀ v' ((pre.map fun x => rmS x.2) ++ cut) ∧ Below base w1 (w'.setCell ⟨C, 3, none⟩ v') ∧ KeepsOthers W (w'.setCell ⟨C, 3, none⟩ v') := by
  obtain ⟨⟨mv, h1, h2⟩, h3, h4⟩ := h
  obtain ⟨i0, hi, hz0, hz1, hz2⟩ := info_parts Tryz.info182s
  refine ⟨mv, ?_⟩
  have fin : ∀ v' w', TRow w' n₀ v' ((pre.map fun x => rmS x.2) ++ cut) → W.grownBy w' mv.ownBlock → ∃ x, x = (v', w') ∧ w'.heap[C]? = some (Obj.cells (ccells fr nx rv mv) 113 (0, 0)) ∧ RRow (w'.setCell ⟨C, 3, none⟩ v') C rv rs ∧ TRow (w'.setCell ⟨C, 3, none⟩ v') n₀ v' ((pre.map fun x => rmS x.2) ++ cut) ∧ Below base w1 (w'.setCell ⟨C, 3, none⟩ v') ∧ KeepsOthers W (w'.setCell ⟨C, 3, none⟩ v') := fun v' w' hrow hg => by
    have hown : ∀ g, mv.ownBlock = some g → n₀ ≤ g ∧ g < W.heap.size := fun g e => World.ownsRow.lt h2 g e
    have hown' : ∀ g, v'.ownBlock = some g → n₀ ≤ g := fun g e => (World.ownsRow.lt hrow g e).1
    have hC7 : w'.heap[C]? = some (Obj.cells (ccells fr nx rv mv) 113 (0, 0)) := (hg.block C (by omega) (fun e => by have := (hown C e.symm).1; omega)).trans h1
    have hrr7 : RRow w' C rv rs := by
      refine ⟨h3.1.kept hg ?_, h3.2⟩
      cases hmv : mv.ownBlock with
      | none => cases hrv : rv.ownBlock with
        | none => exact .inl rfl
        | some g => exact .inr (by simp)
      | some j =>
        refine .inr (fun e => ?_)
        rcases h2.2 with ⟨hv, _⟩ | ⟨g, cap, cur, hv, _, hgc, _⟩
        · rw [hv] at hmv; simp [Value.ownBlock] at hmv
        · rw [hv] at hmv
          simp [Value.ownBlock] at hmv
          subst hmv
          exact h3.not_blk hgc (by decide) e
    exact ⟨_, rfl, hC7, hrr7.set_far _ (hrr7.not_blk hC7 (by decide)), World.ownsRow.kept hrow (grown_setc w' C 3 v') (.inr (fun e => by have := hown' C e; omega)), (hB.grown hg (by have := hB.size; omega) (fun g e => by have := (hown g e).1; omega)).setCell (p := ⟨C, 3, none⟩) hbase _, (KeepsOthers.of_grownBy hg fun j o ej hj => by
      rcases h2.2 with ⟨hv, _⟩ | ⟨g, cap, cur, hv, _, hgc, _⟩
      · rw [hv] at ej; simp [Value.ownBlock] at ej
      · rw [hv] at ej
        simp [Value.ownBlock] at ej
        subst ej
        rw [hgc] at hj
        cases hj; rfl).trans (KeepsOthers.setCell _ _ _)⟩
  rcases h4 with ⟨rfl, rfl⟩ | ⟨c, gc, rfl, e2, e3, e4, rfl⟩
  · have hr := run_append_owned_none (P := Tryz.prog) (w := W) n₀ 111 111 182 i0 4 Tryz.under68s hi mv _ _ h2
    obtain ⟨x, rfl, a, b, c, d⟩ := fin mv W (by rw [List.append_nil]; exact h2) (World.grownBy.refl W _)
    exact ⟨mv, W, trow_form h2, h1, hr, a, b, c, d⟩
  · have hcell : ∀ j u, (stp c)[j]? = some u → W.cell? ((⟨gc, 0, none⟩ : Addr).add j) = some u := fun j u hj => by
      have h0 := cell_of_row _ gc j _ 182 (0, 0) e2
      rw [Addr.add_lit, Nat.zero_add, h0]
      simpa using hj
    obtain ⟨v', w', hr, ho, hg, _, _⟩ := run_append_own_at (P := Tryz.prog) W n₀ 111 111 182 i0 _ 4 48 Tryz.under68s hi hz0 hz1 hz2 rfl (by decide) mv _ _ h2 ⟨gc, 0, none⟩ 1 1 (stp c) (by simp) hcell (fun u hu => by
      simp only [List.mem_cons, List.not_mem_nil, or_false] at hu
      rcases hu with rfl | rfl | rfl | rfl <;> rfl) (by simp [maxLen]; omega) (by simp; omega) hn
    obtain ⟨x, rfl, a, b, c', d⟩ := fin v' w' (by unfold TRow; rw [stc_snoc, List.length_append]; exact ho) hg
    exact ⟨v', w', trow_form (by unfold TRow; rw [stc_snoc, List.length_append]; exact ho : TRow w' n₀ v' ((pre.map fun x => rmS x.2) ++ [c])), h1, hr, a, b, c', d⟩
set_option maxHeartbeats 4000000 in
theorem read_in (w : World) (ad : Option Addr) (n cap : Nat) (down : Bool) (fuse fault : Int) (fs : List F) (hi : Inp w w.heap.size ad n cap fs) (hR : Right fs) (hT : Tabs w) (h4 : 6 ≤ w.heap.size) :
    CallsIn Fence.wide 5 Tryz.prog 66 #[.agg (dcells (.slice ad n cap) down fuse fault)] w fun e w' => ∃ rv mv, e = .returned (.agg (ccells (fromM (filesM fs) : Nat) (rdF fs).nx rv mv)) ∧ RRow w' w.heap.size rv (rdF fs).rs ∧ TRow w' w.heap.size mv (mendM fs) ∧ Below w.heap.size w w' := by
  refine callsIn_of_wp_marks Tryz.func66 rfl trivial ?_ rfl
  simp only [Tryz.ntmps66, List.size_toArray, List.length_cons, List.length_nil, Nat.reduceAdd, Nat.reduceSub, Array.replicate_succ, Array.replicate_zero, List.push_toArray, List.append_toArray, List.nil_append, List.cons_append]
  have hn : n ≤ 1000 := by have h1 := hi.1; have h2 := hR.1; omega
  have hnm := right_names hR
  obtain ⟨W0, hW0⟩ : ∃ W, W = (w.alloc (.cells (dcells (.slice ad n cap) down fuse fault) 24)).alloc (.cells (ccells 0 0 nilV nilV) 113) := ⟨_, rfl⟩
  have hb0 : Below w.heap.size w W0 := by rw [hW0]; exact ((Below.refl _ w).alloc (Nat.le_refl _) _).alloc (by simp) _
  have hd0 : W0.heap[w.heap.size]? = some (Obj.cells (dcells (.slice ad n cap) down fuse fault) 24 (0, 0)) := by rw [hW0]; exact blk_alloc (blk_new w _) _
  have hr0 : W0.heap[w.heap.size + 1]? = some (Obj.cells (ccells 0 0 nilV nilV) 113 (0, 0)) := by
    have := blk_new (w.alloc (.cells (dcells (.slice ad n cap) down fuse fault) 24)) (.cells (ccells 0 0 nilV nilV) 113)
    rw [hW0]; simpa using this
  have Hi := Lib.hid (hi.under hb0)
  have HR := Lib.hid hR
  have HT := Lib.hid (hT.under hb0)
  have Hb0 := Lib.hid hb0
  have Hd := Lib.hid hd0
  have Hr := Lib.hid hr0
  have Hnm := Lib.hid hnm
  obtain ⟨d0, d1, d2, d3⟩ := box4' hd0
  clear hi hR hT hb0 hd0 hr0 hnm
  gi_upto_region 1 with fail
  rw [← hW0]
  clear hW0
  gi_wp2_with fail
  refine ⟨trivial, ?_⟩
  refine (callsIn_wide.2 (files_any W0 ad n cap down fuse fault fs Hi.out hn Hnm.out HT.out)).mono ?_
  rintro e w1 ⟨v, rfl, hrow, hb1⟩
  clear d0 d1 d2 d3
  obtain ⟨ad1, cap1, rfl, hpl⟩ := hrow.pl
  obtain ⟨L, hL⟩ : ∃ L, filesM fs = L := ⟨_, rfl⟩
  rw [hL] at hpl ⊢
  obtain ⟨m, hm⟩ : ∃ m, L.length = m := ⟨_, rfl⟩
  rw [hm]
  have Hm := Lib.hid hm
  have HL := Lib.hid hL
  have Hpl := Lib.hid hpl
  have Hb1 := Lib.hid (Hb0.out.trans (hb1.mono Hb0.out.size))
  have HT1 := Lib.hid (HT.out.under hb1)
  have Hr1 := Lib.hid ((hb1.block _ (Array.getElem?_eq_some_iff.1 Hr.out).1).trans Hr.out)
  have hm64 : m ≤ 1000 := by have := filesM_len fs; have h2 := HR.out.1; rw [hL] at this; omega
  clear hb1 hrow hL hm hpl Hd Hr HT Hi
  gi_upto_if 14 with fail
  gi_cut [] from 15 (fun wc => wc.heap[w1.heap.size]? = some (Obj.cells (ccells (fromM L : Nat) 0 nilV nilV) 113 (0, 0)) ∧ Below w1.heap.size w1 wc)
  case first =>
    by_cases hne : L = []
    · have hm0 : m = 0 := by have := Hm.out; rw [hne] at this; simpa using this.symm
      have hfr : fromM L = 1 := by rw [hne]; rfl
      have Hfr := Lib.hid hfr
      subst hm0
      clear hne hfr
      gi_wp2
      gi_meet
      case rel => exact ⟨by rw [Hfr.out]; exact blk_new w1 _, (Below.refl _ w1).alloc (Nat.le_refl _) _⟩
    · obtain ⟨g, rfl, hg1, hg2, hg3, hat⟩ := Hpl.out hne
      obtain ⟨s, hs⟩ : ∃ s, L[0]? = some s := ⟨L[0]'(List.length_pos_iff.2 hne), by simp⟩
      obtain ⟨q0, q1, q2, q3⟩ := hat 0 s hs
      simp only [Nat.zero_mul, Nat.zero_add] at q0 q1 q2 q3
      have hfr : fromM L = s.n := by cases L with
        | nil => exact absurd rfl hne
        | cons x t => simp at hs; subst hs; rfl
      have Hfr := Lib.hid hfr
      obtain ⟨k, rfl⟩ : ∃ k, m = k + 1 := ⟨m - 1, by have := Hm.out; have := List.length_pos_iff.2 hne; omega⟩
      have f0 := frozen_of_row (w1.alloc (Obj.cells #[Value.int IntKind.u64 1, Value.int IntKind.u64 0, Value.slice none 0 0, Value.slice none 0 0] 113)) w1.heap.size 0 _ 113 (blk_new w1 _)
      clear hne hfr hat hs
      gi_wp2
      gi_meet
      case rel => exact ⟨by rw [Hfr.out]; exact blk_new w1 _, (Below.refl _ w1).alloc (Nat.le_refl _) _⟩
  case rest =>
    obtain ⟨hC, hbc⟩ := hcut
    have HC := Lib.hid hC
    have Hbc := Lib.hid hbc
    have Hplc := Lib.hid (Hpl.out.under hbc)
    have HTc := Lib.hid (HT1.out.under hbc)
    have Hrc := Lib.hid ((hbc.block _ (Array.getElem?_eq_some_iff.1 Hr1.out).1).trans Hr1.out)
    obtain ⟨c0, c1, c2, c3⟩ := box4' hC
    have hltC := (Array.getElem?_eq_some_iff.1 hC).1
    have hltR := (Array.getElem?_eq_some_iff.1 Hrc.out).1
    have hf1 := frozen_of_row wc w1.heap.size 1 _ 113 hC
    have hfb := fromM_bd L
    have hC2 := heap_setCell_same wc w1.heap.size 1 _ 113 (.int .u64 (fromM L : Nat)) hC
    have HC2 := Lib.hid hC2
    have Hb2 := Lib.hid (hbc.setCell (p := ⟨w1.heap.size, 1, none⟩) (Nat.le_refl _) (.int .u64 (fromM L : Nat)))
    clear hC hbc hC2
    gi_wp2
    obtain ⟨W3, hW3⟩ : ∃ W, W = wc.setCell ⟨w1.heap.size, 1, none⟩ (.int .u64 (fromM L : Nat)) := ⟨_, rfl⟩
    rw [← hW3] at HC2 Hb2
    try rw [← hW3]
    clear hW3
    refine Code.wpIn_mono (Q := fun e a' w' => e = .exit 0 ∧ ∃ lv cv u6 u7 u8 u9 u10 u11 u12 u13 u14 u15 u16 u17 u18 u19 u20 u21 u22 u23 u24 u25 u26 u27 u28 u29 u30 u31 u32 u33 u34 u35 u36 u37 u38 u39 u40 u41 u42 u43 u44 u45 u46 u47 u48 u49 u50 u51 u52 u53 u54 u55 u56 u57 u58 u59 u60 u61 u62 u63 u64 u65 u66 u67 u68 u69 u70 u71 u72 u73 u74 u75 u76 u77 u78, a' = ⟨#[.agg (dcells (.slice ad n cap) down fuse fault), .pointer (some ⟨w.heap.size, 0, none⟩), .pointer (some ⟨w.heap.size + 1, 0, none⟩), lv, .pointer (some ⟨w1.heap.size, 0, none⟩), cv, u6, u7, u8, u9, u10, u11, u12, u13, u14, u15, u16, u17, u18, u19, u20, u21, u22, u23, u24, u25, u26, u27, u28, u29, u30, u31, u32, u33, u34, u35, u36, u37, u38, u39, u40, u41, u42, u43, u44, u45, u46, u47, u48, u49, u50, u51, u52, u53, u54, u55, u56, u57, u58, u59, u60, u61, u62, u63, u64, u65, u66, u67, u68, u69, u70, u71, u72, u73, u74, u75, u76, u77, u78], []⟩ ∧ RdD w1.heap.size w1.heap.size w1 ad1 cap1 L (fromM L) (rdM (fromM L) L) lv cv w') ?_ ?loop
    case loop =>
      gi_loopw [3, 5] (fun lv cv wr => RdR w1.heap.size w1.heap.size w1 ad1 cap1 m L (fromM L) lv cv wr) (fun lv _ _ => lenOfV lv)
      case atStart => exact ⟨0, ad1, cap1, fromM L, [], nilV, Nat.zero_le _, by rw [Nat.sub_zero], fun hne => by
          obtain ⟨g, e, _⟩ := Hplc.out hne
          exact ⟨g, e, fun _ => by rw [e, Nat.zero_mul], rfl⟩, fromM_bd L, Nat.zero_le _, HC2.out, ⟨World.ownsRow_nil _ _ _ _, fun _ => rfl⟩, Hb2.out, .inl ⟨rfl, by simp⟩⟩
      case round =>
        obtain ⟨k, adk, capk, n0, rs, rv, hk, rfl, had, hn0, hrs, hC, hrr, hbel, hcut⟩ := hrel
        obtain ⟨p, hp⟩ : ∃ p, m - k = p := ⟨_, rfl⟩
        rw [hp]
        have Had := Lib.hid had
        have Hrr := Lib.hid hrr
        have Hbel := Lib.hid hbel
        have HCr := Lib.hid hC
        have hlC := (Array.getElem?_eq_some_iff.1 hC).1
        clear c0 c1 c2 c3 hf1 hltC hltR
        obtain ⟨c0, c1, c2, c3⟩ := box4' hC
        clear had hrr hbel hC
        rcases hcut with ⟨rfl, hrd⟩ | ⟨c, gc, rfl, hgc, hCg, hrd⟩
        · have Hrd := Lib.hid hrd
          clear hrd
          by_cases hp0 : p = 0
          · have hdr : L.drop k = [] := List.drop_of_length_le (by have := Hm.out; omega)
            have Hdr := Lib.hid hdr
            subst hp0
            clear hdr hp
            gi_wp2
            refine Code.wpIn_mono (Q := fun e a' w' => e = .normal ∧ ∃ v23 v24 v25 v26 v27 v28 v29 v30 v31 v32 v33 v34 v35 v36 v37 v38, a' = ⟨#[.agg (dcells (.slice ad n cap) down fuse fault), .pointer (some ⟨w.heap.size, 0, none⟩), .pointer (some ⟨w.heap.size + 1, 0, none⟩), .slice adk 0 capk, .pointer (some ⟨w1.heap.size, 0, none⟩), nilV, u6, undef, undef, .agg #[.slice ad n cap, .bool down, .int .i64 fuse, .int .i64 fault], .slice ad1 m cap1, .agg #[.int .u64 1, .int .u64 0, .slice none 0 0, .slice none 0 0], .slice ad1 m cap1, .int .i64 (m : Int), .bool (decide (0 < m)), u15, u16, u17, u18, u19, .pointer (some ⟨w1.heap.size, 0, none⟩), .int .u64 (fromM L : Nat), .pointer (some ⟨w1.heap.size, 1, none⟩), v23, v24, v25, v26, v27, v28, v29, v30, v31, v32, v33, v34, v35, v36, v37, v38, .bool false, u40, u41, u42, u43, u44, u45, u46, u47, u48, u49, u50, u51, u52, u53, u54, u55, u56, u57, u58, u59, u60, u61, u62, u63, u64, u65, u66, u67, u68, u69, u70, u71, u72, u73, u74, u75, u76, u77, u78], []⟩ ∧ w' = wr.drew) ?_ ?rega
            case rega =>
              refine wpIn_region_any (by kernel_rfl) ?_
              change wpAnyIn _ _ _ _ _ _ _ _ _ wr.drew
              refine wpAnyIn_take (i := 0) (v := ?va1) rfl rfl (by kernel_rfl) (by kernel_rfl) (by kernel_rfl) (fun _ _ _ h => nomatch h.1) ⟨Or.inl ⟨by kernel_rfl, ?ha1⟩, fun _ => rfl⟩ ?ra1
              case ha1 => (intro w; go_simp; first | done | (with_reducible rfl))
              refine wpAnyIn_take (i := 1) (v := ?va2) rfl rfl (by kernel_rfl) (by kernel_rfl) (by kernel_rfl) (fun _ _ _ h => nomatch h.1) ⟨Or.inl ⟨by kernel_rfl, ?ha2⟩, fun _ => rfl⟩ ?ra2
              case ha2 => (intro w; go_simp; first | done | (with_reducible rfl))
              refine wpAnyIn_take (i := 2) (v := ?va3) rfl rfl (by kernel_rfl) (by kernel_rfl) (by kernel_rfl) (fun _ _ _ h => nomatch h.1) ⟨Or.inl ⟨by kernel_rfl, ?ha3⟩, fun _ => rfl⟩ ?ra3
              case ha3 => (intro w; go_simp; first | done | (with_reducible rfl))
              refine wpAnyIn_take (i := 3) (v := ?va4) rfl rfl (by kernel_rfl) (by kernel_rfl) (by kernel_rfl) (fun _ _ _ h => nomatch h.1) ⟨Or.inl ⟨by kernel_rfl, ?ha4⟩, fun _ => rfl⟩ ?ra4
              case ha4 => (intro w; go_simp; first | done | (with_reducible rfl))
              refine wpAnyIn_take (i := 4) (v := ?va5) rfl rfl (by kernel_rfl) (by kernel_rfl) (by kernel_rfl) (fun _ _ _ h => nomatch h.1) ⟨Or.inl ⟨by kernel_rfl, ?ha5⟩, fun _ => rfl⟩ ?ra5
              case ha5 => (intro w; go_simp; first | done | (with_reducible rfl))
              refine wpAnyIn_take (i := 5) (v := ?va6) rfl rfl (by kernel_rfl) (by kernel_rfl) (by kernel_rfl) (fun _ _ _ h => nomatch h.1) ⟨Or.inl ⟨by kernel_rfl, ?ha6⟩, fun _ => rfl⟩ ?ra6
              case ha6 => (intro w; go_simp; first | done | (with_reducible rfl))
              refine wpAnyIn_take (i := 6) (v := ?va7) rfl rfl (by kernel_rfl) (by kernel_rfl) (by kernel_rfl) (fun _ _ _ h => nomatch h.1) ⟨Or.inl ⟨by kernel_rfl, ?ha7⟩, fun _ => rfl⟩ ?ra7
              case ha7 => (intro w; go_simp; first | done | (with_reducible rfl))
              refine wpAnyIn_take (i := 7) (v := ?va8) rfl rfl (by kernel_rfl) (by kernel_rfl) (by kernel_rfl) (fun _ _ _ h => nomatch h.1) ⟨Or.inl ⟨by kernel_rfl, ?ha8⟩, fun _ => rfl⟩ ?ra8
              case ha8 => (intro w; go_simp; first | done | (with_reducible rfl))
              refine wpAnyIn_take (i := 8) (v := ?va9) rfl rfl (by kernel_rfl) (by kernel_rfl) (by kernel_rfl) (fun _ _ _ h => nomatch h.1) ⟨Or.inl ⟨by kernel_rfl, ?ha9⟩, fun _ => rfl⟩ ?ra9
              case ha9 => (intro w; go_simp; first | done | (with_reducible rfl))
              refine wpAnyIn_take (i := 9) (v := undef) rfl rfl (by kernel_rfl) (by kernel_rfl) (by kernel_rfl) (fun _ _ _ h => nomatch h.1) ⟨Or.inr ⟨by kernel_rfl, rfl⟩, fun _ => rfl⟩ ?_
              refine wpAnyIn_take (i := 10) (v := undef) rfl rfl (by kernel_rfl) (by kernel_rfl) (by kernel_rfl) (fun _ _ _ h => nomatch h.1) ⟨Or.inr ⟨by kernel_rfl, rfl⟩, fun _ => rfl⟩ ?_
              refine wpAnyIn_take (i := 11) (v := undef) rfl rfl (by kernel_rfl) (by kernel_rfl) (by kernel_rfl) (fun _ _ _ h => nomatch h.1) ⟨Or.inr ⟨by kernel_rfl, rfl⟩, fun _ => rfl⟩ ?_
              refine wpAnyIn_take (i := 12) (v := undef) rfl rfl (by kernel_rfl) (by kernel_rfl) (by kernel_rfl) (fun _ _ _ h => nomatch h.1) ⟨Or.inr ⟨by kernel_rfl, rfl⟩, fun _ => rfl⟩ ?_
              refine wpAnyIn_take (i := 13) (v := undef) rfl rfl (by kernel_rfl) (by kernel_rfl) (by kernel_rfl) (fun _ _ _ h => nomatch h.1) ⟨Or.inr ⟨by kernel_rfl, rfl⟩, fun _ => rfl⟩ ?_
              refine wpAnyIn_take (i := 14) (v := undef) rfl rfl (by kernel_rfl) (by kernel_rfl) (by kernel_rfl) (fun _ _ _ h => nomatch h.1) ⟨Or.inr ⟨by kernel_rfl, rfl⟩, fun _ => rfl⟩ ?_
              refine wpAnyIn_take (i := 15) (v := undef) rfl rfl (by kernel_rfl) (by kernel_rfl) (by kernel_rfl) (fun _ _ _ h => nomatch h.1) ⟨Or.inr ⟨by kernel_rfl, rfl⟩, fun _ => rfl⟩ ?_
              refine wpAnyIn_take (i := 16) (v := ?va17) rfl rfl (by kernel_rfl) (by kernel_rfl) (by kernel_rfl) (fun _ _ _ h => nomatch h.1) ⟨Or.inl ⟨by kernel_rfl, ?ha17⟩, fun _ => rfl⟩ ?ra17
              case ha17 => (intro w; go_simp; first | done | (with_reducible rfl))
              refine wpAnyIn_done (by kernel_rfl) ?_ _
              try go_simp
              all_goals exact ⟨rfl, _, _, _, _, _, _, _, _, _, _, _, _, _, _, _, _, rfl, rfl⟩
            intro e a' w5 hq5
            obtain ⟨rfl, hq5⟩ := hq5
            obtain ⟨v23, hq5⟩ := hq5
            obtain ⟨v24, hq5⟩ := hq5
            obtain ⟨v25, hq5⟩ := hq5
            obtain ⟨v26, hq5⟩ := hq5
            obtain ⟨v27, hq5⟩ := hq5
            obtain ⟨v28, hq5⟩ := hq5
            obtain ⟨v29, hq5⟩ := hq5
            obtain ⟨v30, hq5⟩ := hq5
            obtain ⟨v31, hq5⟩ := hq5
            obtain ⟨v32, hq5⟩ := hq5
            obtain ⟨v33, hq5⟩ := hq5
            obtain ⟨v34, hq5⟩ := hq5
            obtain ⟨v35, hq5⟩ := hq5
            obtain ⟨v36, hq5⟩ := hq5
            obtain ⟨v37, hq5⟩ := hq5
            obtain ⟨v38, hq5⟩ := hq5
            obtain ⟨rfl, rfl⟩ := hq5
            gi_wp2
            refine ⟨trivial, _, _, _, _, _, _, _, _, _, _, _, _, _, _, _, _, _, _, _, _, _, _, _, _, _, _, _, _, _, _, _, _, _, _, _, _, _, _, _, _, _, _, _, _, _, _, _, _, _, _, _, _, _, _, _, _, _, _, _, _, _, _, _, _, _, _, _, _, _, _, _, _, _, _, _, rfl, adk, capk, rv, k, ?_⟩
            rw [Hrd.out, Hdr.out]
            exact ⟨rfl, rfl, fun h => absurd rfl h, HCr.out, by simpa [rdM] using Hrr.out.drw, Hbel.out.drew, .inl ⟨rfl, rfl⟩⟩
          · obtain ⟨p2, rfl⟩ : ∃ p2, p = p2 + 1 := ⟨p - 1, by omega⟩
            have hpI : (0 : Int) < ((p2 + 1 : Nat) : Int) := by omega
            have hne : L ≠ [] := by rintro rfl; have := Hm.out; simp at this; omega
            obtain ⟨g, had1, hadk, hcap⟩ := Had.out hne
            obtain rfl := hadk (by omega)
            clear hadk
            obtain ⟨g', e', hg1, hg2, hg3, hat⟩ := Hpl.out hne
            obtain rfl : g = g' := by rw [had1] at e'; injection e' with e'; injection e'
            obtain ⟨s, hs⟩ : ∃ s, L[k]? = some s := ⟨L[k]'(by have := Hm.out; omega), by simp⟩
            have hkl : k < L.length := (List.getElem?_eq_some_iff.1 hs).1
            have hstep : L.drop k = s :: L.drop (k + 1) := by
              rw [List.drop_eq_getElem_cons hkl]
              congr 1
              exact (List.getElem?_eq_some_iff.1 hs).2
            obtain ⟨q0, q1, q2, q3⟩ := (hat.below hg2 Hbel.out) k s hs
            simp only [Nat.zero_add] at q0 q1 q2 q3
            have hgr : g < wr.heap.size := Nat.lt_of_lt_of_le hg2 Hbel.out.size
            have hsm : s ∈ filesM fs := by rw [HL.out]; exact List.mem_of_getElem? hs
            have hsok := HR.out.ok _ (filesM_mem hsm).1
            have hdz : s.f.data.size ≤ 262144 := hsok.2.1
            have Hstep := Lib.hid hstep
            have Hne := Lib.hid hne
            have Hcap := Lib.hid hcap
            have Hp := Lib.hid hp
            have Had1 := Lib.hid had1
            have hsn := s.hn
            clear hstep hne hcap hp had1 e' hsm hsok Had
            by_cases hsE : s.n = n0
            · subst hsE
              gi_wp2
              gi_region
              gi_wp2_with fail
              refine ⟨trivial, ?_⟩
              refine (callsIn_wide.2 (callsIn_wide.1 (cadd_in wr.drew w1.heap.size w1.heap.size (fromM L : Nat) s.n rv nilV rs s.f.name s.f.data s.f.syn (s.n : Int) (by have := Hb1.out.size; omega) (Nat.le_refl _) (HT1.out.under Hbel.out.drew) HCr.out Hrr.out.drw (by omega) hn0 (by omega)))).mono ?_
              rintro e w4 ⟨rfl, ⟨rv4, hC4, hrr4⟩, hb4⟩
              obtain ⟨q0, q1, q2, q3⟩ := (hat.below hg2 (Hbel.out.drew.trans hb4)) k s hs
              simp only [Nat.zero_add] at q0 q1 q2 q3
              have hgr4 : g < w4.heap.size := Nat.lt_of_lt_of_le hg2 (Hbel.out.drew.trans hb4).size
              have Hrr4 := Lib.hid hrr4
              have HC4 := Lib.hid hC4
              have Hb4 := Lib.hid (Hbel.out.drew.trans hb4)
              have hfl := framesL_len s.f.data s.n
              have hfbd := frames_bd s.f.data s.n hn0
              have hsle := sum_le s.f.data s.n
              have hlC4 := (Array.getElem?_eq_some_iff.1 hC4).1
              have hcapk : capk = (capk - 1) + 1 := by have := Hcap.out; have := Hp.out; have := Hm.out; omega
              obtain ⟨capj, hcapj⟩ : ∃ j, capk - 1 = j := ⟨_, rfl⟩
              rw [hcapj] at hcapk
              subst hcapk
              have Hcapj := Lib.hid hcapj
              obtain ⟨fl, hfl2⟩ : ∃ x, framesL s.f.data s.n = x := ⟨_, rfl⟩
              rw [hfl2] at hfl hfbd hsle Hrr4 HC4 ⊢
              have Hfl := Lib.hid hfl2
              obtain ⟨z, hz⟩ : ∃ z, sumL fl = z := ⟨_, rfl⟩
              rw [hz] at hsle ⊢
              have Hz := Lib.hid hz
              clear hrr4 hC4 hb4 hat hs hcapj hfl2 hz c0 c1 c2 c3
              by_cases hlt : z < s.f.data.size
              · have Hlt := Lib.hid hlt
                gi_wp2
                go_roundw
                case rel =>
                  refine ⟨k + 1, _, capj, s.n + fl.length, rs ++ fl, rv4, by have := Hp.out; omega, by rw [show m - (k + 1) = p2 from by have := Hp.out; omega], fun _ => ⟨g, Had1.out, fun h => by rw [if_neg (by have := Hcap.out; have := Hcapj.out; have := Hm.out; omega), Nat.add_mul, Nat.one_mul], by have := Hcap.out; have := Hcapj.out; omega⟩, hfbd, by simp; omega, ?_, ?_, ?_, .inr ⟨⟨4, s.f.name, ⟨#[]⟩, (z : Nat)⟩, w4.heap.size, rfl, ?_, hlC4, ?_⟩⟩
                  · exact blk_alloc HC4.out _
                  · exact ⟨Hrr4.out.1.alloc _, Hrr4.out.2⟩
                  · exact Hb4.out.alloc (by have := Hb4.out.size; omega) _
                  · exact blk_new w4 _
                  · rw [Hrd.out, Hstep.out, rdM_torn rfl (by rw [Hfl.out, Hz.out]; exact Hlt.out), Hfl.out, Hz.out]
                case measure => simp [lenOfV]
              · have Hlt := Lib.hid hlt
                gi_wp2
                go_roundw
                case rel =>
                  refine ⟨k + 1, _, capj, s.n + fl.length, rs ++ fl, rv4, by have := Hp.out; omega, by rw [show m - (k + 1) = p2 from by have := Hp.out; omega], fun _ => ⟨g, Had1.out, fun h => by rw [if_neg (by have := Hcap.out; have := Hcapj.out; have := Hm.out; omega), Nat.add_mul, Nat.one_mul], by have := Hcap.out; have := Hcapj.out; omega⟩, hfbd, by simp; omega, HC4.out, Hrr4.out, Hb4.out, .inl ⟨rfl, ?_⟩⟩
                  rw [Hrd.out, Hstep.out, rdM_on rfl (by rw [Hfl.out, Hz.out]; exact Hlt.out), Hfl.out]
                  simp
                case measure => simp [lenOfV]
            · have hcmp : ¬ ((s.n : Int) = (n0 : Int)) := by omega
              have Hcmp := Lib.hid hcmp
              have HsE := Lib.hid hsE
              clear hsE
              gi_wp2
              gi_region
              gi_wp2
              refine ⟨trivial, _, _, _, _, _, _, _, _, _, _, _, _, _, _, _, _, _, _, _, _, _, _, _, _, _, _, _, _, _, _, _, _, _, _, _, _, _, _, _, _, _, _, _, _, _, _, _, _, _, _, _, _, _, _, _, _, _, _, _, _, _, _, _, _, _, _, _, _, _, _, _, _, _, _, _, rfl, some ⟨g, k * 4, none⟩, capk, rv, k, ?_⟩
              rw [Hrd.out, Hstep.out, rdM_end HsE.out]
              exact ⟨rfl, by rw [← Hstep.out, List.length_drop, Hm.out, Hp.out], fun _ => ⟨g, Had1.out, rfl⟩, HCr.out, by simpa using Hrr.out.drw, Hbel.out.drew, .inl ⟨rfl, rfl⟩⟩
        · have Hrd := Lib.hid hrd
          have Hgc := Lib.hid hgc
          have Hp := Lib.hid hp
          clear hrd hgc hp
          gi_wp2
          refine Code.wpIn_mono (Q := fun e a' w' => e = .normal ∧ ∃ v23 v24 v25 v26 v27 v28 v29 v30 v31 v32 v33 v34 v35 v36 v37 v38, a' = ⟨#[.agg (dcells (.slice ad n cap) down fuse fault), .pointer (some ⟨w.heap.size, 0, none⟩), .pointer (some ⟨w.heap.size + 1, 0, none⟩), .slice adk p capk, .pointer (some ⟨w1.heap.size, 0, none⟩), .slice (some ⟨gc, 0, none⟩) 1 1, u6, undef, undef, .agg #[.slice ad n cap, .bool down, .int .i64 fuse, .int .i64 fault], .slice ad1 m cap1, .agg #[.int .u64 1, .int .u64 0, .slice none 0 0, .slice none 0 0], .slice ad1 m cap1, .int .i64 (m : Int), .bool (decide (0 < m)), u15, u16, u17, u18, u19, .pointer (some ⟨w1.heap.size, 0, none⟩), .int .u64 (fromM L : Nat), .pointer (some ⟨w1.heap.size, 1, none⟩), v23, v24, v25, v26, v27, v28, v29, v30, v31, v32, v33, v34, v35, v36, v37, v38, .bool false, u40, u41, u42, u43, u44, u45, u46, u47, u48, u49, u50, u51, u52, u53, u54, u55, u56, u57, u58, u59, u60, u61, u62, u63, u64, u65, u66, u67, u68, u69, u70, u71, u72, u73, u74, u75, u76, u77, u78], []⟩ ∧ w' = wr.drew) ?_ ?regd
          case regd =>
            refine wpIn_region_any (by kernel_rfl) ?_
            change wpAnyIn _ _ _ _ _ _ _ _ _ wr.drew
            refine wpAnyIn_take (i := 0) (v := ?vd1) rfl rfl (by kernel_rfl) (by kernel_rfl) (by kernel_rfl) (fun _ _ _ h => nomatch h.1) ⟨Or.inl ⟨by kernel_rfl, ?hd1⟩, fun _ => rfl⟩ ?rd1
            case hd1 => (intro w; go_simp; first | done | (with_reducible rfl))
            refine wpAnyIn_take (i := 1) (v := ?vd2) rfl rfl (by kernel_rfl) (by kernel_rfl) (by kernel_rfl) (fun _ _ _ h => nomatch h.1) ⟨Or.inl ⟨by kernel_rfl, ?hd2⟩, fun _ => rfl⟩ ?rd2
            case hd2 => (intro w; go_simp; first | done | (with_reducible rfl))
            refine wpAnyIn_take (i := 2) (v := ?vd3) rfl rfl (by kernel_rfl) (by kernel_rfl) (by kernel_rfl) (fun _ _ _ h => nomatch h.1) ⟨Or.inl ⟨by kernel_rfl, ?hd3⟩, fun _ => rfl⟩ ?rd3
            case hd3 => (intro w; go_simp; first | done | (with_reducible rfl))
            refine wpAnyIn_take (i := 3) (v := ?vd4) rfl rfl (by kernel_rfl) (by kernel_rfl) (by kernel_rfl) (fun _ _ _ h => nomatch h.1) ⟨Or.inl ⟨by kernel_rfl, ?hd4⟩, fun _ => rfl⟩ ?rd4
            case hd4 => (intro w; go_simp; first | done | (with_reducible rfl))
            refine wpAnyIn_take (i := 4) (v := undef) rfl rfl (by kernel_rfl) (by kernel_rfl) (by kernel_rfl) (fun _ _ _ h => nomatch h.1) ⟨Or.inr ⟨by kernel_rfl, rfl⟩, fun _ => rfl⟩ ?_
            refine wpAnyIn_take (i := 5) (v := undef) rfl rfl (by kernel_rfl) (by kernel_rfl) (by kernel_rfl) (fun _ _ _ h => nomatch h.1) ⟨Or.inr ⟨by kernel_rfl, rfl⟩, fun _ => rfl⟩ ?_
            refine wpAnyIn_take (i := 6) (v := undef) rfl rfl (by kernel_rfl) (by kernel_rfl) (by kernel_rfl) (fun _ _ _ h => nomatch h.1) ⟨Or.inr ⟨by kernel_rfl, rfl⟩, fun _ => rfl⟩ ?_
            refine wpAnyIn_take (i := 7) (v := ?vd8) rfl rfl (by kernel_rfl) (by kernel_rfl) (by kernel_rfl) (fun _ _ _ h => nomatch h.1) ⟨Or.inl ⟨by kernel_rfl, ?hd8⟩, fun _ => rfl⟩ ?rd8
            case hd8 => (intro w; go_simp; first | done | (with_reducible rfl))
            refine wpAnyIn_take (i := 8) (v := ?vd9) rfl rfl (by kernel_rfl) (by kernel_rfl) (by kernel_rfl) (fun _ _ _ h => nomatch h.1) ⟨Or.inl ⟨by kernel_rfl, ?hd9⟩, fun _ => rfl⟩ ?rd9
            case hd9 => (intro w; go_simp; first | done | (with_reducible rfl))
            refine wpAnyIn_take (i := 9) (v := undef) rfl rfl (by kernel_rfl) (by kernel_rfl) (by kernel_rfl) (fun _ _ _ h => nomatch h.1) ⟨Or.inr ⟨by kernel_rfl, rfl⟩, fun _ => rfl⟩ ?_
            refine wpAnyIn_take (i := 10) (v := undef) rfl rfl (by kernel_rfl) (by kernel_rfl) (by kernel_rfl) (fun _ _ _ h => nomatch h.1) ⟨Or.inr ⟨by kernel_rfl, rfl⟩, fun _ => rfl⟩ ?_
            refine wpAnyIn_take (i := 11) (v := undef) rfl rfl (by kernel_rfl) (by kernel_rfl) (by kernel_rfl) (fun _ _ _ h => nomatch h.1) ⟨Or.inr ⟨by kernel_rfl, rfl⟩, fun _ => rfl⟩ ?_
            refine wpAnyIn_take (i := 12) (v := undef) rfl rfl (by kernel_rfl) (by kernel_rfl) (by kernel_rfl) (fun _ _ _ h => nomatch h.1) ⟨Or.inr ⟨by kernel_rfl, rfl⟩, fun _ => rfl⟩ ?_
            refine wpAnyIn_take (i := 13) (v := undef) rfl rfl (by kernel_rfl) (by kernel_rfl) (by kernel_rfl) (fun _ _ _ h => nomatch h.1) ⟨Or.inr ⟨by kernel_rfl, rfl⟩, fun _ => rfl⟩ ?_
            refine wpAnyIn_take (i := 14) (v := undef) rfl rfl (by kernel_rfl) (by kernel_rfl) (by kernel_rfl) (fun _ _ _ h => nomatch h.1) ⟨Or.inr ⟨by kernel_rfl, rfl⟩, fun _ => rfl⟩ ?_
            refine wpAnyIn_take (i := 15) (v := undef) rfl rfl (by kernel_rfl) (by kernel_rfl) (by kernel_rfl) (fun _ _ _ h => nomatch h.1) ⟨Or.inr ⟨by kernel_rfl, rfl⟩, fun _ => rfl⟩ ?_
            refine wpAnyIn_take (i := 16) (v := ?vd17) rfl rfl (by kernel_rfl) (by kernel_rfl) (by kernel_rfl) (fun _ _ _ h => nomatch h.1) ⟨Or.inl ⟨by kernel_rfl, ?hd17⟩, fun _ => rfl⟩ ?rd17
            case hd17 => (intro w; go_simp; first | done | (with_reducible rfl))
            refine wpAnyIn_done (by kernel_rfl) ?_ _
            try go_simp
            all_goals exact ⟨rfl, _, _, _, _, _, _, _, _, _, _, _, _, _, _, _, _, rfl, rfl⟩
          intro e a' w5 hq5
          obtain ⟨rfl, hq5⟩ := hq5
          obtain ⟨v23, hq5⟩ := hq5
          obtain ⟨v24, hq5⟩ := hq5
          obtain ⟨v25, hq5⟩ := hq5
          obtain ⟨v26, hq5⟩ := hq5
          obtain ⟨v27, hq5⟩ := hq5
          obtain ⟨v28, hq5⟩ := hq5
          obtain ⟨v29, hq5⟩ := hq5
          obtain ⟨v30, hq5⟩ := hq5
          obtain ⟨v31, hq5⟩ := hq5
          obtain ⟨v32, hq5⟩ := hq5
          obtain ⟨v33, hq5⟩ := hq5
          obtain ⟨v34, hq5⟩ := hq5
          obtain ⟨v35, hq5⟩ := hq5
          obtain ⟨v36, hq5⟩ := hq5
          obtain ⟨v37, hq5⟩ := hq5
          obtain ⟨v38, hq5⟩ := hq5
          obtain ⟨rfl, rfl⟩ := hq5
          gi_wp2
          refine ⟨trivial, _, _, _, _, _, _, _, _, _, _, _, _, _, _, _, _, _, _, _, _, _, _, _, _, _, _, _, _, _, _, _, _, _, _, _, _, _, _, _, _, _, _, _, _, _, _, _, _, _, _, _, _, _, _, _, _, _, _, _, _, _, _, _, _, _, _, _, _, _, _, _, _, _, _, _, rfl, adk, capk, rv, k, ?_⟩
          rw [Hrd.out]
          exact ⟨rfl, by rw [List.length_drop, Hm.out, Hp.out], fun h => by
            obtain ⟨g, e1, e2, _⟩ := Had.out (fun e => h (by rw [e]; simp))
            exact ⟨g, e1, e2 (by
              rcases Nat.lt_or_ge k m with q | q
              · exact q
              · exact absurd (List.drop_of_length_le (by have := Hm.out; omega)) h)⟩, HCr.out, Hrr.out.drw, Hbel.out.drew, .inr ⟨c, gc, rfl, Hgc.out, hCg, rfl⟩⟩
    intro e a' w5 hq
    obtain ⟨rfl, hq⟩ := hq
    obtain ⟨lv, hq⟩ := hq
    obtain ⟨cv, hq⟩ := hq
    obtain ⟨u6, hq⟩ := hq
    obtain ⟨u7, hq⟩ := hq
    obtain ⟨u8, hq⟩ := hq
    obtain ⟨u9, hq⟩ := hq
    obtain ⟨u10, hq⟩ := hq
    obtain ⟨u11, hq⟩ := hq
    obtain ⟨u12, hq⟩ := hq
    obtain ⟨u13, hq⟩ := hq
    obtain ⟨u14, hq⟩ := hq
    obtain ⟨u15, hq⟩ := hq
    obtain ⟨u16, hq⟩ := hq
    obtain ⟨u17, hq⟩ := hq
    obtain ⟨u18, hq⟩ := hq
    obtain ⟨u19, hq⟩ := hq
    obtain ⟨u20, hq⟩ := hq
    obtain ⟨u21, hq⟩ := hq
    obtain ⟨u22, hq⟩ := hq
    obtain ⟨u23, hq⟩ := hq
    obtain ⟨u24, hq⟩ := hq
    obtain ⟨u25, hq⟩ := hq
    obtain ⟨u26, hq⟩ := hq
    obtain ⟨u27, hq⟩ := hq
    obtain ⟨u28, hq⟩ := hq
    obtain ⟨u29, hq⟩ := hq
    obtain ⟨u30, hq⟩ := hq
    obtain ⟨u31, hq⟩ := hq
    obtain ⟨u32, hq⟩ := hq
    obtain ⟨u33, hq⟩ := hq
    obtain ⟨u34, hq⟩ := hq
    obtain ⟨u35, hq⟩ := hq
    obtain ⟨u36, hq⟩ := hq
    obtain ⟨u37, hq⟩ := hq
    obtain ⟨u38, hq⟩ := hq
    obtain ⟨u39, hq⟩ := hq
    obtain ⟨u40, hq⟩ := hq
    obtain ⟨u41, hq⟩ := hq
    obtain ⟨u42, hq⟩ := hq
    obtain ⟨u43, hq⟩ := hq
    obtain ⟨u44, hq⟩ := hq
    obtain ⟨u45, hq⟩ := hq
    obtain ⟨u46, hq⟩ := hq
    obtain ⟨u47, hq⟩ := hq
    obtain ⟨u48, hq⟩ := hq
    obtain ⟨u49, hq⟩ := hq
    obtain ⟨u50, hq⟩ := hq
    obtain ⟨u51, hq⟩ := hq
    obtain ⟨u52, hq⟩ := hq
    obtain ⟨u53, hq⟩ := hq
    obtain ⟨u54, hq⟩ := hq
    obtain ⟨u55, hq⟩ := hq
    obtain ⟨u56, hq⟩ := hq
    obtain ⟨u57, hq⟩ := hq
    obtain ⟨u58, hq⟩ := hq
    obtain ⟨u59, hq⟩ := hq
    obtain ⟨u60, hq⟩ := hq
    obtain ⟨u61, hq⟩ := hq
    obtain ⟨u62, hq⟩ := hq
    obtain ⟨u63, hq⟩ := hq
    obtain ⟨u64, hq⟩ := hq
    obtain ⟨u65, hq⟩ := hq
    obtain ⟨u66, hq⟩ := hq
    obtain ⟨u67, hq⟩ := hq
    obtain ⟨u68, hq⟩ := hq
    obtain ⟨u69, hq⟩ := hq
    obtain ⟨u70, hq⟩ := hq
    obtain ⟨u71, hq⟩ := hq
    obtain ⟨u72, hq⟩ := hq
    obtain ⟨u73, hq⟩ := hq
    obtain ⟨u74, hq⟩ := hq
    obtain ⟨u75, hq⟩ := hq
    obtain ⟨u76, hq⟩ := hq
    obtain ⟨u77, hq⟩ := hq
    obtain ⟨u78, hq⟩ := hq
    obtain ⟨rfl, hD⟩ := hq
    obtain ⟨adk, capk, rv, k, hrest, rfl, had, hC5, hrr, hbel, hcut⟩ := hD
    have hr : rdF fs = rdM (fromM L) L := by unfold rdF; rw [HL.out]
    have hmd : mendM fs = (rdM (fromM L) L).rest.reverse.map rmS ++ (rdM (fromM L) L).cut := by unfold mendM; rw [hr]
    have hlm : (rdM (fromM L) L).rest.length ≤ 1000 := by rw [hrest, List.length_drop, Hm.out]; omega
    have Hat : (rdM (fromM L) L).rest ≠ [] → ∃ g, adk = some ⟨g, k * 4, none⟩ ∧ g < w1.heap.size ∧ WAt w5 g (k * 4) (rdM (fromM L) L).rest := fun hne => by
      obtain ⟨g, e1, e2⟩ := had hne
      obtain ⟨g', e', _, hg2, _, hat⟩ := Hpl.out (fun e => hne (by rw [hrest, e]; simp))
      obtain rfl : g = g' := by rw [e1] at e'; injection e' with e'; injection e'
      refine ⟨g, e2, hg2, fun i s hi => ?_⟩
      rw [hrest, List.getElem?_drop] at hi
      have := (hat.below hg2 hbel) (k + i) s hi
      simp only [Nat.zero_add] at this
      rw [show k * 4 + i * 4 = (k + i) * 4 by rw [Nat.add_mul]]
      exact this
    clear hrest had
    obtain ⟨⟨rrs, rnx, rcut, rrest⟩, hrd⟩ : ∃ r, rdM (fromM L) L = r := ⟨_, rfl⟩
    rw [hrd] at hC5 hrr hcut hlm Hat hr hmd ⊢
    simp only at hC5 hrr hcut hlm Hat hr hmd
    have Hr := Lib.hid hr
    have Hmd := Lib.hid hmd
    clear hr hmd
    obtain ⟨len, hlen⟩ : ∃ x, rrest.length = x := ⟨_, rfl⟩
    rw [hlen] at hlm ⊢
    have Hlen := Lib.hid hlen
    have HC5 := Lib.hid hC5
    have Hrr := Lib.hid hrr
    have Hbel := Lib.hid hbel
    have Hcut := Lib.hid hcut
    have HAt := Lib.hid Hat
    clear hC5 hrr hbel hcut Hat hlen hrd c0 c1 c2 c3 hf1 hltC hltR
    gi_wp2_with fail
    refine ⟨trivial, ?_⟩
    refine (callsIn_wide.2 (backward_any w5 adk len capk)).mono ?_
    rintro e w6 ⟨rfl, rfl⟩
    gi_wp2
    obtain ⟨Wl, hWl⟩ : ∃ W, W = w5.alloc (.cells #[.slice adk len capk] 175) := ⟨_, rfl⟩
    have hbl : Below w5.heap.size w5 Wl := by rw [hWl]; exact (Below.refl _ w5).alloc (Nat.le_refl _) _
    have hbs : Wl.heap[w5.heap.size]? = some (Obj.cells #[.slice adk len capk] 175 (0, 0)) := by rw [hWl]; exact blk_new w5 _
    have hszl : Wl.heap.size = w5.heap.size + 1 := by rw [hWl, sz_alloc]
    rw [← hWl]
    clear hWl
    have hC5s : w1.heap.size < w5.heap.size := (Array.getElem?_eq_some_iff.1 HC5.out).1
    have hCM0 : CM Wl.heap.size w1.heap.size (fromM L : Nat) (rnx : Nat) rv rrs cv rcut [] Wl := by
      refine ⟨⟨nilV, (hbl.block _ hC5s).trans HC5.out, World.ownsRow_nil _ _ _ _⟩, ⟨World.ownsRow.kept (row := none) Hrr.out.1 ⟨hbl.os, hbl.tape, hbl.output, hbl.size, fun k hk _ => hbl.block k hk⟩ (by cases h : rv.ownBlock with | none => exact .inl rfl | some g => exact .inr (by simp)), Hrr.out.2⟩, ?_⟩
      rcases Hcut.out with h | ⟨c, gc, e1, e2, e3, e4⟩
      · exact .inl h
      · have := (Array.getElem?_eq_some_iff.1 e2).1
        exact .inr ⟨c, gc, e1, (hbl.block _ this).trans e2, by omega, by omega, e4⟩
    have hB0 : Below w1.heap.size w1 Wl := Hbel.out.trans (hbl.mono Hbel.out.size)
    have hb51 : w1.heap.size ≤ w5.heap.size := Hbel.out.size
    have hlen1 : rrest.length = len := Hlen.out
    obtain ⟨g, hg⟩ : ∃ g, rrest ≠ [] → adk = some ⟨g, k * 4, none⟩ ∧ g < w1.heap.size ∧ WAt w5 g (k * 4) rrest := by
      by_cases hne : rrest = []
      · exact ⟨0, fun h => absurd hne h⟩
      · obtain ⟨g, a⟩ := HAt.out hne
        exact ⟨g, fun _ => a⟩
    refine wpIn_rangeFunc_ownH (F := Fence.wide) (n := 5) rfl (by omega) (gf := 146) (lb := #[.pointer (some ⟨w5.heap.size, 0, none⟩)]) rfl trivial (enters_of Tryz.func146 (by kernel_rfl) rfl)
      (back_stop w5.heap.size Wl.heap.size w1.heap.size g (k * 4) capk rrest (by omega) (by omega) (fun hne => by have := (hg hne).2.1; omega) (by omega) Wl (Nat.le_refl _) adk (fun hne => (hg hne).1) (by rw [hlen1]; exact cell_of_row _ w5.heap.size 0 _ 175 (0, 0) hbs) (fun hne => ((hg hne).2.2).below (by have := (hg hne).2.1; omega) hbl)) (fun h k => h.trans k) (fun W l o o' hl h hc hw => Kc.put (Nat.le_refl _) W l o o' hl h hc hw) (Below.refl _ _) (by intro x; rfl)
      (fun pre W => CM Wl.heap.size w1.heap.size (fromM L : Nat) (rnx : Nat) rv rrs cv rcut pre W ∧ Below w1.heap.size w1 W ∧ Wl.heap.size ≤ W.heap.size)
      (fun _ _ _ => False)
      (OwnFrom.and (Go.Own.from (CM.own _ _ _ _ _ _ _ _) _) (OwnFrom.and (ownFrom_below (Nat.le_refl _) (by omega)) (fun s W W' row hs hg _ => Nat.le_trans hs hg.size)))
      (fun _ _ _ _ _ hs _ _ => hs)
      ⟨hCM0, hB0, Nat.le_refl _⟩
      (fun x a' W => ∃ Bx, w1.heap.size < Bx ∧ W.heap[Bx]? = some (Obj.cells x.2.cells 178 (0, 0)) ∧ a' = ⟨#[.agg (dcells (.slice ad n cap) down fuse fault), .pointer (some ⟨w.heap.size, 0, none⟩), .pointer (some ⟨w.heap.size + 1, 0, none⟩), .slice adk len capk, .pointer (some ⟨w1.heap.size, 0, none⟩), cv, u6, u7, .pointer (some ⟨Bx, 0, none⟩), u9, u10, u11, u12, u13, u14, u15, u16, u17, u18, u19, u20, u21, u22, u23, u24, u25, u26, u27, u28, u29, u30, u31, u32, u33, u34, u35, u36, u37, u38, u39, u40, u41, u42, u43, u44, u45, u46, u47, u48, u49, u50, u51, u52, u53, u54, u55, u56, u57, u58, u59, u60, u61, .slice adk len capk, .func (.func 146) #[] #[.pointer (some ⟨w5.heap.size, 0, none⟩)], .int .i64 (x.1 : Int), .agg x.2.cells, u66, u67, u68, u69, u70, u71, u72, u73, u74, u75, u76, u77, u78], []⟩)
      (fun x a' _ X Y row hs hg hr => by
        obtain ⟨Bx, h1, h2, h5⟩ := hs
        have hr' : ∀ r, row = some r → ∃ o : Obj, X.heap[r]? = some o ∧ o.isCells = false := fun r e => (hr r e).2
        exact ⟨Bx, h1, cells_kept h2 hg hr', h5⟩)
      ?assign ?body ?done ?stop
    case assign =>
      rintro l pre x W K ⟨hI, hB, hn0⟩ hK
      gi_wp2
      have hlo : w1.heap.size ≤ W.heap.size := hB.size
      refine hK _ _ ((KeepsOthers.alloc _ _).from _) (Kc.of_below ((Below.refl _ W).alloc (Nat.le_refl _) _) hn0) ⟨hI.below ((Below.refl _ W).alloc (Nat.le_refl _) _), hB.alloc hlo _, by rw [sz_alloc]; omega⟩ ⟨W.heap.size, by omega, blk_new W _, rfl⟩
    case body =>
      rintro l pre x a' W hl ⟨r, hr⟩ ⟨hI, hB, hn0⟩ ⟨Bx, hBx, hx, rfl⟩ hlt
      obtain ⟨mv, hm, hmr⟩ := hI.1
      have hCn : w1.heap.size < Wl.heap.size := by omega
      clear hmr
      gi_wp2
      refine Code.wpIn_mono (Q := fun e a' w' => e = .normal ∧ ∃ v66 v67 v68 v69 v70 v71 v72, a' = ⟨#[.agg (dcells (.slice ad n cap) down fuse fault), .pointer (some ⟨w.heap.size, 0, none⟩), .pointer (some ⟨w.heap.size + 1, 0, none⟩), .slice adk len capk, .pointer (some ⟨w1.heap.size, 0, none⟩), cv, u6, u7, .pointer (some ⟨Bx, 0, none⟩), u9, u10, u11, u12, u13, u14, u15, u16, u17, u18, u19, u20, u21, u22, u23, u24, u25, u26, u27, u28, u29, u30, u31, u32, u33, u34, u35, u36, u37, u38, u39, u40, u41, u42, u43, u44, u45, u46, u47, u48, u49, u50, u51, u52, u53, u54, u55, u56, u57, u58, u59, u60, u61, .slice adk len capk, .func (.func 146) #[] #[.pointer (some ⟨w5.heap.size, 0, none⟩)], .int .i64 (x.1 : Int), .agg x.2.cells, v66, v67, v68, v69, v70, v71, v72, u73, u74, u75, u76, u77, u78], []⟩ ∧ CM Wl.heap.size w1.heap.size (fromM L : Nat) (rnx : Nat) rv rrs cv rcut (pre ++ [x]) w' ∧ Below w1.heap.size w1 w' ∧ KeepsFrom Wl.heap.size W w' ∧ Kc Wl.heap.size w1.heap.size W w') ?_ ?regk
      case regk =>
        refine wpIn_region_round l (by kernel_rfl) (by kernel_rfl) ?_
        obtain ⟨X9, hX⟩ : ∃ X, W.drew = X := ⟨_, rfl⟩
        change wpAnyIn _ _ _ _ _ _ _ _ _ (W.drew)
        rw [hX]
        have hbX : Below W.heap.size W X9 := by rw [← hX]; exact (Below.refl _ W).drew
        have hm9 := (hbX.block _ (Array.getElem?_eq_some_iff.1 hm).1).trans hm
        have hx9 := (hbX.block _ (Array.getElem?_eq_some_iff.1 hx).1).trans hx
        obtain ⟨c0, c1, c2, c3⟩ := box4' hm9
        obtain ⟨x0, x1, x2, x3⟩ := box4' hx9
        have hlC := (Array.getElem?_eq_some_iff.1 hm9).1
        have hlx := (Array.getElem?_eq_some_iff.1 hx9).1
        clear hX
        refine wpAnyIn_take (i := 0) (v := ?vk1) rfl rfl (by kernel_rfl) (by kernel_rfl) (by kernel_rfl) (fun _ _ _ h => nomatch h.1) ⟨Or.inl ⟨by kernel_rfl, ?hk1⟩, fun _ => rfl⟩ ?rk1
        case hk1 => (intro w; go_simp; first | done | (with_reducible rfl))
        refine wpAnyIn_ready (rs := [1, 2]) (by kernel_rfl) (by simp) ?_
        refine AllReadyIn.cons rfl (fun K hK => ?_) ?_
        · skip
          go_simp
          refine hK _ _ ?_
          clear hK K
          refine wpAnyIn_ready (rs := [2]) (by kernel_rfl) (by simp) ?_
          refine AllReadyIn.cons rfl (fun K hK => ?_) AllReadyIn.nil
          go_simp
          refine hK _ _ ?_
          clear hK K
          refine wpAnyIn_ready (rs := [3]) (by kernel_rfl) (by simp) ?_
          refine AllReadyIn.cons rfl (fun K hK => ?_) AllReadyIn.nil
          go_simp
          refine ⟨trivial, ?_⟩
          refine (callsIn_wide.2 (removal_any X9 x.2)).mono ?_
          rintro e w2 ⟨rfl, hb2⟩
          have hbW := hbX.trans (hb2.mono hbX.size)
          have hm2 := (hb2.block _ hlC).trans hm9
          obtain ⟨e0, e1, e2, e3⟩ := box4' hm2
          have hlC2 := (Array.getElem?_eq_some_iff.1 hm2).1
          obtain ⟨v7, w7, ⟨ad7, n7, cap7, rfl⟩, hrun, hC7, hCM7, hkf7, hkc7, hB7⟩ := CM.step x hI hbW hCn hn0 (Nat.le_refl _) hB (by omega) mv hm
          obtain ⟨d0, d1, d2, d3⟩ := box4' hC7
          have fC7 := frozen_of_row w7 w1.heap.size 3 _ 113 hC7
          have hlC7 := (Array.getElem?_eq_some_iff.1 hC7).1
          refine hK _ _ ?_
          clear hK K
          refine wpAnyIn_ready (rs := [4]) (by kernel_rfl) (by simp) ?_
          refine AllReadyIn.cons rfl (fun K hK => ?_) AllReadyIn.nil
          go_simp
          refine hK _ _ ?_
          clear hK K
          refine wpAnyIn_ready (rs := [5]) (by kernel_rfl) (by simp) ?_
          refine AllReadyIn.cons rfl (fun K hK => ?_) AllReadyIn.nil
          rw [if_pos (by kernel_rfl)]
          refine op_appIn (.tmp 67) (.tmp 70) mv (.slice (some ⟨w2.heap.size, 0, none⟩) 1 1) (by kernel_rfl) (by kernel_rfl) rfl hrun ?_
          refine hK _ _ ?_
          clear hK K
          refine wpAnyIn_take (i := 6) (v := ?vk2) rfl rfl (by kernel_rfl) (by kernel_rfl) (by kernel_rfl) (fun _ _ _ h => nomatch h.1) ⟨Or.inl ⟨by kernel_rfl, ?hk2⟩, fun _ => rfl⟩ ?rk2
          case hk2 => (intro w; go_simp; first | done | (with_reducible rfl))
          refine wpAnyIn_ready (rs := [7]) (by kernel_rfl) (by simp) ?_
          refine AllReadyIn.cons rfl (fun K hK => ?_) AllReadyIn.nil
          go_simp
          refine hK _ _ ?_
          clear hK K
          refine wpAnyIn_done (by kernel_rfl) ?_ _
          all_goals exact ⟨rfl, _, _, _, _, _, _, _, rfl, hCM7, hB7, hkf7, hkc7⟩
        refine AllReadyIn.cons rfl (fun K hK => ?_) AllReadyIn.nil
        go_simp
        refine hK _ _ ?_
        clear hK K
        refine wpAnyIn_ready (rs := [1, 3]) (by kernel_rfl) (by simp) ?_
        refine AllReadyIn.cons rfl (fun K hK => ?_) ?_
        · skip
          go_simp
          refine hK _ _ ?_
          clear hK K
          refine wpAnyIn_ready (rs := [3]) (by kernel_rfl) (by simp) ?_
          refine AllReadyIn.cons rfl (fun K hK => ?_) AllReadyIn.nil
          go_simp
          refine ⟨trivial, ?_⟩
          refine (callsIn_wide.2 (removal_any X9 x.2)).mono ?_
          rintro e w2 ⟨rfl, hb2⟩
          have hbW := hbX.trans (hb2.mono hbX.size)
          have hm2 := (hb2.block _ hlC).trans hm9
          obtain ⟨e0, e1, e2, e3⟩ := box4' hm2
          have hlC2 := (Array.getElem?_eq_some_iff.1 hm2).1
          obtain ⟨v7, w7, ⟨ad7, n7, cap7, rfl⟩, hrun, hC7, hCM7, hkf7, hkc7, hB7⟩ := CM.step x hI hbW hCn hn0 (Nat.le_refl _) hB (by omega) mv hm
          obtain ⟨d0, d1, d2, d3⟩ := box4' hC7
          have fC7 := frozen_of_row w7 w1.heap.size 3 _ 113 hC7
          have hlC7 := (Array.getElem?_eq_some_iff.1 hC7).1
          refine hK _ _ ?_
          clear hK K
          refine wpAnyIn_ready (rs := [4]) (by kernel_rfl) (by simp) ?_
          refine AllReadyIn.cons rfl (fun K hK => ?_) AllReadyIn.nil
          go_simp
          refine hK _ _ ?_
          clear hK K
          refine wpAnyIn_ready (rs := [5]) (by kernel_rfl) (by simp) ?_
          refine AllReadyIn.cons rfl (fun K hK => ?_) AllReadyIn.nil
          rw [if_pos (by kernel_rfl)]
          refine op_appIn (.tmp 67) (.tmp 70) mv (.slice (some ⟨w2.heap.size, 0, none⟩) 1 1) (by kernel_rfl) (by kernel_rfl) rfl hrun ?_
          refine hK _ _ ?_
          clear hK K
          refine wpAnyIn_take (i := 6) (v := ?vk3) rfl rfl (by kernel_rfl) (by kernel_rfl) (by kernel_rfl) (fun _ _ _ h => nomatch h.1) ⟨Or.inl ⟨by kernel_rfl, ?hk3⟩, fun _ => rfl⟩ ?rk3
          case hk3 => (intro w; go_simp; first | done | (with_reducible rfl))
          refine wpAnyIn_ready (rs := [7]) (by kernel_rfl) (by simp) ?_
          refine AllReadyIn.cons rfl (fun K hK => ?_) AllReadyIn.nil
          go_simp
          refine hK _ _ ?_
          clear hK K
          refine wpAnyIn_done (by kernel_rfl) ?_ _
          all_goals exact ⟨rfl, _, _, _, _, _, _, _, rfl, hCM7, hB7, hkf7, hkc7⟩
        refine AllReadyIn.cons rfl (fun K hK => ?_) AllReadyIn.nil
        go_simp
        refine ⟨trivial, ?_⟩
        refine (callsIn_wide.2 (removal_any X9 x.2)).mono ?_
        rintro e w2 ⟨rfl, hb2⟩
        have hbW := hbX.trans (hb2.mono hbX.size)
        have hm2 := (hb2.block _ hlC).trans hm9
        obtain ⟨e0, e1, e2, e3⟩ := box4' hm2
        have hlC2 := (Array.getElem?_eq_some_iff.1 hm2).1
        obtain ⟨v7, w7, ⟨ad7, n7, cap7, rfl⟩, hrun, hC7, hCM7, hkf7, hkc7, hB7⟩ := CM.step x hI hbW hCn hn0 (Nat.le_refl _) hB (by omega) mv hm
        obtain ⟨d0, d1, d2, d3⟩ := box4' hC7
        have fC7 := frozen_of_row w7 w1.heap.size 3 _ 113 hC7
        have hlC7 := (Array.getElem?_eq_some_iff.1 hC7).1
        refine hK _ _ ?_
        clear hK K
        refine wpAnyIn_ready (rs := [1, 4]) (by kernel_rfl) (by simp) ?_
        refine AllReadyIn.cons rfl (fun K hK => ?_) ?_
        · skip
          go_simp
          refine hK _ _ ?_
          clear hK K
          refine wpAnyIn_ready (rs := [4]) (by kernel_rfl) (by simp) ?_
          refine AllReadyIn.cons rfl (fun K hK => ?_) AllReadyIn.nil
          go_simp
          refine hK _ _ ?_
          clear hK K
          refine wpAnyIn_ready (rs := [5]) (by kernel_rfl) (by simp) ?_
          refine AllReadyIn.cons rfl (fun K hK => ?_) AllReadyIn.nil
          rw [if_pos (by kernel_rfl)]
          refine op_appIn (.tmp 67) (.tmp 70) mv (.slice (some ⟨w2.heap.size, 0, none⟩) 1 1) (by kernel_rfl) (by kernel_rfl) rfl hrun ?_
          refine hK _ _ ?_
          clear hK K
          refine wpAnyIn_take (i := 6) (v := ?vk4) rfl rfl (by kernel_rfl) (by kernel_rfl) (by kernel_rfl) (fun _ _ _ h => nomatch h.1) ⟨Or.inl ⟨by kernel_rfl, ?hk4⟩, fun _ => rfl⟩ ?rk4
          case hk4 => (intro w; go_simp; first | done | (with_reducible rfl))
          refine wpAnyIn_ready (rs := [7]) (by kernel_rfl) (by simp) ?_
          refine AllReadyIn.cons rfl (fun K hK => ?_) AllReadyIn.nil
          go_simp
          refine hK _ _ ?_
          clear hK K
          refine wpAnyIn_done (by kernel_rfl) ?_ _
          all_goals exact ⟨rfl, _, _, _, _, _, _, _, rfl, hCM7, hB7, hkf7, hkc7⟩
        refine AllReadyIn.cons rfl (fun K hK => ?_) AllReadyIn.nil
        go_simp
        refine hK _ _ ?_
        clear hK K
        refine wpAnyIn_ready (rs := [1]) (by kernel_rfl) (by simp) ?_
        refine AllReadyIn.cons rfl (fun K hK => ?_) AllReadyIn.nil
        go_simp
        refine hK _ _ ?_
        clear hK K
        refine wpAnyIn_ready (rs := [5]) (by kernel_rfl) (by simp) ?_
        refine AllReadyIn.cons rfl (fun K hK => ?_) AllReadyIn.nil
        rw [if_pos (by kernel_rfl)]
        refine op_appIn (.tmp 67) (.tmp 70) mv (.slice (some ⟨w2.heap.size, 0, none⟩) 1 1) (by kernel_rfl) (by kernel_rfl) rfl hrun ?_
        refine hK _ _ ?_
        clear hK K
        refine wpAnyIn_take (i := 6) (v := ?vk5) rfl rfl (by kernel_rfl) (by kernel_rfl) (by kernel_rfl) (fun _ _ _ h => nomatch h.1) ⟨Or.inl ⟨by kernel_rfl, ?hk5⟩, fun _ => rfl⟩ ?rk5
        case hk5 => (intro w; go_simp; first | done | (with_reducible rfl))
        refine wpAnyIn_ready (rs := [7]) (by kernel_rfl) (by simp) ?_
        refine AllReadyIn.cons rfl (fun K hK => ?_) AllReadyIn.nil
        go_simp
        refine hK _ _ ?_
        clear hK K
        refine wpAnyIn_done (by kernel_rfl) ?_ _
        all_goals exact ⟨rfl, _, _, _, _, _, _, _, rfl, hCM7, hB7, hkf7, hkc7⟩
      intro e a' w9 hq
      obtain ⟨rfl, hq⟩ := hq
      obtain ⟨v66, hq⟩ := hq
      obtain ⟨v67, hq⟩ := hq
      obtain ⟨v68, hq⟩ := hq
      obtain ⟨v69, hq⟩ := hq
      obtain ⟨v70, hq⟩ := hq
      obtain ⟨v71, hq⟩ := hq
      obtain ⟨v72, hq⟩ := hq
      obtain ⟨rfl, k1, k2, k3, k4⟩ := hq
      gi_wp2
      exact ⟨k3, k4, k1, k2, Nat.le_trans hn0 k4.size⟩
    case done =>
      rintro D ys W hD hys ⟨hI, hB, hn0⟩ hK
      have hCn : w1.heap.size < Wl.heap.size := by omega
      have hys1 : ys.map (fun x => rmS x.2) = rrest.reverse.map rmS := by rw [← hys, List.map_map]; rfl
      have hyl : ys.length ≤ 1000000 := by have := congrArg List.length hys; simp at this; omega
      obtain ⟨mv, v7, w7, ⟨ad7, n7, cap7, rfl⟩, hm, hrun, hC7, hR7, hT7, hB7, hK7⟩ := CM.last hI hCn hn0 (Nat.le_refl _) hB hyl
      obtain ⟨c0, c1, c2, c3⟩ := box4' hm
      have hlC := (Array.getElem?_eq_some_iff.1 hm).1
      obtain ⟨e0, e1, e2, e3⟩ := box4' hC7
      have fC7 := frozen_of_row w7 w1.heap.size 3 _ 113 hC7
      have hlC7 := (Array.getElem?_eq_some_iff.1 hC7).1
      have hRb : w1.heap.size + 0 = w1.heap.size := rfl
      have hR0 : w.heap.size + 1 < w1.heap.size := (Array.getElem?_eq_some_iff.1 Hr1.out).1
      obtain ⟨W8, hW8⟩ : ∃ X, X = w7.setCell ⟨w1.heap.size, 3, none⟩ (.slice ad7 n7 cap7) := ⟨_, rfl⟩
      have hC8 : W8.heap[w1.heap.size]? = some (Obj.cells (ccells (fromM L : Nat) (rnx : Nat) rv (.slice ad7 n7 cap7)) 113 (0, 0)) := by rw [hW8]; exact heap_setCell_same w7 w1.heap.size 3 _ 113 _ hC7
      rw [← hW8] at hR7 hT7 hB7 hK7
      have hRz : W8.heap[w.heap.size + 1]? = some (Obj.cells (ccells 0 0 nilV nilV) 113 (0, 0)) := (hB7.block _ hR0).trans Hr1.out
      have hD8 : W8.heap[D]? = some (.deferred (some [])) := hK7.same D _ hK rfl
      gi_upto_region 16 with (gi_at_builtin; refine wpListIn_app rfl _ _ rfl rfl rfl hrun ?_)
      rw [← hW8]
      clear hrun c0 c1 c2 c3 e0 e1 e2 e3 fC7 hlC7 hlC
      obtain ⟨ar, nr, cr, rfl⟩ := rrow_form hR7
      obtain ⟨c0, c1, c2, c3⟩ := box4' hC8
      have hl8 := (Array.getElem?_eq_some_iff.1 hC8).1
      have hlR := (Array.getElem?_eq_some_iff.1 hRz).1
      obtain ⟨r0, r1, r2, r3⟩ := box4' hRz
      have y0 := frozen_of_row W8 (w.heap.size + 1) 0 _ 113 hRz
      have y1 := frozen_of_row W8 (w.heap.size + 1) 1 _ 113 hRz
      have y2 := frozen_of_row W8 (w.heap.size + 1) 2 _ 113 hRz
      have y3 := frozen_of_row W8 (w.heap.size + 1) 3 _ 113 hRz
      obtain ⟨W9, hW9⟩ : ∃ X, X = (((W8.setCell ⟨w.heap.size + 1, 0, none⟩ (.int .u64 (fromM L : Nat))).setCell ⟨w.heap.size + 1, 1, none⟩ (.int .u64 (rnx : Nat))).setCell ⟨w.heap.size + 1, 2, none⟩ (.slice ar nr cr)).setCell ⟨w.heap.size + 1, 3, none⟩ (.slice ad7 n7 cap7) := ⟨_, rfl⟩
      have hk9 : KeepsOthers W8 W9 := by rw [hW9]; exact (((KeepsOthers.setCell _ _ _).trans (KeepsOthers.setCell _ _ _)).trans (KeepsOthers.setCell _ _ _)).trans (KeepsOthers.setCell _ _ _)
      have hD9 : W9.heap[D]? = some (.deferred (some [])) := hk9.same D _ hD8 rfl
      have hR9 : W9.heap[w.heap.size + 1]? = some (Obj.cells (ccells (fromM L : Nat) (rnx : Nat) (.slice ar nr cr) (.slice ad7 n7 cap7)) 113 (0, 0)) := by
        rw [hW9]; exact heap_setCell_same _ _ 3 _ 113 _ (heap_setCell_same _ _ 2 _ 113 _ (heap_setCell_same _ _ 1 _ 113 _ (heap_setCell_same W8 _ 0 _ 113 _ hRz)))
      have hneR : (Value.slice ar nr cr).ownBlock ≠ some (w.heap.size + 1) := fun e => by have := (hR7.1.lt _ e).1; omega
      have hneT : (Value.slice ad7 n7 cap7).ownBlock ≠ some (w.heap.size + 1) := fun e => by have := (World.ownsRow.lt hT7 _ e).1; omega
      have hrr9 : RRow W9 w1.heap.size (.slice ar nr cr) rrs := by rw [hW9]; exact (((hR7.set_far _ hneR).set_far _ hneR).set_far _ hneR).set_far _ hneR
      have htt9 : TRow W9 Wl.heap.size (.slice ad7 n7 cap7) ((ys.map fun x => rmS x.2) ++ rcut) := by
        rw [hW9]; exact World.ownsRow.kept (World.ownsRow.kept (World.ownsRow.kept (World.ownsRow.kept hT7 (grown_setc _ _ _ _) (.inr hneT)) (grown_setc _ _ _ _) (.inr hneT)) (grown_setc _ _ _ _) (.inr hneT)) (grown_setc _ _ _ _) (.inr hneT)
      have hb9 : Below w.heap.size w W9 := by
        rw [hW9]; exact ((((Hb1.out.trans (hB7.mono Hb1.out.size)).setCell (p := ⟨w.heap.size + 1, 0, none⟩) (by show w.heap.size ≤ w.heap.size + 1; omega) _).setCell (p := ⟨w.heap.size + 1, 1, none⟩) (by show w.heap.size ≤ w.heap.size + 1; omega) _).setCell (p := ⟨w.heap.size + 1, 2, none⟩) (by show w.heap.size ≤ w.heap.size + 1; omega) _).setCell (p := ⟨w.heap.size + 1, 3, none⟩) (by show w.heap.size ≤ w.heap.size + 1; omega) _
      have hrow : ∀ r, some D = some r → ∃ o : Obj, W9.heap[r]? = some o ∧ o.isCells = false := fun r e => by cases e; exact ⟨_, hD9, rfl⟩
      have hgD := grownBy_putObj' W9 D (.deferred none)
      have HR9 := Lib.hid (show RRow (W9.putObj D (.deferred none)) w.heap.size (.slice ar nr cr) rrs from by have h := hrr9.kept hgD hrow; exact ⟨ownsRow_base h.1 (by omega), h.2⟩)
      have HT9 := Lib.hid (show TRow (W9.putObj D (.deferred none)) w.heap.size (.slice ad7 n7 cap7) ((ys.map fun x => rmS x.2) ++ rcut) from ownsRow_base (htt9.kept2 hgD hrow) (by omega))
      have HB9 := Lib.hid (show Below w.heap.size w (W9.putObj D (.deferred none)) from hb9.grown hgD hb9.size (fun k e => by cases e; omega))
      have hX9 := box4' (cells_kept hR9 hgD hrow)
      have HX9 := Lib.hid hX9
      have HD9 := Lib.hid hD9
      have HW9 := Lib.hid hW9
      clear hR7 hT7 hB7 hK7 hrr9 htt9 hb9 hrow hgD hX9 hD9 hk9 hR9 hneR hneT hD8 hW8 hC8 hI hB hm hC7 hW9
      gi_wp2
      rw [← HW9.out]
      refine ⟨by simp, .inl ⟨_, _, rfl, run_takeDeferred HD9.out, ?_⟩⟩
      refine ⟨.agg (ccells (fromM L : Nat) (rnx : Nat) (.slice ar nr cr) (.slice ad7 n7 cap7)), by simp [results, Tryz.results66, go_sem, HX9.out.1, HX9.out.2.1, HX9.out.2.2.1, HX9.out.2.2.2], .slice ar nr cr, .slice ad7 n7 cap7, by rw [HL.out, Hr.out], by rw [Hr.out]; exact HR9.out, by rw [Hmd.out, ← hys1]; exact HT9.out, HB9.out⟩
    case stop =>
      rintro D c pre W _ _ h _
      exact h.elim
theorem read_any (w : World) (ad : Option Addr) (n cap : Nat) (down : Bool) (fuse fault : Int) (fs : List F) (hi : Inp w w.heap.size ad n cap fs) (hR : Right fs) (hT : Tabs w) (h4 : 6 ≤ w.heap.size) :
    Calls Tryz.prog 66 #[.agg (dcells (.slice ad n cap) down fuse fault)] w fun e w' => ∃ rv mv, e = .returned (.agg (ccells (fromM (filesM fs) : Nat) (rdF fs).nx rv mv)) ∧ RRow w' w.heap.size rv (rdF fs).rs ∧ TRow w' w.heap.size mv (mendM fs) ∧ Below w.heap.size w w' :=
  callsIn_wide.1 (read_in w ad n cap down fuse fault fs hi hR hT h4)
end Go.Proofs.YtkhmdofeonlnpaaGreatDoor

/- SEGMENT: THE WALKS OVER Append, Drop. -/
namespace Go.Proofs.YtkhmdofeonlnpaaGreatDoor
open Go.RowKit
set_option maxRecDepth 100000
set_option linter.unusedVariables false
set_option linter.unusedSimpArgs false

set_option maxHeartbeats 4000000 in
theorem append_any (w : World) (ad : Option Addr) (n cap : Nat) (l : L) (data : ByteArray) (hds : data.size ≤ 9223372036854775807) (h : LIn w ad n cap l) (h64 : n ≤ 1000) (hT : Tabs w) (hw : 5 < w.heap.size) :
    Calls Tryz.prog 124 #[.agg (l.cells (.slice ad n cap)), .string data] w fun e w' => ChP w l (fun l => appM l data) e w' := by
  have HI := Lib.hid h
  have HT := Lib.hid hT
  clear h hT
  obtain ⟨⟨fs, down, fuse, fault⟩, size, fr, nx, broken⟩ := l
  have hs1 : (w.alloc (.cells (lcells (.slice ad n cap) down fuse fault size fr nx broken) 27)).heap.size = w.heap.size + 1 := sz_alloc _ _
  have hs2 : ((w.alloc (.cells (lcells (.slice ad n cap) down fuse fault size fr nx broken) 27)).alloc (.cells #[.string data] 9)).heap.size = w.heap.size + 1 + 1 := by rw [sz_alloc, hs1]
  have hs3 : (((w.alloc (.cells (lcells (.slice ad n cap) down fuse fault size fr nx broken) 27)).alloc (.cells #[.string data] 9)).alloc (.cells zlog 27)).heap.size = w.heap.size + 1 + 1 + 1 := by rw [sz_alloc, hs2]
  have hb0 : Below w.heap.size w (((w.alloc (.cells (lcells (.slice ad n cap) down fuse fault size fr nx broken) 27)).alloc (.cells #[.string data] 9)).alloc (.cells zlog 27)) := (((Below.refl _ w).alloc (Nat.le_refl _) _).alloc (by rw [sz_alloc]; omega) _).alloc (by rw [hs2]; omega) _
  have hx1 : (((w.alloc (.cells (lcells (.slice ad n cap) down fuse fault size fr nx broken) 27)).alloc (.cells #[.string data] 9)).alloc (.cells zlog 27)).heap[w.heap.size + 1]? = some (.cells #[.string data] 9 (0, 0)) := by
    have h1 := blk_new (w.alloc (.cells (lcells (.slice ad n cap) down fuse fault size fr nx broken) 27)) (.cells #[.string data] 9)
    rw [hs1] at h1
    exact (((Below.refl _ ((w.alloc (.cells (lcells (.slice ad n cap) down fuse fault size fr nx broken) 27)).alloc (.cells #[.string data] 9))).alloc (Nat.le_refl _) (.cells zlog 27)).block _ (by rw [hs2]; omega)).trans h1
  have hx2 : (((w.alloc (.cells (lcells (.slice ad n cap) down fuse fault size fr nx broken) 27)).alloc (.cells #[.string data] 9)).alloc (.cells zlog 27)).heap[w.heap.size + 1 + 1]? = some (.cells zlog 27 (0, 0)) := by
    have h1 := blk_new ((w.alloc (.cells (lcells (.slice ad n cap) down fuse fault size fr nx broken) 27)).alloc (.cells #[.string data] 9)) (.cells zlog 27)
    rwa [hs2] at h1
  have hc1 := cell_of_row _ (w.heap.size + 1) 0 _ 9 (0, 0) hx1
  have HB0 := Lib.hid hb0
  have Hx2 := Lib.hid hx2
  have Hc1 := Lib.hid hc1
  have Hs3 := Lib.hid hs3
  clear hb0 hx1 hx2 hc1 hs1 hs2 hs3
  go_enter Tryz.func124, Tryz.ntmps124
  go_wp2_with fail
  refine (change29_any _ (w.heap.size + 1) ad n cap _ data hds (HI.out.under HB0.out) h64 (HT.out.under HB0.out) (by rw [Hs3.out]; omega) (by rw [Hs3.out]; omega) Hc1.out).mono ?_
  rintro e w3 ⟨hb3, ⟨hR, rfl⟩ | ⟨hR, ad3, n3, cap3, rfl, hd, ho⟩⟩
  · have HR := Lib.hid hR
    have Hx3 := Lib.hid ((hb3.block _ (by rw [Hs3.out]; omega)).trans Hx2.out)
    have Hb3 := Lib.hid (HB0.out.trans (hb3.mono HB0.out.size))
    clear hR hb3
    have hz := (Array.getElem?_eq_some_iff.1 Hx3.out).1
    have f0 := frozen_of_row w3 (w.heap.size + 1 + 1) 0 _ 27 Hx3.out
    have f1 := frozen_of_row w3 (w.heap.size + 1 + 1) 1 _ 27 Hx3.out
    have f2 := frozen_of_row w3 (w.heap.size + 1 + 1) 2 _ 27 Hx3.out
    have f3 := frozen_of_row w3 (w.heap.size + 1 + 1) 3 _ 27 Hx3.out
    have f4 := frozen_of_row w3 (w.heap.size + 1 + 1) 4 _ 27 Hx3.out
    have f5 := frozen_of_row w3 (w.heap.size + 1 + 1) 5 _ 27 Hx3.out
    have f6 := frozen_of_row w3 (w.heap.size + 1 + 1) 6 _ 27 Hx3.out
    have f7 := frozen_of_row w3 (w.heap.size + 1 + 1) 7 _ 27 Hx3.out
    obtain ⟨y0, y1, y2, y3, y4, y5, y6, y7⟩ := box8 Hx3.out
    have Hput := Lib.hid (cell_put8 Hx3.out (.slice none 0 0) (.bool false) (.int .i64 0) (.int .i64 0) (.int .i64 0) (.int .u64 0) (.int .u64 0) (.bool false))
    go_wp2
    exact bodyPost_ret (v := .tuple #[.agg (lcells (.slice none 0 0) false 0 0 0 0 0 false), .int .i64 6]) (by simp [results, Tryz.results124, go_sem, y0, y1, y2, y3, y4, y5, y6, y7, Hput.out.1, Hput.out.2.1, Hput.out.2.2.1, Hput.out.2.2.2.1, Hput.out.2.2.2.2.1, Hput.out.2.2.2.2.2.1, Hput.out.2.2.2.2.2.2.1, Hput.out.2.2.2.2.2.2.2]) rfl
      ⟨below_put8 Hb3.out (by omega) _ _ _ _ _ _ _ _, .inl ⟨HR.out, rfl⟩⟩
  · have HR := Lib.hid hR
    have Hx3 := Lib.hid ((hb3.block _ (by rw [Hs3.out]; omega)).trans Hx2.out)
    have Hb3 := Lib.hid (HB0.out.trans (hb3.mono HB0.out.size))
    have Ho := Lib.hid (show ∀ b, (Value.slice ad3 n3 cap3).ownBlock = some b → w.heap.size + 1 + 1 + 1 ≤ b ∧ Free w3 b from fun b hb => by have h1 := (ho b hb).1; rw [Hs3.out] at h1; exact ⟨h1, (ho b hb).2⟩)
    obtain ⟨⟨⟨⟨fs3, dn3, fu3, fa3⟩, sz3, fr3, nx3, br3⟩, c3⟩, hr⟩ : ∃ r, chM (fun l => appM l data) ⟨⟨fs, down, fuse, fault⟩, size, fr, nx, broken⟩ = r := ⟨_, rfl⟩
    rw [hr] at hd ⊢
    have Hch := Lib.hid hr
    have HD := Lib.hid hd
    clear hR hb3 hr hd ho
    have hz := (Array.getElem?_eq_some_iff.1 Hx3.out).1
    have f0 := frozen_of_row w3 (w.heap.size + 1 + 1) 0 _ 27 Hx3.out
    have f1 := frozen_of_row w3 (w.heap.size + 1 + 1) 1 _ 27 Hx3.out
    have f2 := frozen_of_row w3 (w.heap.size + 1 + 1) 2 _ 27 Hx3.out
    have f3 := frozen_of_row w3 (w.heap.size + 1 + 1) 3 _ 27 Hx3.out
    have f4 := frozen_of_row w3 (w.heap.size + 1 + 1) 4 _ 27 Hx3.out
    have f5 := frozen_of_row w3 (w.heap.size + 1 + 1) 5 _ 27 Hx3.out
    have f6 := frozen_of_row w3 (w.heap.size + 1 + 1) 6 _ 27 Hx3.out
    have f7 := frozen_of_row w3 (w.heap.size + 1 + 1) 7 _ 27 Hx3.out
    obtain ⟨y0, y1, y2, y3, y4, y5, y6, y7⟩ := box8 Hx3.out
    have Hput := Lib.hid (cell_put8 Hx3.out (.slice ad3 n3 cap3) (.bool dn3) (.int .i64 fu3) (.int .i64 fa3) (.int .i64 sz3) (.int .u64 fr3) (.int .u64 nx3) (.bool br3))
    go_wp2
    exact bodyPost_ret (v := .tuple #[.agg (lcells (.slice ad3 n3 cap3) dn3 fu3 fa3 sz3 fr3 nx3 br3), .int .i64 c3]) (by simp [results, Tryz.results124, go_sem, y0, y1, y2, y3, y4, y5, y6, y7, Hput.out.1, Hput.out.2.1, Hput.out.2.2.1, Hput.out.2.2.2.1, Hput.out.2.2.2.2.1, Hput.out.2.2.2.2.2.1, Hput.out.2.2.2.2.2.2.1, Hput.out.2.2.2.2.2.2.2]) rfl
      ⟨below_put8 Hb3.out (by omega) _ _ _ _ _ _ _ _, .inr ⟨HR.out, ad3, n3, cap3, by rw [Hch.out], by rw [Hch.out]; exact HD.out.put8 (fun e => by have h1 := (Ho.out _ e).1; omega) _ _ _ _ _ _ _ _, fun b hb => ⟨by have h1 := (Ho.out _ hb).1; omega, (Ho.out b hb).2.put8 _ _ _ _ _ _ _ _ _⟩⟩⟩

set_option maxHeartbeats 4000000 in
theorem drop_any (w : World) (ad : Option Addr) (n cap : Nat) (l : L) (q : Int) (hq0 : 0 ≤ q) (hq1 : q ≤ 18446744073709551615) (h : LIn w ad n cap l) (h64 : n ≤ 1000) (hT : Tabs w) (hw : 5 < w.heap.size) :
    Calls Tryz.prog 127 #[.agg (l.cells (.slice ad n cap)), .int .u64 q] w fun e w' => ChP w l (fun l => cutM l q) e w' := by
  have HI := Lib.hid h
  have HT := Lib.hid hT
  clear h hT
  obtain ⟨⟨fs, down, fuse, fault⟩, size, fr, nx, broken⟩ := l
  have hs1 : (w.alloc (.cells (lcells (.slice ad n cap) down fuse fault size fr nx broken) 27)).heap.size = w.heap.size + 1 := sz_alloc _ _
  have hs2 : ((w.alloc (.cells (lcells (.slice ad n cap) down fuse fault size fr nx broken) 27)).alloc (.cells #[.int .u64 q] 25)).heap.size = w.heap.size + 1 + 1 := by rw [sz_alloc, hs1]
  have hs3 : (((w.alloc (.cells (lcells (.slice ad n cap) down fuse fault size fr nx broken) 27)).alloc (.cells #[.int .u64 q] 25)).alloc (.cells zlog 27)).heap.size = w.heap.size + 1 + 1 + 1 := by rw [sz_alloc, hs2]
  have hb0 : Below w.heap.size w (((w.alloc (.cells (lcells (.slice ad n cap) down fuse fault size fr nx broken) 27)).alloc (.cells #[.int .u64 q] 25)).alloc (.cells zlog 27)) := (((Below.refl _ w).alloc (Nat.le_refl _) _).alloc (by rw [sz_alloc]; omega) _).alloc (by rw [hs2]; omega) _
  have hx1 : (((w.alloc (.cells (lcells (.slice ad n cap) down fuse fault size fr nx broken) 27)).alloc (.cells #[.int .u64 q] 25)).alloc (.cells zlog 27)).heap[w.heap.size + 1]? = some (.cells #[.int .u64 q] 25 (0, 0)) := by
    have h1 := blk_new (w.alloc (.cells (lcells (.slice ad n cap) down fuse fault size fr nx broken) 27)) (.cells #[.int .u64 q] 25)
    rw [hs1] at h1
    exact (((Below.refl _ ((w.alloc (.cells (lcells (.slice ad n cap) down fuse fault size fr nx broken) 27)).alloc (.cells #[.int .u64 q] 25))).alloc (Nat.le_refl _) (.cells zlog 27)).block _ (by rw [hs2]; omega)).trans h1
  have hx2 : (((w.alloc (.cells (lcells (.slice ad n cap) down fuse fault size fr nx broken) 27)).alloc (.cells #[.int .u64 q] 25)).alloc (.cells zlog 27)).heap[w.heap.size + 1 + 1]? = some (.cells zlog 27 (0, 0)) := by
    have h1 := blk_new ((w.alloc (.cells (lcells (.slice ad n cap) down fuse fault size fr nx broken) 27)).alloc (.cells #[.int .u64 q] 25)) (.cells zlog 27)
    rwa [hs2] at h1
  have hc1 := cell_of_row _ (w.heap.size + 1) 0 _ 25 (0, 0) hx1
  have HB0 := Lib.hid hb0
  have Hx2 := Lib.hid hx2
  have Hc1 := Lib.hid hc1
  have Hs3 := Lib.hid hs3
  clear hb0 hx1 hx2 hc1 hs1 hs2 hs3
  go_enter Tryz.func127, Tryz.ntmps127
  go_wp2_with fail
  refine (change32_any _ (w.heap.size + 1) ad n cap _ q hq0 hq1 (HI.out.under HB0.out) h64 (HT.out.under HB0.out) (by rw [Hs3.out]; omega) (by rw [Hs3.out]; omega) Hc1.out).mono ?_
  rintro e w3 ⟨hb3, ⟨hR, rfl⟩ | ⟨hR, ad3, n3, cap3, rfl, hd, ho⟩⟩
  · have HR := Lib.hid hR
    have Hx3 := Lib.hid ((hb3.block _ (by rw [Hs3.out]; omega)).trans Hx2.out)
    have Hb3 := Lib.hid (HB0.out.trans (hb3.mono HB0.out.size))
    clear hR hb3
    have hz := (Array.getElem?_eq_some_iff.1 Hx3.out).1
    have f0 := frozen_of_row w3 (w.heap.size + 1 + 1) 0 _ 27 Hx3.out
    have f1 := frozen_of_row w3 (w.heap.size + 1 + 1) 1 _ 27 Hx3.out
    have f2 := frozen_of_row w3 (w.heap.size + 1 + 1) 2 _ 27 Hx3.out
    have f3 := frozen_of_row w3 (w.heap.size + 1 + 1) 3 _ 27 Hx3.out
    have f4 := frozen_of_row w3 (w.heap.size + 1 + 1) 4 _ 27 Hx3.out
    have f5 := frozen_of_row w3 (w.heap.size + 1 + 1) 5 _ 27 Hx3.out
    have f6 := frozen_of_row w3 (w.heap.size + 1 + 1) 6 _ 27 Hx3.out
    have f7 := frozen_of_row w3 (w.heap.size + 1 + 1) 7 _ 27 Hx3.out
    obtain ⟨y0, y1, y2, y3, y4, y5, y6, y7⟩ := box8 Hx3.out
    have Hput := Lib.hid (cell_put8 Hx3.out (.slice none 0 0) (.bool false) (.int .i64 0) (.int .i64 0) (.int .i64 0) (.int .u64 0) (.int .u64 0) (.bool false))
    go_wp2
    exact bodyPost_ret (v := .tuple #[.agg (lcells (.slice none 0 0) false 0 0 0 0 0 false), .int .i64 6]) (by simp [results, Tryz.results127, go_sem, y0, y1, y2, y3, y4, y5, y6, y7, Hput.out.1, Hput.out.2.1, Hput.out.2.2.1, Hput.out.2.2.2.1, Hput.out.2.2.2.2.1, Hput.out.2.2.2.2.2.1, Hput.out.2.2.2.2.2.2.1, Hput.out.2.2.2.2.2.2.2]) rfl
      ⟨below_put8 Hb3.out (by omega) _ _ _ _ _ _ _ _, .inl ⟨HR.out, rfl⟩⟩
  · have HR := Lib.hid hR
    have Hx3 := Lib.hid ((hb3.block _ (by rw [Hs3.out]; omega)).trans Hx2.out)
    have Hb3 := Lib.hid (HB0.out.trans (hb3.mono HB0.out.size))
    have Ho := Lib.hid (show ∀ b, (Value.slice ad3 n3 cap3).ownBlock = some b → w.heap.size + 1 + 1 + 1 ≤ b ∧ Free w3 b from fun b hb => by have h1 := (ho b hb).1; rw [Hs3.out] at h1; exact ⟨h1, (ho b hb).2⟩)
    obtain ⟨⟨⟨⟨fs3, dn3, fu3, fa3⟩, sz3, fr3, nx3, br3⟩, c3⟩, hr⟩ : ∃ r, chM (fun l => cutM l q) ⟨⟨fs, down, fuse, fault⟩, size, fr, nx, broken⟩ = r := ⟨_, rfl⟩
    rw [hr] at hd ⊢
    have Hch := Lib.hid hr
    have HD := Lib.hid hd
    clear hR hb3 hr hd ho
    have hz := (Array.getElem?_eq_some_iff.1 Hx3.out).1
    have f0 := frozen_of_row w3 (w.heap.size + 1 + 1) 0 _ 27 Hx3.out
    have f1 := frozen_of_row w3 (w.heap.size + 1 + 1) 1 _ 27 Hx3.out
    have f2 := frozen_of_row w3 (w.heap.size + 1 + 1) 2 _ 27 Hx3.out
    have f3 := frozen_of_row w3 (w.heap.size + 1 + 1) 3 _ 27 Hx3.out
    have f4 := frozen_of_row w3 (w.heap.size + 1 + 1) 4 _ 27 Hx3.out
    have f5 := frozen_of_row w3 (w.heap.size + 1 + 1) 5 _ 27 Hx3.out
    have f6 := frozen_of_row w3 (w.heap.size + 1 + 1) 6 _ 27 Hx3.out
    have f7 := frozen_of_row w3 (w.heap.size + 1 + 1) 7 _ 27 Hx3.out
    obtain ⟨y0, y1, y2, y3, y4, y5, y6, y7⟩ := box8 Hx3.out
    have Hput := Lib.hid (cell_put8 Hx3.out (.slice ad3 n3 cap3) (.bool dn3) (.int .i64 fu3) (.int .i64 fa3) (.int .i64 sz3) (.int .u64 fr3) (.int .u64 nx3) (.bool br3))
    go_wp2
    exact bodyPost_ret (v := .tuple #[.agg (lcells (.slice ad3 n3 cap3) dn3 fu3 fa3 sz3 fr3 nx3 br3), .int .i64 c3]) (by simp [results, Tryz.results127, go_sem, y0, y1, y2, y3, y4, y5, y6, y7, Hput.out.1, Hput.out.2.1, Hput.out.2.2.1, Hput.out.2.2.2.1, Hput.out.2.2.2.2.1, Hput.out.2.2.2.2.2.1, Hput.out.2.2.2.2.2.2.1, Hput.out.2.2.2.2.2.2.2]) rfl
      ⟨below_put8 Hb3.out (by omega) _ _ _ _ _ _ _ _, .inr ⟨HR.out, ad3, n3, cap3, by rw [Hch.out], by rw [Hch.out]; exact HD.out.put8 (fun e => by have h1 := (Ho.out _ e).1; omega) _ _ _ _ _ _ _ _, fun b hb => ⟨by have h1 := (Ho.out _ hb).1; omega, (Ho.out b hb).2.put8 _ _ _ _ _ _ _ _ _⟩⟩⟩
end Go.Proofs.YtkhmdofeonlnpaaGreatDoor

/- THE WALK OVER the document's Same, at two disks that are one. -/
namespace Go.Proofs.YtkhmdofeonlnpaaGreatDoor
open Go.RowKit
set_option linter.unusedVariables false
set_option linter.unusedSimpArgs false

end Go.Proofs.YtkhmdofeonlnpaaGreatDoor

/- SEGMENT: THE WALK OVER the document's Same of logs. -/
namespace Go.Proofs.YtkhmdofeonlnpaaGreatDoor
open Go.RowKit
set_option maxRecDepth 100000
set_option linter.unusedVariables false
set_option linter.unusedSimpArgs false

end Go.Proofs.YtkhmdofeonlnpaaGreatDoor

/- SEGMENT: THE WALK OVER the document's SameRecords. -/
namespace Go.Proofs.YtkhmdofeonlnpaaGreatDoor
open Go.RowKit
set_option maxRecDepth 100000
set_option linter.unusedVariables false
set_option linter.unusedSimpArgs false
/-- records at a place -/
def RAt (w : World) (B : Nat) (ad : Option Addr) (rs : List Rec) : Prop := rs ≠ [] → ∃ g off, ad = some ⟨g, off, none⟩ ∧ g < B ∧ ∀ i r, rs[i]? = some r →
  w.cell? ⟨g, off + i * 2, none⟩ = some (.int .u64 (r.seq : Int)) ∧ w.cell? ⟨g, off + i * 2 + 1, none⟩ = some (.string r.data)
theorem RAt.keep {w w' : World} {B : Nat} {ad : Option Addr} {rs : List Rec} (h : RAt w B ad rs) (hb : Below B w w') : RAt w' B ad rs := fun hne => by
  obtain ⟨g, off, e, hg, hc⟩ := h hne
  refine ⟨g, off, e, hg, fun i r hi => ?_⟩
  obtain ⟨h0, h1⟩ := hc i r hi
  exact ⟨(World.cell?_of_block (hb.block g hg)).trans h0, (World.cell?_of_block (hb.block g hg)).trans h1⟩

end Go.Proofs.YtkhmdofeonlnpaaGreatDoor

/- SEGMENT: THE WALK OVER the laws' whole. -/
namespace Go.Proofs.YtkhmdofeonlnpaaGreatDoor
open Go.RowKit
end Go.Proofs.YtkhmdofeonlnpaaGreatDoor

/- SEGMENT: THE WALK OVER Records. -/
namespace Go.Proofs.YtkhmdofeonlnpaaGreatDoor
open Go.RowKit
set_option maxRecDepth 100000
set_option linter.unusedVariables false
set_option linter.unusedSimpArgs false
theorem rcs_at : ∀ (l : List Rec) (i : Nat) (r : Rec), l[i]? = some r → ∀ j, j < 2 → (rcs l)[i * 2 + j]? = r.cells.toList[j]?
  | [], i, s, h => by simp at h
  | x :: l, 0, s, h => by
    simp at h
    subst h
    intro j hj
    rw [rcs, List.flatMap_cons, Nat.zero_mul, Nat.zero_add, List.getElem?_append_left (by simpa using hj)]
  | x :: l, i + 1, s, h => by
    intro j hj
    have := rcs_at l i s (by simpa using h) j hj
    rw [rcs, List.flatMap_cons, List.getElem?_append_right (by simp; omega)]
    rw [rcs] at this
    rw [← this]
    congr 1
    simp
    omega
theorem RRow.form {w : World} {base : Nat} {v : Value} {rs : List Rec} (h : RRow w base v rs) : ∃ ad cap, v = .slice ad rs.length cap ∧ RAt w w.heap.size ad rs ∧ ∀ b, (Value.slice ad rs.length cap).ownBlock = some b → base ≤ b := by
  rcases h.1.2 with ⟨hv, hn⟩ | ⟨g, cap, cur, hv, hb, hg, hnc, _⟩
  · refine ⟨none, 0, by rw [hv, hn], fun hne => ?_, fun b e => by simp [Value.ownBlock] at e⟩
    exact absurd (List.eq_nil_of_length_eq_zero hn) hne
  · refine ⟨_, cap, hv, fun _ => ⟨g, 0, rfl, (Array.getElem?_eq_some_iff.1 hg).1, fun i r hi => ?_⟩, fun b e => by simp [Value.ownBlock] at e; omega⟩
    have hc : ∀ j u, (rcs rs)[j]? = some u → w.cell? ⟨g, j, none⟩ = some u := fun j u hu => by
      have := World.ownsRow.cells h.1 (g := g) (by rw [hv]; rfl) j u hu
      simpa [Addr.add_lit] using this
    have ha := rcs_at rs i r hi
    rw [Nat.zero_add]
    exact ⟨hc _ _ (by have := ha 0 (by omega); simpa using this), hc _ _ (by rw [ha 1 (by omega)]; rfl)⟩

end Go.Proofs.YtkhmdofeonlnpaaGreatDoor

/- SEGMENT: THE WALK OVER Open. -/
namespace Go.Proofs.YtkhmdofeonlnpaaGreatDoor
open Go.RowKit
set_option maxRecDepth 100000
set_option linter.unusedVariables false
set_option linter.unusedSimpArgs false
/-- a row's room -/
def CapOk (ad : Option Addr) (n cap : Nat) : Prop := n ≤ cap ∧ (ad = none → cap = 0)
/-- what Open answers with -/
def OpP (w : World) (d : D) (size : Int) (e : Ending) (w' : World) : Prop := Below w.heap.size w w' ∧ ∃ ad2 n2 cap2 ad3 cap3,
  e = .returned (.tuple #[.agg ((openM d size).1.cells (.slice ad2 n2 cap2)), .slice ad3 (openM d size).2.1.length cap3, .int .i64 (openM d size).2.2]) ∧
  DIn w' ad2 n2 cap2 (openM d size).1.d.fuse (openM d size).1.d.fault (openM d size).1.d.files ∧ (∀ b, (Value.slice ad2 n2 cap2).ownBlock = some b → w.heap.size ≤ b) ∧ RAt w' w'.heap.size ad3 (openM d size).2.1 ∧ CapOk ad3 (openM d size).2.1.length cap3
theorem DIn.nothing (w : World) {fu fa : Int} (h1 : Num fu) (h2 : Num fa) : DIn w none 0 0 fu fa [] := ⟨⟨rfl, Nat.le_refl _, fun _ => rfl, fun h => absurd rfl h⟩, (fun f hf => by cases hf), h1.1, h1.2, h2.1, h2.2⟩
theorem opP_zero {w w' : World} {d : D} {size : Int} {c : Int} (h : openM d size = (zl, [], c)) (hb : Below w.heap.size w w') : OpP w d size (.returned (.tuple #[.agg zlog, nilV, .int .i64 c])) w' := by
  refine ⟨hb, none, 0, 0, none, 0, by rw [h]; rfl, ?_, fun b e => by simp [Value.ownBlock] at e, fun hne => absurd (by rw [h]) hne, by rw [h]; exact ⟨Nat.le_refl _, fun _ => rfl⟩⟩
  rw [h]
  exact DIn.nothing _ (by show Num 0; unfold Num; omega) (by show Num 0; unfold Num; omega)

theorem RRow.cap {w : World} {base : Nat} {ad : Option Addr} {n cap : Nat} {rs : List Rec} (h : RRow w base (.slice ad n cap) rs) : CapOk ad rs.length cap := by
  rcases h.1.2 with ⟨hv, hn⟩ | ⟨g, cap', cur, hv, _, _, hnc, _⟩
  · injection hv with _ _ e
    exact ⟨by omega, fun _ => e⟩
  · injection hv with e1 _ e
    exact ⟨by omega, fun e2 => by rw [e2] at e1; cases e1⟩
theorem RAt.far {w w' : World} {ad : Option Addr} {n cap : Nat} {rs : List Rec} (h : RAt w w.heap.size ad rs) (hs : w.heap.size ≤ w'.heap.size) (hk : ∀ b, (Value.slice ad n cap).ownBlock = some b → b < w.heap.size → w'.heap[b]? = w.heap[b]?) : RAt w' w'.heap.size ad rs := fun hne => by
  obtain ⟨g, off, e, hg, hc⟩ := h hne
  subst e
  have hb := hk g rfl hg
  refine ⟨g, off, rfl, by omega, fun i r hi => ?_⟩
  obtain ⟨h0, h1⟩ := hc i r hi
  exact ⟨(World.cell?_of_block hb).trans h0, (World.cell?_of_block hb).trans h1⟩
theorem RAt.under {w w' : World} {ad : Option Addr} {rs : List Rec} (h : RAt w w.heap.size ad rs) (hb : Below w.heap.size w w') : RAt w' w'.heap.size ad rs := h.far (n := 0) (cap := 0) hb.size (fun b _ hk => hb.block b hk)
theorem put8_other {w : World} {g b : Nat} (h : b ≠ g) (v0 v1 v2 v3 v4 v5 v6 v7 : Value) :
    ((((((((w.setCell ⟨g, 0, none⟩ v0).setCell ⟨g, 1, none⟩ v1).setCell ⟨g, 2, none⟩ v2).setCell ⟨g, 3, none⟩ v3).setCell ⟨g, 4, none⟩ v4).setCell ⟨g, 5, none⟩ v5).setCell ⟨g, 6, none⟩ v6).setCell ⟨g, 7, none⟩ v7).heap[b]? = w.heap[b]? :=
  (Below.heap_setCell _ ⟨g, 7, none⟩ v7 b h).trans ((Below.heap_setCell _ ⟨g, 6, none⟩ v6 b h).trans ((Below.heap_setCell _ ⟨g, 5, none⟩ v5 b h).trans ((Below.heap_setCell _ ⟨g, 4, none⟩ v4 b h).trans ((Below.heap_setCell _ ⟨g, 3, none⟩ v3 b h).trans ((Below.heap_setCell _ ⟨g, 2, none⟩ v2 b h).trans ((Below.heap_setCell _ ⟨g, 1, none⟩ v1 b h).trans (Below.heap_setCell w ⟨g, 0, none⟩ v0 b h)))))))
theorem put8_cell {w : World} {g b o : Nat} {v : Value} (hc : w.cell? ⟨b, o, none⟩ = some v) (h : b ≠ g) (v0 v1 v2 v3 v4 v5 v6 v7 : Value) :
    ((((((((w.setCell ⟨g, 0, none⟩ v0).setCell ⟨g, 1, none⟩ v1).setCell ⟨g, 2, none⟩ v2).setCell ⟨g, 3, none⟩ v3).setCell ⟨g, 4, none⟩ v4).setCell ⟨g, 5, none⟩ v5).setCell ⟨g, 6, none⟩ v6).setCell ⟨g, 7, none⟩ v7).cell? ⟨b, o, none⟩ = some v :=
  (World.cell?_of_block (a := ⟨b, o, none⟩) (put8_other h v0 v1 v2 v3 v4 v5 v6 v7)).trans hc
theorem put8_size (w : World) (g : Nat) (v0 v1 v2 v3 v4 v5 v6 v7 : Value) :
    ((((((((w.setCell ⟨g, 0, none⟩ v0).setCell ⟨g, 1, none⟩ v1).setCell ⟨g, 2, none⟩ v2).setCell ⟨g, 3, none⟩ v3).setCell ⟨g, 4, none⟩ v4).setCell ⟨g, 5, none⟩ v5).setCell ⟨g, 6, none⟩ v6).setCell ⟨g, 7, none⟩ v7).heap.size = w.heap.size := by simp [World.setCell]
theorem RAt.put8 {w : World} {ad : Option Addr} {n cap g : Nat} {rs : List Rec} (h : RAt w w.heap.size ad rs) (hk : ∀ b, (Value.slice ad n cap).ownBlock = some b → b ≠ g) (v0 v1 v2 v3 v4 v5 v6 v7 : Value) :
    RAt ((((((((w.setCell ⟨g, 0, none⟩ v0).setCell ⟨g, 1, none⟩ v1).setCell ⟨g, 2, none⟩ v2).setCell ⟨g, 3, none⟩ v3).setCell ⟨g, 4, none⟩ v4).setCell ⟨g, 5, none⟩ v5).setCell ⟨g, 6, none⟩ v6).setCell ⟨g, 7, none⟩ v7) ((((((((w.setCell ⟨g, 0, none⟩ v0).setCell ⟨g, 1, none⟩ v1).setCell ⟨g, 2, none⟩ v2).setCell ⟨g, 3, none⟩ v3).setCell ⟨g, 4, none⟩ v4).setCell ⟨g, 5, none⟩ v5).setCell ⟨g, 6, none⟩ v6).setCell ⟨g, 7, none⟩ v7).heap.size ad rs :=
  h.far (n := n) (cap := cap) (by rw [put8_size]; exact Nat.le_refl _) (fun b e _ => put8_other (hk b e) _ _ _ _ _ _ _ _)
theorem mends_fit : ∀ (ms : List S) (fs : List F), Right fs → mendM fs = ms → ∀ m ∈ ms, SFit m
  | [], _, _, _ => fun _ h => by cases h
  | m :: ms, fs, hR, h => by
    obtain ⟨_, _, g3, g4, _, _, _, g8, g9, _⟩ := mend_one hR h
    intro x hx
    rcases List.mem_cons.1 hx with rfl | hx
    · exact ⟨by omega, by omega⟩
    · exact mends_fit ms _ g3 g4 x hx
theorem mends_len {fs : List F} (hR : Right fs) : (mendM fs).length ≤ 1000000 := by
  have h1 := filesM_len fs
  have h2 := hR.1
  have h3 : (rdF fs).rest.length ≤ (filesM fs).length := by
    obtain ⟨A, hA⟩ := rdM_rest (filesM fs) (fromM (filesM fs))
    have := congrArg List.length hA
    rw [List.length_append] at this
    show (rdM _ _).rest.length ≤ _
    omega
  have h4 : (rdF fs).cut.length ≤ 1 := by
    rcases rdM_cut (filesM fs) (fromM (filesM fs)) with h | ⟨c, h⟩
    · show (rdM _ _).cut.length ≤ 1; rw [h]; exact Nat.zero_le _
    · show (rdM _ _).cut.length ≤ 1; rw [h]; exact Nat.le_refl _
  unfold mendM
  simp only [List.length_append, List.length_map, List.length_reverse]
  omega

set_option maxHeartbeats 4000000 in
theorem open_any (w : World) (ad : Option Addr) (n cap : Nat) (d : D) (size : Int) (h : DIn w ad n cap d.fuse d.fault d.files) (hT : Tabs w) (hw : 5 < w.heap.size) :
    Calls Tryz.prog 25 #[.agg (dcells (.slice ad n cap) d.down d.fuse d.fault), .int .i64 size] w fun e w' => OpP w d size e w' := by
  obtain ⟨fs, down, fuse, fault⟩ := d
  have hb0 : Below w.heap.size w ((w.alloc (.cells (dcells (.slice ad n cap) down fuse fault) 24)).alloc (.cells zlog 27)) := ((Below.refl _ w).alloc (Nat.le_refl _) _).alloc (by rw [sz_alloc]; omega) _
  have hx : ((w.alloc (.cells (dcells (.slice ad n cap) down fuse fault) 24)).alloc (.cells zlog 27)).heap[w.heap.size]? = some (.cells (dcells (.slice ad n cap) down fuse fault) 24 (0, 0)) := (((Below.refl _ (w.alloc (.cells (dcells (.slice ad n cap) down fuse fault) 24))).alloc (Nat.le_refl _) (.cells zlog 27)).block _ (by rw [sz_alloc]; omega)).trans (blk_new w _)
  have hz : ((w.alloc (.cells (dcells (.slice ad n cap) down fuse fault) 24)).alloc (.cells zlog 27)).heap[w.heap.size + 1]? = some (.cells zlog 27 (0, 0)) := by
    have := blk_new (w.alloc (.cells (dcells (.slice ad n cap) down fuse fault) 24)) (.cells zlog 27)
    rwa [sz_alloc] at this
  have HI := Lib.hid (h.under hb0)
  have HT := Lib.hid (hT.under hb0)
  have Hb0 := Lib.hid hb0
  have Hx := Lib.hid hx
  have Hz := Lib.hid hz
  obtain ⟨d0, d1, d2, d3⟩ := box4' hx
  clear h hb0 hx hz hT
  go_enter Tryz.func25, Tryz.ntmps25
  go_wp2_with fail
  by_cases hR : Right fs
  rotate_left
  · refine (check_no _ ad cap n down fuse fault fs HI.out.i.1 HI.out.i.2.2.2 HI.out.fit hR).mono ?_
    rintro e w1 ⟨rfl, hb1⟩
    have ho : openM ⟨fs, down, fuse, fault⟩ size = (zl, [], 6) := by unfold openM; rw [if_pos hR]
    have Ho := Lib.hid ho
    have Hz1 := Lib.hid ((hb1.block _ (Array.getElem?_eq_some_iff.1 Hz.out).1).trans Hz.out)
    have Hb1 := Lib.hid (Hb0.out.trans (hb1.mono Hb0.out.size))
    clear hb1 hR ho d0 d1 d2 d3
    obtain ⟨y0, y1, y2, y3, y4, y5, y6, y7⟩ := box8 Hz1.out
    have hlz := (Array.getElem?_eq_some_iff.1 Hz1.out).1
    have f0 := frozen_of_row w1 (w.heap.size + 1) 0 _ 27 Hz1.out
    have f1 := frozen_of_row w1 (w.heap.size + 1) 1 _ 27 Hz1.out
    have f2 := frozen_of_row w1 (w.heap.size + 1) 2 _ 27 Hz1.out
    have f3 := frozen_of_row w1 (w.heap.size + 1) 3 _ 27 Hz1.out
    have f4 := frozen_of_row w1 (w.heap.size + 1) 4 _ 27 Hz1.out
    have f5 := frozen_of_row w1 (w.heap.size + 1) 5 _ 27 Hz1.out
    have f6 := frozen_of_row w1 (w.heap.size + 1) 6 _ 27 Hz1.out
    have f7 := frozen_of_row w1 (w.heap.size + 1) 7 _ 27 Hz1.out
    have Hput := Lib.hid (cell_put8 Hz1.out nilV (.bool false) (.int .i64 0) (.int .i64 0) (.int .i64 0) (.int .u64 0) (.int .u64 0) (.bool false))
    go_wp2
    exact bodyPost_ret (v := .tuple #[.agg zlog, nilV, .int .i64 6]) (by simp [results, Tryz.results25, go_sem, y0, y1, y2, y3, y4, y5, y6, y7, Hput.out.1, Hput.out.2.1, Hput.out.2.2.1, Hput.out.2.2.2.1, Hput.out.2.2.2.2.1, Hput.out.2.2.2.2.2.1, Hput.out.2.2.2.2.2.2.1, Hput.out.2.2.2.2.2.2.2]) rfl
      (opP_zero Ho.out (below_put8 Hb1.out (by omega) _ _ _ _ _ _ _ _))
  refine (check_ok _ ad cap n down fuse fault fs HI.out.i.1 HI.out.i.2.2.2 hR).mono ?_
  rintro e w1 ⟨rfl, hb1⟩
  have HR := Lib.hid hR
  have Hz1 := Lib.hid ((hb1.block _ (Array.getElem?_eq_some_iff.1 Hz.out).1).trans Hz.out)
  have Hx1 := Lib.hid ((hb1.block _ (Array.getElem?_eq_some_iff.1 Hx.out).1).trans Hx.out)
  have Hb1 := Lib.hid (Hb0.out.trans (hb1.mono Hb0.out.size))
  have HI1 := Lib.hid (HI.out.under hb1)
  have HT1 := Lib.hid (HT.out.under hb1)
  have hw1 : 5 < w1.heap.size := by have := Hb1.out.size; omega
  clear hb1 hR d0 d1 d2 d3 HI HT Hx Hz Hb0
  obtain ⟨d0, d1, d2, d3⟩ := box4' Hx1.out
  have hlx := (Array.getElem?_eq_some_iff.1 Hx1.out).1
  go_wp2_with fail
  refine (isSize_any w1 size).mono ?_
  rintro e w2 ⟨rfl, rfl⟩
  by_cases hS : 1 ≤ size ∧ size ≤ 262144
  rotate_left
  · have e : (decide (1 ≤ size) && decide (size ≤ 262144)) = false := by
      by_cases h1 : 1 ≤ size
      · have : ¬ size ≤ 262144 := fun h => hS ⟨h1, h⟩
        simp [this]
      · simp [h1]
    rw [e]
    have HS := Lib.hid hS
    clear e hS
    have ho : openM ⟨fs, down, fuse, fault⟩ size = (zl, [], 2) := by unfold openM; rw [if_neg (fun h => h HR.out), if_pos HS.out]
    have Ho := Lib.hid ho
    clear ho d0 d1 d2 d3
    obtain ⟨y0, y1, y2, y3, y4, y5, y6, y7⟩ := box8 Hz1.out
    have hlz := (Array.getElem?_eq_some_iff.1 Hz1.out).1
    have f0 := frozen_of_row w1 (w.heap.size + 1) 0 _ 27 Hz1.out
    have f1 := frozen_of_row w1 (w.heap.size + 1) 1 _ 27 Hz1.out
    have f2 := frozen_of_row w1 (w.heap.size + 1) 2 _ 27 Hz1.out
    have f3 := frozen_of_row w1 (w.heap.size + 1) 3 _ 27 Hz1.out
    have f4 := frozen_of_row w1 (w.heap.size + 1) 4 _ 27 Hz1.out
    have f5 := frozen_of_row w1 (w.heap.size + 1) 5 _ 27 Hz1.out
    have f6 := frozen_of_row w1 (w.heap.size + 1) 6 _ 27 Hz1.out
    have f7 := frozen_of_row w1 (w.heap.size + 1) 7 _ 27 Hz1.out
    have Hput := Lib.hid (cell_put8 Hz1.out nilV (.bool false) (.int .i64 0) (.int .i64 0) (.int .i64 0) (.int .u64 0) (.int .u64 0) (.bool false))
    go_wp2
    exact bodyPost_ret (v := .tuple #[.agg zlog, nilV, .int .i64 2]) (by simp [results, Tryz.results25, go_sem, y0, y1, y2, y3, y4, y5, y6, y7, Hput.out.1, Hput.out.2.1, Hput.out.2.2.1, Hput.out.2.2.2.1, Hput.out.2.2.2.2.1, Hput.out.2.2.2.2.2.1, Hput.out.2.2.2.2.2.2.1, Hput.out.2.2.2.2.2.2.2]) rfl
      (opP_zero Ho.out (below_put8 Hb1.out (by omega) _ _ _ _ _ _ _ _))
  have e : (decide (1 ≤ size) && decide (size ≤ 262144)) = true := by simp [hS.1, hS.2]
  rw [e]
  have HS := Lib.hid hS
  clear e hS
  cases down with
  | true =>
    have ho : openM ⟨fs, true, fuse, fault⟩ size = (zl, [], 17) := by unfold openM; rw [if_neg (fun h => h HR.out), if_neg (fun h => h HS.out), if_pos rfl]
    have Ho := Lib.hid ho
    clear ho
    obtain ⟨y0, y1, y2, y3, y4, y5, y6, y7⟩ := box8 Hz1.out
    have hlz := (Array.getElem?_eq_some_iff.1 Hz1.out).1
    have f0 := frozen_of_row w1 (w.heap.size + 1) 0 _ 27 Hz1.out
    have f1 := frozen_of_row w1 (w.heap.size + 1) 1 _ 27 Hz1.out
    have f2 := frozen_of_row w1 (w.heap.size + 1) 2 _ 27 Hz1.out
    have f3 := frozen_of_row w1 (w.heap.size + 1) 3 _ 27 Hz1.out
    have f4 := frozen_of_row w1 (w.heap.size + 1) 4 _ 27 Hz1.out
    have f5 := frozen_of_row w1 (w.heap.size + 1) 5 _ 27 Hz1.out
    have f6 := frozen_of_row w1 (w.heap.size + 1) 6 _ 27 Hz1.out
    have f7 := frozen_of_row w1 (w.heap.size + 1) 7 _ 27 Hz1.out
    have Hput := Lib.hid (cell_put8 Hz1.out nilV (.bool false) (.int .i64 0) (.int .i64 0) (.int .i64 0) (.int .u64 0) (.int .u64 0) (.bool false))
    go_wp2
    exact bodyPost_ret (v := .tuple #[.agg zlog, nilV, .int .i64 17]) (by simp [results, Tryz.results25, go_sem, y0, y1, y2, y3, y4, y5, y6, y7, Hput.out.1, Hput.out.2.1, Hput.out.2.2.1, Hput.out.2.2.2.1, Hput.out.2.2.2.2.1, Hput.out.2.2.2.2.2.1, Hput.out.2.2.2.2.2.2.1, Hput.out.2.2.2.2.2.2.2]) rfl
      (opP_zero Ho.out (below_put8 Hb1.out (by omega) _ _ _ _ _ _ _ _))
  | false =>
    go_wp2_with fail
    refine (lbegin_any w1 ad cap n ⟨⟨fs, false, fuse, fault⟩, size, 0, 0, false⟩ HI1.out.i (by have h1 := HI1.out.i.1; have h2 := HR.out.1; omega)).mono ?_
    rintro e w2 ⟨g, ad2, n2, cap2, rfl, hg, hi2, ho2, hlow, hof, hb2⟩
    have HL := Lib.hid (show LAt w2 g ad2 n2 cap2 ⟨⟨fs, false, fuse, fault⟩, size, 0, 0, false⟩ from ⟨hg, ⟨hi2, HI1.out.fit, HI1.out.u0, HI1.out.u1, HI1.out.f0, HI1.out.f1⟩, ho2, fun b e => (hof b e).2⟩)
    have Hof := Lib.hid (fun b e => (hof b e).1)
    have Hlow := Lib.hid hlow
    have hz1 := (Array.getElem?_eq_some_iff.1 Hz1.out).1
    have Hz1s := Lib.hid hz1
    have Hz2 := Lib.hid ((hb2.block _ hz1).trans Hz1.out)
    have Hx2 := Lib.hid ((hb2.block _ hlx).trans Hx1.out)
    have HI2 := Lib.hid (HI1.out.under hb2)
    have HT2 := Lib.hid (HT1.out.under hb2)
    have Hb2 := Lib.hid (Hb1.out.trans (hb2.mono Hb1.out.size))
    have Hb2w := Lib.hid hb2
    have hw2 : 6 ≤ w2.heap.size := by have := hb2.size; omega
    clear d0 d1 d2 d3 hlx hg hi2 ho2 hlow hof hb2 hz1 Hx1 Hz1 HI1 HT1
    obtain ⟨d0, d1, d2, d3⟩ := box4' Hx2.out
    have hlx := (Array.getElem?_eq_some_iff.1 Hx2.out).1
    go_wp2_with fail
    refine (read_any w2 ad n cap false fuse fault fs HI2.out.i HR.out HT2.out hw2).mono ?_
    rintro e w3 ⟨rv, mv, rfl, hrr, hmt, hb3⟩
    have hg2 := (Array.getElem?_eq_some_iff.1 HL.out.h).1
    obtain ⟨am, cm, rfl, hsat⟩ := hmt.form g hg2
    obtain ⟨ar, cr, rfl, hat, hob⟩ := hrr.form
    have Hob := Lib.hid hob
    have hcr := hrr.cap
    clear hob
    have HLr := Lib.hid (HL.out.under hb3)
    have Hat := Lib.hid hat
    have Hsat := Lib.hid hsat
    have Hz3 := Lib.hid ((hb3.block _ (Array.getElem?_eq_some_iff.1 Hz2.out).1).trans Hz2.out)
    have Hb3 := Lib.hid (Hb2.out.trans (hb3.mono Hb2.out.size))
    have Hb3w := Lib.hid hb3.size
    have hg3 := (Array.getElem?_eq_some_iff.1 HLr.out.h).1
    have Hfrm := Lib.hid (fromM_bd (filesM fs))
    have Hnx := Lib.hid (rdM_bd (filesM fs) _ (fromM_bd (filesM fs)))
    have Hnl := Lib.hid (mends_len HR.out)
    have Hfit := Lib.hid (mends_fit (mendM fs) fs HR.out rfl)
    obtain ⟨fr1, hfr1⟩ : ∃ x, fromM (filesM fs) = x := ⟨_, rfl⟩
    obtain ⟨nx1, hnx1⟩ : ∃ x, (rdF fs).nx = x := ⟨_, rfl⟩
    obtain ⟨rs1, hrs1⟩ : ∃ x, (rdF fs).rs = x := ⟨_, rfl⟩
    obtain ⟨ms1, hms1⟩ : ∃ x, mendM fs = x := ⟨_, rfl⟩
    obtain ⟨⟨⟨⟨fs5, dn5, fu5, fa5⟩, sz5, fr5, nx5, br5⟩, c5⟩, hr⟩ : ∃ r, doS ⟨⟨fs, false, fuse, fault⟩, size, 0, 0, false⟩ ms1 = r := ⟨_, rfl⟩
    have ho : openM ⟨fs, false, fuse, fault⟩ size = if c5 = 0 then (⟨⟨fs5, dn5, fu5, fa5⟩, sz5, (fr1 : Int), (nx1 : Int), br5⟩, rs1, 0) else (⟨⟨fs5, dn5, fu5, fa5⟩, sz5, fr5, nx5, br5⟩, [], c5) := by
      unfold openM
      rw [if_neg (fun h => h HR.out), if_neg (fun h => h HS.out), if_neg (by simp), hms1, hr, hfr1, hnx1, hrs1]
    have Ho := Lib.hid ho
    rw [hrs1] at hat
    rw [hms1] at hsat
    have Hat := Lib.hid hat
    have Hsat := Lib.hid hsat
    rw [hfr1] at Hfrm
    rw [hms1] at Hnl Hfit
    have Hnx := Lib.hid (show nx1 ≤ 4611686018427387904 from by rw [← hnx1]; exact Hnx.out)
    rw [hrs1] at Hob hcr
    have Hcr := Lib.hid hcr
    clear hcr
    have Hob2 := Lib.hid (show ∀ b, (Value.slice ar rs1.length cr).ownBlock = some b → w2.heap.size ≤ b from Hob.out)
    rw [hfr1, hnx1, hrs1, hms1]
    have Hr := Lib.hid hr
    clear hr ho hat hsat hrr hmt hb3 hfr1 hnx1 hrs1 hms1 d0 d1 d2 d3 hlx
    obtain ⟨W4, hW4⟩ : ∃ W, W = w3.alloc (.cells #[.int .u64 (fr1 : Int), .int .u64 (nx1 : Int), .slice ar rs1.length cr, .slice am ms1.length cm] 113) := ⟨_, rfl⟩
    have hb4 : Below w3.heap.size w3 W4 := by rw [hW4]; exact (Below.refl _ w3).alloc (Nat.le_refl _) _
    have hq4 : W4.heap[w3.heap.size]? = some (.cells #[.int .u64 (fr1 : Int), .int .u64 (nx1 : Int), .slice ar rs1.length cr, .slice am ms1.length cm] 113 (0, 0)) := by rw [hW4]; exact blk_new w3 _
    have HL4 := Lib.hid (HLr.out.under hb4)
    have Hq4 := Lib.hid hq4
    have Hz4 := Lib.hid ((hb4.block _ (Array.getElem?_eq_some_iff.1 Hz3.out).1).trans Hz3.out)
    have Hat4 := Lib.hid (Hat.out.under hb4)
    have Hsat4 := Lib.hid ((Hsat.out.keep (fun k hk _ => hb4.block k hk)).up hb4.size)
    have Hb4 := Lib.hid (Hb3.out.trans (hb4.mono Hb3.out.size))
    have Hs4 := Lib.hid hb4.size
    clear hb4 hq4 HLr Hz3 Hat Hsat Hb3
    go_upto_region 10 with (fail)
    rw [← hW4]
    clear hW4
    obtain ⟨q0, q1, q2, q3⟩ := box4' Hq4.out
    have hlq := (Array.getElem?_eq_some_iff.1 Hq4.out).1
    go_wp2_with fail
    refine (ldo_any W4 g ad2 n2 cap2 _ am cm ms1 HL4.out Hsat4.out Hfit.out Hnl.out).mono ?_
    rw [Hr.out]
    rintro e w5 ⟨ad5, n5, cap5, rfl, hL5, hg5, ho5⟩
    have hgq : w3.heap.size ≠ g := by omega
    have HR5 := Lib.hid (show ∀ b, (Value.slice ar rs1.length cr).ownBlock = some b → g < b ∧ w.heap.size + 1 < b from fun b e => by have h1 := Hob2.out b e; have h2 := Hb2w.out.size; have h3 := Hz1s.out; omega)
    have Hz5 := Lib.hid ((hg5.block _ (Array.getElem?_eq_some_iff.1 Hz4.out).1 (fun e => by injection e with e; have := Hlow.out; have := Hz1s.out; omega)).trans Hz4.out)
    have Hq5 := Lib.hid ((hg5.block _ hlq (fun e => hgq (by injection e))).trans Hq4.out)
    have HL5 := Lib.hid hL5
    have Hb5 := Lib.hid (kd_to_below Hb4.out hg5 (by have := Hlow.out; have := Hb1.out.size; omega) Hb4.out.size)
    have Hat5 := Lib.hid (Hat4.out.far hg5.size (fun b e hb => hg5.block b hb (fun e2 => by injection e2 with e2; have := HR5.out b e; omega)))
    have Ho5 := Lib.hid (show ∀ b, (Value.slice ad5 n5 cap5).ownBlock = some b → w1.heap.size ≤ b from fun b hb => (ho5 b hb).elim (fun h => Hof.out b h) (fun h => by have h1 := Hb2w.out.size; have h2 := Hb3w.out; have h3 := Hs4.out; omega))
    clear hL5 ho5 hg5 q0 q1 q2 q3 hlq
    by_cases hc5 : c5 = 0
    rotate_left
    · have hc1 : (c5 != 0) = true := by simp [hc5]
      rw [if_neg hc5] at Ho
      clear hc5
      obtain ⟨y0, y1, y2, y3, y4, y5, y6, y7⟩ := box8 Hz5.out
      have hlz := (Array.getElem?_eq_some_iff.1 Hz5.out).1
      have f0 := frozen_of_row w5 (w.heap.size + 1) 0 _ 27 Hz5.out
      have f1 := frozen_of_row w5 (w.heap.size + 1) 1 _ 27 Hz5.out
      have f2 := frozen_of_row w5 (w.heap.size + 1) 2 _ 27 Hz5.out
      have f3 := frozen_of_row w5 (w.heap.size + 1) 3 _ 27 Hz5.out
      have f4 := frozen_of_row w5 (w.heap.size + 1) 4 _ 27 Hz5.out
      have f5 := frozen_of_row w5 (w.heap.size + 1) 5 _ 27 Hz5.out
      have f6 := frozen_of_row w5 (w.heap.size + 1) 6 _ 27 Hz5.out
      have f7 := frozen_of_row w5 (w.heap.size + 1) 7 _ 27 Hz5.out
      have Hput := Lib.hid (cell_put8 Hz5.out (.slice ad5 n5 cap5) (.bool dn5) (.int .i64 fu5) (.int .i64 fa5) (.int .i64 sz5) (.int .u64 fr5) (.int .u64 nx5) (.bool br5))
      obtain ⟨d0, d1, d2, d3, d4, d5, d6, d7⟩ := box8 HL5.out.h
      have hlg5 := (Array.getElem?_eq_some_iff.1 HL5.out.h).1
      go_wp2
      exact bodyPost_ret (v := .tuple #[.agg (lcells (.slice ad5 n5 cap5) dn5 fu5 fa5 sz5 fr5 nx5 br5), nilV, .int .i64 c5]) (by simp [results, Tryz.results25, go_sem, y0, y1, y2, y3, y4, y5, y6, y7, Hput.out.1, Hput.out.2.1, Hput.out.2.2.1, Hput.out.2.2.2.1, Hput.out.2.2.2.2.1, Hput.out.2.2.2.2.2.1, Hput.out.2.2.2.2.2.2.1, Hput.out.2.2.2.2.2.2.2]) rfl
        ⟨below_put8 Hb5.out (by omega) _ _ _ _ _ _ _ _, ad5, n5, cap5, none, 0, by rw [Ho.out]; rfl, by rw [Ho.out]; exact HL5.out.d.put8 (fun e => by have h1 := Ho5.out _ e; have h2 := Hz1s.out; omega) _ _ _ _ _ _ _ _, fun b hb => by have h1 := Ho5.out _ hb; have h2 := Hb1.out.size; omega, by rw [Ho.out]; exact fun hne => absurd rfl hne, by rw [Ho.out]; exact ⟨Nat.le_refl _, fun _ => rfl⟩⟩
    subst hc5
    rw [if_pos rfl] at Ho
    go_upto_region 13 with (fail)
    refine wp_region_any (by kernel_rfl) ?_
    obtain ⟨X5, hX5⟩ : ∃ W, w5.drew = W := ⟨_, rfl⟩
    change wpAny _ _ _ _ _ _ _ (w5.drew)
    rw [hX5]
    have hbx5 : Below w5.heap.size w5 X5 := by rw [← hX5]; exact (Below.refl _ w5).drew
    replace Hz5 := Lib.hid ((hbx5.block _ (Array.getElem?_eq_some_iff.1 Hz5.out).1).trans Hz5.out)
    replace Hq5 := Lib.hid ((hbx5.block _ (Array.getElem?_eq_some_iff.1 Hq5.out).1).trans Hq5.out)
    replace HL5 := Lib.hid (HL5.out.under hbx5)
    replace Hat5 := Lib.hid (Hat5.out.under hbx5)
    replace Hb5 := Lib.hid (Hb5.out.trans (hbx5.mono Hb5.out.size))
    clear hbx5 hX5
    skip
    obtain ⟨d0, d1, d2, d3, d4, d5, d6, d7⟩ := box8 HL5.out.h
    have hlg5 := (Array.getElem?_eq_some_iff.1 HL5.out.h).1
    obtain ⟨q0, q1, q2, q3⟩ := box4' Hq5.out
    have hlq := (Array.getElem?_eq_some_iff.1 Hq5.out).1
    have f5 := frozen_of_row X5 g 5 _ 117 HL5.out.h
    have f6 := frozen_of_row X5 g 6 _ 117 HL5.out.h
    refine wpAny_take (i := 0) (v := ?va_1) rfl (by kernel_rfl) (by kernel_rfl) (by kernel_rfl) (fun _ _ _ h => h) (Or.inl ⟨by kernel_rfl, ?ha_1⟩) ?ra_1
    case ha_1 => (intro w; go_simp; first | done | (with_reducible rfl))
    refine wpAny_take (i := 1) (v := ?va_2) rfl (by kernel_rfl) (by kernel_rfl) (by kernel_rfl) (fun _ _ _ h => h) (Or.inl ⟨by kernel_rfl, ?ha_2⟩) ?ra_2
    case ha_2 => (intro w; go_simp; first | done | (with_reducible rfl))
    refine wpAny_take (i := 2) (v := ?va_3) rfl (by kernel_rfl) (by kernel_rfl) (by kernel_rfl) (fun _ _ _ h => h) (Or.inl ⟨by kernel_rfl, ?ha_3⟩) ?ra_3
    case ha_3 => (intro w; go_simp; first | done | (with_reducible rfl))
    refine wpAny_take (i := 4) (v := ?va_4) rfl (by kernel_rfl) (by kernel_rfl) (by kernel_rfl) (fun _ _ _ h => h) (Or.inl ⟨by kernel_rfl, ?ha_4⟩) ?ra_4
    case ha_4 => (intro w; go_simp; first | done | (with_reducible rfl))
    refine wpAny_ready (rs := [3, 5]) (by kernel_rfl) (by simp) ?_
    refine AllReady.cons rfl (fun K hK => ?_) ?_
    · skip
      go_simp
      refine hK _ _ ?_
      clear hK K
      refine wpAny_take (i := 6) (v := ?va_5) rfl (by kernel_rfl) (by kernel_rfl) (by kernel_rfl) (fun _ _ _ h => h) (Or.inl ⟨by kernel_rfl, ?ha_5⟩) ?ra_5
      case ha_5 => (intro w; go_simp; first | done | (with_reducible rfl))
      refine wpAny_take (i := 7) (v := ?va_6) rfl (by kernel_rfl) (by kernel_rfl) (by kernel_rfl) (fun _ _ _ h => h) (Or.inl ⟨by kernel_rfl, ?ha_6⟩) ?ra_6
      case ha_6 => (intro w; go_simp; first | done | (with_reducible rfl))
      refine wpAny_take (i := 8) (v := ?va_7) rfl (by kernel_rfl) (by kernel_rfl) (by kernel_rfl) (fun _ _ _ h => h) (Or.inl ⟨by kernel_rfl, ?ha_7⟩) ?ra_7
      case ha_7 => (intro w; go_simp; first | done | (with_reducible rfl))
      refine wpAny_ready (rs := [5, 9]) (by kernel_rfl) (by simp) ?_
      refine AllReady.cons rfl (fun K hK => ?_) ?_
      · skip
        go_simp
        refine hK _ _ ?_
        clear hK K
        refine wpAny_ready (rs := [9]) (by kernel_rfl) (by simp) ?_
        refine AllReady.cons rfl (fun K hK => ?_) AllReady.nil
        go_simp
        refine hK _ _ ?_
        clear hK K
        refine wpAny_take (i := 10) (v := ?va_8) rfl (by kernel_rfl) (by kernel_rfl) (by kernel_rfl) (fun _ _ _ h => h) (Or.inl ⟨by kernel_rfl, ?ha_8⟩) ?ra_8
        case ha_8 => (intro w; go_simp; first | done | (with_reducible rfl))
        refine wpAny_take (i := 11) (v := ?va_9) rfl (by kernel_rfl) (by kernel_rfl) (by kernel_rfl) (fun _ _ _ h => h) (Or.inl ⟨by kernel_rfl, ?ha_9⟩) ?ra_9
        case ha_9 => (intro w; go_simp; first | done | (with_reducible rfl))
        refine wpAny_take (i := 12) (v := ?va_10) rfl (by kernel_rfl) (by kernel_rfl) (by kernel_rfl) (fun _ _ _ h => h) (Or.inl ⟨by kernel_rfl, ?ha_10⟩) ?ra_10
        case ha_10 => (intro w; go_simp; first | done | (with_reducible rfl))
        refine wpAny_ready (rs := [13]) (by kernel_rfl) (by simp) ?_
        refine AllReady.cons rfl (fun K hK => ?_) AllReady.nil
        go_simp
        refine hK _ _ ?_
        clear hK K
        refine wpAny_done (by kernel_rfl) ?_ _
        try go_simp
        clear d0 d1 d2 d3 d4 d5 d6 d7 f5 f6 q0 q1 q2 q3
        first | (obtain ⟨W6, hW6⟩ : ∃ W, W = (X5.setCell ⟨g, 5, none⟩ (.int .u64 (fr1 : Int))).setCell ⟨g, 6, none⟩ (.int .u64 (nx1 : Int)) := ⟨_, rfl⟩; rw [← hW6]; have HL6 := Lib.hid (show LAt W6 g ad5 n5 cap5 ⟨⟨fs5, dn5, fu5, fa5⟩, sz5, (fr1 : Int), (nx1 : Int), br5⟩ from by rw [hW6]; exact (HL5.out.frm _).nxt _); have hg6 : X5.grownBy W6 (some g) := by rw [hW6]; exact kd_set (kd_set (kd_refl g X5) _) _) | (obtain ⟨W6, hW6⟩ : ∃ W, W = (X5.setCell ⟨g, 6, none⟩ (.int .u64 (nx1 : Int))).setCell ⟨g, 5, none⟩ (.int .u64 (fr1 : Int)) := ⟨_, rfl⟩; rw [← hW6]; have HL6 := Lib.hid (show LAt W6 g ad5 n5 cap5 ⟨⟨fs5, dn5, fu5, fa5⟩, sz5, (fr1 : Int), (nx1 : Int), br5⟩ from by rw [hW6]; exact (HL5.out.nxt _).frm _); have hg6 : X5.grownBy W6 (some g) := by rw [hW6]; exact kd_set (kd_set (kd_refl g X5) _) _)
        have Hz6 := Lib.hid ((hg6.block _ (Array.getElem?_eq_some_iff.1 Hz5.out).1 (fun e => by injection e with e; have := Hlow.out; have := Hz1s.out; omega)).trans Hz5.out)
        have Hq6 := Lib.hid ((hg6.block _ (Array.getElem?_eq_some_iff.1 Hq5.out).1 (fun e => hgq (by injection e))).trans Hq5.out)
        have Hb6 := Lib.hid (kd_to_below Hb5.out hg6 (by have := Hlow.out; have := Hb1.out.size; omega) Hb5.out.size)
        have Hat6 := Lib.hid (Hat5.out.far hg6.size (fun b e hb => hg6.block b hb (fun e2 => by injection e2 with e2; have := HR5.out b e; omega)))
        clear hg6
        go_upto_region 14 with (fail)
        refine wp_region_any (by kernel_rfl) ?_
        obtain ⟨W7, hW7⟩ : ∃ W, W6.drew = W := ⟨_, rfl⟩
        change wpAny _ _ _ _ _ _ _ (W6.drew)
        rw [hW7]
        have hb7 : Below W6.heap.size W6 W7 := by rw [← hW7]; exact (Below.refl _ W6).drew
        have HL7 := Lib.hid (HL6.out.under hb7)
        have Hq7 := Lib.hid ((hb7.block _ (Array.getElem?_eq_some_iff.1 Hq6.out).1).trans Hq6.out)
        have Hz7 := Lib.hid ((hb7.block _ (Array.getElem?_eq_some_iff.1 Hz6.out).1).trans Hz6.out)
        have Hat7 := Lib.hid (Hat6.out.under hb7)
        have Hb7 := Lib.hid (Hb6.out.trans (hb7.mono Hb6.out.size))
        clear hb7 hW7
        obtain ⟨y0, y1, y2, y3, y4, y5, y6, y7⟩ := box8 Hz7.out
        have hlz := (Array.getElem?_eq_some_iff.1 Hz7.out).1
        have f0 := frozen_of_row W7 (w.heap.size + 1) 0 _ 27 Hz7.out
        have f1 := frozen_of_row W7 (w.heap.size + 1) 1 _ 27 Hz7.out
        have f2 := frozen_of_row W7 (w.heap.size + 1) 2 _ 27 Hz7.out
        have f3 := frozen_of_row W7 (w.heap.size + 1) 3 _ 27 Hz7.out
        have f4 := frozen_of_row W7 (w.heap.size + 1) 4 _ 27 Hz7.out
        have f5 := frozen_of_row W7 (w.heap.size + 1) 5 _ 27 Hz7.out
        have f6 := frozen_of_row W7 (w.heap.size + 1) 6 _ 27 Hz7.out
        have f7 := frozen_of_row W7 (w.heap.size + 1) 7 _ 27 Hz7.out
        have Hput := Lib.hid (cell_put8 Hz7.out (.slice ad5 n5 cap5) (.bool dn5) (.int .i64 fu5) (.int .i64 fa5) (.int .i64 sz5) (.int .u64 (fr1 : Int)) (.int .u64 (nx1 : Int)) (.bool br5))
        obtain ⟨d0, d1, d2, d3, d4, d5, d6, d7⟩ := box8 HL7.out.h
        have hqz : w3.heap.size ≠ w.heap.size + 1 := by have h1 := Hz1s.out; have h2 := Hb2w.out.size; have h3 := Hb3w.out; omega
        have qp2 := put8_cell (box4' Hq7.out).2.2.1 hqz (.slice ad5 n5 cap5) (.bool dn5) (.int .i64 fu5) (.int .i64 fa5) (.int .i64 sz5) (.int .u64 (fr1 : Int)) (.int .u64 (nx1 : Int)) (.bool br5)
        clear hqz
        have hlg7 := (Array.getElem?_eq_some_iff.1 HL7.out.h).1
        obtain ⟨q0, q1, q2, q3⟩ := box4' Hq7.out
        have hlq := (Array.getElem?_eq_some_iff.1 Hq7.out).1
        refine wpAny_take (i := 0) (v := ?vb1_1) rfl (by kernel_rfl) (by kernel_rfl) (by kernel_rfl) (fun _ _ _ h => h) (Or.inl ⟨by kernel_rfl, ?hb1_1⟩) ?rb1_1
        case hb1_1 => (intro w; go_simp; first | done | (with_reducible rfl))
        refine wpAny_take (i := 1) (v := ?vb1_2) rfl (by kernel_rfl) (by kernel_rfl) (by kernel_rfl) (fun _ _ _ h => h) (Or.inl ⟨by kernel_rfl, ?hb1_2⟩) ?rb1_2
        case hb1_2 => (intro w; go_simp; first | done | (with_reducible rfl))
        refine wpAny_take (i := 2) (v := ?vb1_3) rfl (by kernel_rfl) (by kernel_rfl) (by kernel_rfl) (fun _ _ _ h => h) (Or.inl ⟨by kernel_rfl, ?hb1_3⟩) ?rb1_3
        case hb1_3 => (intro w; go_simp; first | done | (with_reducible rfl))
        refine wpAny_take (i := 4) (v := ?vb1_4) rfl (by kernel_rfl) (by kernel_rfl) (by kernel_rfl) (fun _ _ _ h => h) (Or.inl ⟨by kernel_rfl, ?hb1_4⟩) ?rb1_4
        case hb1_4 => (intro w; go_simp; first | done | (with_reducible rfl))
        refine wpAny_ready (rs := [3, 5]) (by kernel_rfl) (by simp) ?_
        refine AllReady.cons rfl (fun K hK => ?_) ?_
        · skip
          go_simp
          refine hK _ _ ?_
          clear hK K
          refine wpAny_ready (rs := [5, 6]) (by kernel_rfl) (by simp) ?_
          refine AllReady.cons rfl (fun K hK => ?_) ?_
          · skip
            go_simp
            refine hK _ _ ?_
            clear hK K
            refine wpAny_ready (rs := [6]) (by kernel_rfl) (by simp) ?_
            refine AllReady.cons rfl (fun K hK => ?_) AllReady.nil
            go_simp
            refine hK _ _ ?_
            clear hK K
            refine wpAny_ready (rs := [7]) (by kernel_rfl) (by simp) ?_
            refine AllReady.cons rfl (fun K hK => ?_) AllReady.nil
            go_simp
            refine hK _ _ ?_
            clear hK K
            refine wpAny_ready (rs := [8]) (by kernel_rfl) (by simp) ?_
            refine AllReady.cons rfl (fun K hK => ?_) AllReady.nil
            go_simp
            refine hK _ _ ?_
            clear hK K
            refine wpAny_done (by kernel_rfl) ?_ _
            try go_simp
            clear y0 y1 y2 y3 y4 y5 y6 y7 f0 f1 f2 f3 f4 f5 f6 f7 d0 d1 d2 d3 d4 d5 d6 d7 q0 q1 q2 q3 qp2
            go_wp2
            exact bodyPost_ret (v := .tuple #[.agg (lcells (.slice ad5 n5 cap5) dn5 fu5 fa5 sz5 (fr1 : Int) (nx1 : Int) br5), .slice ar rs1.length cr, .int .i64 0]) (by simp [results, Tryz.results25, go_sem, Hput.out.1, Hput.out.2.1, Hput.out.2.2.1, Hput.out.2.2.2.1, Hput.out.2.2.2.2.1, Hput.out.2.2.2.2.2.1, Hput.out.2.2.2.2.2.2.1, Hput.out.2.2.2.2.2.2.2]) rfl
              ⟨below_put8 Hb7.out (by omega) _ _ _ _ _ _ _ _, ad5, n5, cap5, ar, cr, by rw [Ho.out], by rw [Ho.out]; exact HL7.out.d.put8 (fun e => by have h1 := Ho5.out _ e; have h2 := Hz1s.out; omega) _ _ _ _ _ _ _ _, fun b hb => by have h1 := Ho5.out _ hb; have h2 := Hb1.out.size; omega, by rw [Ho.out]; exact Hat7.out.put8 (fun b e => by have := HR5.out b e; omega) _ _ _ _ _ _ _ _, by rw [Ho.out]; exact Hcr.out⟩
          refine AllReady.cons rfl (fun K hK => ?_) AllReady.nil
          go_simp
          refine hK _ _ ?_
          clear hK K
          refine wpAny_ready (rs := [5]) (by kernel_rfl) (by simp) ?_
          refine AllReady.cons rfl (fun K hK => ?_) AllReady.nil
          go_simp
          refine hK _ _ ?_
          clear hK K
          refine wpAny_ready (rs := [7]) (by kernel_rfl) (by simp) ?_
          refine AllReady.cons rfl (fun K hK => ?_) AllReady.nil
          go_simp
          refine hK _ _ ?_
          clear hK K
          refine wpAny_ready (rs := [8]) (by kernel_rfl) (by simp) ?_
          refine AllReady.cons rfl (fun K hK => ?_) AllReady.nil
          go_simp
          refine hK _ _ ?_
          clear hK K
          refine wpAny_done (by kernel_rfl) ?_ _
          try go_simp
          clear y0 y1 y2 y3 y4 y5 y6 y7 f0 f1 f2 f3 f4 f5 f6 f7 d0 d1 d2 d3 d4 d5 d6 d7 q0 q1 q2 q3 qp2
          go_wp2
          exact bodyPost_ret (v := .tuple #[.agg (lcells (.slice ad5 n5 cap5) dn5 fu5 fa5 sz5 (fr1 : Int) (nx1 : Int) br5), .slice ar rs1.length cr, .int .i64 0]) (by simp [results, Tryz.results25, go_sem, Hput.out.1, Hput.out.2.1, Hput.out.2.2.1, Hput.out.2.2.2.1, Hput.out.2.2.2.2.1, Hput.out.2.2.2.2.2.1, Hput.out.2.2.2.2.2.2.1, Hput.out.2.2.2.2.2.2.2]) rfl
            ⟨below_put8 Hb7.out (by omega) _ _ _ _ _ _ _ _, ad5, n5, cap5, ar, cr, by rw [Ho.out], by rw [Ho.out]; exact HL7.out.d.put8 (fun e => by have h1 := Ho5.out _ e; have h2 := Hz1s.out; omega) _ _ _ _ _ _ _ _, fun b hb => by have h1 := Ho5.out _ hb; have h2 := Hb1.out.size; omega, by rw [Ho.out]; exact Hat7.out.put8 (fun b e => by have := HR5.out b e; omega) _ _ _ _ _ _ _ _, by rw [Ho.out]; exact Hcr.out⟩
        refine AllReady.cons rfl (fun K hK => ?_) AllReady.nil
        go_simp
        refine hK _ _ ?_
        clear hK K
        refine wpAny_ready (rs := [3]) (by kernel_rfl) (by simp) ?_
        refine AllReady.cons rfl (fun K hK => ?_) AllReady.nil
        go_simp
        refine hK _ _ ?_
        clear hK K
        refine wpAny_ready (rs := [6]) (by kernel_rfl) (by simp) ?_
        refine AllReady.cons rfl (fun K hK => ?_) AllReady.nil
        go_simp
        refine hK _ _ ?_
        clear hK K
        refine wpAny_ready (rs := [7]) (by kernel_rfl) (by simp) ?_
        refine AllReady.cons rfl (fun K hK => ?_) AllReady.nil
        go_simp
        refine hK _ _ ?_
        clear hK K
        refine wpAny_ready (rs := [8]) (by kernel_rfl) (by simp) ?_
        refine AllReady.cons rfl (fun K hK => ?_) AllReady.nil
        go_simp
        refine hK _ _ ?_
        clear hK K
        refine wpAny_done (by kernel_rfl) ?_ _
        try go_simp
        clear y0 y1 y2 y3 y4 y5 y6 y7 f0 f1 f2 f3 f4 f5 f6 f7 d0 d1 d2 d3 d4 d5 d6 d7 q0 q1 q2 q3 qp2
        go_wp2
        exact bodyPost_ret (v := .tuple #[.agg (lcells (.slice ad5 n5 cap5) dn5 fu5 fa5 sz5 (fr1 : Int) (nx1 : Int) br5), .slice ar rs1.length cr, .int .i64 0]) (by simp [results, Tryz.results25, go_sem, Hput.out.1, Hput.out.2.1, Hput.out.2.2.1, Hput.out.2.2.2.1, Hput.out.2.2.2.2.1, Hput.out.2.2.2.2.2.1, Hput.out.2.2.2.2.2.2.1, Hput.out.2.2.2.2.2.2.2]) rfl
          ⟨below_put8 Hb7.out (by omega) _ _ _ _ _ _ _ _, ad5, n5, cap5, ar, cr, by rw [Ho.out], by rw [Ho.out]; exact HL7.out.d.put8 (fun e => by have h1 := Ho5.out _ e; have h2 := Hz1s.out; omega) _ _ _ _ _ _ _ _, fun b hb => by have h1 := Ho5.out _ hb; have h2 := Hb1.out.size; omega, by rw [Ho.out]; exact Hat7.out.put8 (fun b e => by have := HR5.out b e; omega) _ _ _ _ _ _ _ _, by rw [Ho.out]; exact Hcr.out⟩
      refine AllReady.cons rfl (fun K hK => ?_) AllReady.nil
      go_simp
      refine hK _ _ ?_
      clear hK K
      refine wpAny_ready (rs := [5]) (by kernel_rfl) (by simp) ?_
      refine AllReady.cons rfl (fun K hK => ?_) AllReady.nil
      go_simp
      refine hK _ _ ?_
      clear hK K
      refine wpAny_take (i := 10) (v := ?va_11) rfl (by kernel_rfl) (by kernel_rfl) (by kernel_rfl) (fun _ _ _ h => h) (Or.inl ⟨by kernel_rfl, ?ha_11⟩) ?ra_11
      case ha_11 => (intro w; go_simp; first | done | (with_reducible rfl))
      refine wpAny_take (i := 11) (v := ?va_12) rfl (by kernel_rfl) (by kernel_rfl) (by kernel_rfl) (fun _ _ _ h => h) (Or.inl ⟨by kernel_rfl, ?ha_12⟩) ?ra_12
      case ha_12 => (intro w; go_simp; first | done | (with_reducible rfl))
      refine wpAny_take (i := 12) (v := ?va_13) rfl (by kernel_rfl) (by kernel_rfl) (by kernel_rfl) (fun _ _ _ h => h) (Or.inl ⟨by kernel_rfl, ?ha_13⟩) ?ra_13
      case ha_13 => (intro w; go_simp; first | done | (with_reducible rfl))
      refine wpAny_ready (rs := [13]) (by kernel_rfl) (by simp) ?_
      refine AllReady.cons rfl (fun K hK => ?_) AllReady.nil
      go_simp
      refine hK _ _ ?_
      clear hK K
      refine wpAny_done (by kernel_rfl) ?_ _
      try go_simp
      clear d0 d1 d2 d3 d4 d5 d6 d7 f5 f6 q0 q1 q2 q3
      first | (obtain ⟨W6, hW6⟩ : ∃ W, W = (X5.setCell ⟨g, 5, none⟩ (.int .u64 (fr1 : Int))).setCell ⟨g, 6, none⟩ (.int .u64 (nx1 : Int)) := ⟨_, rfl⟩; rw [← hW6]; have HL6 := Lib.hid (show LAt W6 g ad5 n5 cap5 ⟨⟨fs5, dn5, fu5, fa5⟩, sz5, (fr1 : Int), (nx1 : Int), br5⟩ from by rw [hW6]; exact (HL5.out.frm _).nxt _); have hg6 : X5.grownBy W6 (some g) := by rw [hW6]; exact kd_set (kd_set (kd_refl g X5) _) _) | (obtain ⟨W6, hW6⟩ : ∃ W, W = (X5.setCell ⟨g, 6, none⟩ (.int .u64 (nx1 : Int))).setCell ⟨g, 5, none⟩ (.int .u64 (fr1 : Int)) := ⟨_, rfl⟩; rw [← hW6]; have HL6 := Lib.hid (show LAt W6 g ad5 n5 cap5 ⟨⟨fs5, dn5, fu5, fa5⟩, sz5, (fr1 : Int), (nx1 : Int), br5⟩ from by rw [hW6]; exact (HL5.out.nxt _).frm _); have hg6 : X5.grownBy W6 (some g) := by rw [hW6]; exact kd_set (kd_set (kd_refl g X5) _) _)
      have Hz6 := Lib.hid ((hg6.block _ (Array.getElem?_eq_some_iff.1 Hz5.out).1 (fun e => by injection e with e; have := Hlow.out; have := Hz1s.out; omega)).trans Hz5.out)
      have Hq6 := Lib.hid ((hg6.block _ (Array.getElem?_eq_some_iff.1 Hq5.out).1 (fun e => hgq (by injection e))).trans Hq5.out)
      have Hb6 := Lib.hid (kd_to_below Hb5.out hg6 (by have := Hlow.out; have := Hb1.out.size; omega) Hb5.out.size)
      have Hat6 := Lib.hid (Hat5.out.far hg6.size (fun b e hb => hg6.block b hb (fun e2 => by injection e2 with e2; have := HR5.out b e; omega)))
      clear hg6
      go_upto_region 14 with (fail)
      refine wp_region_any (by kernel_rfl) ?_
      obtain ⟨W7, hW7⟩ : ∃ W, W6.drew = W := ⟨_, rfl⟩
      change wpAny _ _ _ _ _ _ _ (W6.drew)
      rw [hW7]
      have hb7 : Below W6.heap.size W6 W7 := by rw [← hW7]; exact (Below.refl _ W6).drew
      have HL7 := Lib.hid (HL6.out.under hb7)
      have Hq7 := Lib.hid ((hb7.block _ (Array.getElem?_eq_some_iff.1 Hq6.out).1).trans Hq6.out)
      have Hz7 := Lib.hid ((hb7.block _ (Array.getElem?_eq_some_iff.1 Hz6.out).1).trans Hz6.out)
      have Hat7 := Lib.hid (Hat6.out.under hb7)
      have Hb7 := Lib.hid (Hb6.out.trans (hb7.mono Hb6.out.size))
      clear hb7 hW7
      obtain ⟨y0, y1, y2, y3, y4, y5, y6, y7⟩ := box8 Hz7.out
      have hlz := (Array.getElem?_eq_some_iff.1 Hz7.out).1
      have f0 := frozen_of_row W7 (w.heap.size + 1) 0 _ 27 Hz7.out
      have f1 := frozen_of_row W7 (w.heap.size + 1) 1 _ 27 Hz7.out
      have f2 := frozen_of_row W7 (w.heap.size + 1) 2 _ 27 Hz7.out
      have f3 := frozen_of_row W7 (w.heap.size + 1) 3 _ 27 Hz7.out
      have f4 := frozen_of_row W7 (w.heap.size + 1) 4 _ 27 Hz7.out
      have f5 := frozen_of_row W7 (w.heap.size + 1) 5 _ 27 Hz7.out
      have f6 := frozen_of_row W7 (w.heap.size + 1) 6 _ 27 Hz7.out
      have f7 := frozen_of_row W7 (w.heap.size + 1) 7 _ 27 Hz7.out
      have Hput := Lib.hid (cell_put8 Hz7.out (.slice ad5 n5 cap5) (.bool dn5) (.int .i64 fu5) (.int .i64 fa5) (.int .i64 sz5) (.int .u64 (fr1 : Int)) (.int .u64 (nx1 : Int)) (.bool br5))
      obtain ⟨d0, d1, d2, d3, d4, d5, d6, d7⟩ := box8 HL7.out.h
      have hqz : w3.heap.size ≠ w.heap.size + 1 := by have h1 := Hz1s.out; have h2 := Hb2w.out.size; have h3 := Hb3w.out; omega
      have qp2 := put8_cell (box4' Hq7.out).2.2.1 hqz (.slice ad5 n5 cap5) (.bool dn5) (.int .i64 fu5) (.int .i64 fa5) (.int .i64 sz5) (.int .u64 (fr1 : Int)) (.int .u64 (nx1 : Int)) (.bool br5)
      clear hqz
      have hlg7 := (Array.getElem?_eq_some_iff.1 HL7.out.h).1
      obtain ⟨q0, q1, q2, q3⟩ := box4' Hq7.out
      have hlq := (Array.getElem?_eq_some_iff.1 Hq7.out).1
      refine wpAny_take (i := 0) (v := ?vb2_1) rfl (by kernel_rfl) (by kernel_rfl) (by kernel_rfl) (fun _ _ _ h => h) (Or.inl ⟨by kernel_rfl, ?hb2_1⟩) ?rb2_1
      case hb2_1 => (intro w; go_simp; first | done | (with_reducible rfl))
      refine wpAny_take (i := 1) (v := ?vb2_2) rfl (by kernel_rfl) (by kernel_rfl) (by kernel_rfl) (fun _ _ _ h => h) (Or.inl ⟨by kernel_rfl, ?hb2_2⟩) ?rb2_2
      case hb2_2 => (intro w; go_simp; first | done | (with_reducible rfl))
      refine wpAny_take (i := 2) (v := ?vb2_3) rfl (by kernel_rfl) (by kernel_rfl) (by kernel_rfl) (fun _ _ _ h => h) (Or.inl ⟨by kernel_rfl, ?hb2_3⟩) ?rb2_3
      case hb2_3 => (intro w; go_simp; first | done | (with_reducible rfl))
      refine wpAny_take (i := 4) (v := ?vb2_4) rfl (by kernel_rfl) (by kernel_rfl) (by kernel_rfl) (fun _ _ _ h => h) (Or.inl ⟨by kernel_rfl, ?hb2_4⟩) ?rb2_4
      case hb2_4 => (intro w; go_simp; first | done | (with_reducible rfl))
      refine wpAny_ready (rs := [3, 5]) (by kernel_rfl) (by simp) ?_
      refine AllReady.cons rfl (fun K hK => ?_) ?_
      · skip
        go_simp
        refine hK _ _ ?_
        clear hK K
        refine wpAny_ready (rs := [5, 6]) (by kernel_rfl) (by simp) ?_
        refine AllReady.cons rfl (fun K hK => ?_) ?_
        · skip
          go_simp
          refine hK _ _ ?_
          clear hK K
          refine wpAny_ready (rs := [6]) (by kernel_rfl) (by simp) ?_
          refine AllReady.cons rfl (fun K hK => ?_) AllReady.nil
          go_simp
          refine hK _ _ ?_
          clear hK K
          refine wpAny_ready (rs := [7]) (by kernel_rfl) (by simp) ?_
          refine AllReady.cons rfl (fun K hK => ?_) AllReady.nil
          go_simp
          refine hK _ _ ?_
          clear hK K
          refine wpAny_ready (rs := [8]) (by kernel_rfl) (by simp) ?_
          refine AllReady.cons rfl (fun K hK => ?_) AllReady.nil
          go_simp
          refine hK _ _ ?_
          clear hK K
          refine wpAny_done (by kernel_rfl) ?_ _
          try go_simp
          clear y0 y1 y2 y3 y4 y5 y6 y7 f0 f1 f2 f3 f4 f5 f6 f7 d0 d1 d2 d3 d4 d5 d6 d7 q0 q1 q2 q3 qp2
          go_wp2
          exact bodyPost_ret (v := .tuple #[.agg (lcells (.slice ad5 n5 cap5) dn5 fu5 fa5 sz5 (fr1 : Int) (nx1 : Int) br5), .slice ar rs1.length cr, .int .i64 0]) (by simp [results, Tryz.results25, go_sem, Hput.out.1, Hput.out.2.1, Hput.out.2.2.1, Hput.out.2.2.2.1, Hput.out.2.2.2.2.1, Hput.out.2.2.2.2.2.1, Hput.out.2.2.2.2.2.2.1, Hput.out.2.2.2.2.2.2.2]) rfl
            ⟨below_put8 Hb7.out (by omega) _ _ _ _ _ _ _ _, ad5, n5, cap5, ar, cr, by rw [Ho.out], by rw [Ho.out]; exact HL7.out.d.put8 (fun e => by have h1 := Ho5.out _ e; have h2 := Hz1s.out; omega) _ _ _ _ _ _ _ _, fun b hb => by have h1 := Ho5.out _ hb; have h2 := Hb1.out.size; omega, by rw [Ho.out]; exact Hat7.out.put8 (fun b e => by have := HR5.out b e; omega) _ _ _ _ _ _ _ _, by rw [Ho.out]; exact Hcr.out⟩
        refine AllReady.cons rfl (fun K hK => ?_) AllReady.nil
        go_simp
        refine hK _ _ ?_
        clear hK K
        refine wpAny_ready (rs := [5]) (by kernel_rfl) (by simp) ?_
        refine AllReady.cons rfl (fun K hK => ?_) AllReady.nil
        go_simp
        refine hK _ _ ?_
        clear hK K
        refine wpAny_ready (rs := [7]) (by kernel_rfl) (by simp) ?_
        refine AllReady.cons rfl (fun K hK => ?_) AllReady.nil
        go_simp
        refine hK _ _ ?_
        clear hK K
        refine wpAny_ready (rs := [8]) (by kernel_rfl) (by simp) ?_
        refine AllReady.cons rfl (fun K hK => ?_) AllReady.nil
        go_simp
        refine hK _ _ ?_
        clear hK K
        refine wpAny_done (by kernel_rfl) ?_ _
        try go_simp
        clear y0 y1 y2 y3 y4 y5 y6 y7 f0 f1 f2 f3 f4 f5 f6 f7 d0 d1 d2 d3 d4 d5 d6 d7 q0 q1 q2 q3 qp2
        go_wp2
        exact bodyPost_ret (v := .tuple #[.agg (lcells (.slice ad5 n5 cap5) dn5 fu5 fa5 sz5 (fr1 : Int) (nx1 : Int) br5), .slice ar rs1.length cr, .int .i64 0]) (by simp [results, Tryz.results25, go_sem, Hput.out.1, Hput.out.2.1, Hput.out.2.2.1, Hput.out.2.2.2.1, Hput.out.2.2.2.2.1, Hput.out.2.2.2.2.2.1, Hput.out.2.2.2.2.2.2.1, Hput.out.2.2.2.2.2.2.2]) rfl
          ⟨below_put8 Hb7.out (by omega) _ _ _ _ _ _ _ _, ad5, n5, cap5, ar, cr, by rw [Ho.out], by rw [Ho.out]; exact HL7.out.d.put8 (fun e => by have h1 := Ho5.out _ e; have h2 := Hz1s.out; omega) _ _ _ _ _ _ _ _, fun b hb => by have h1 := Ho5.out _ hb; have h2 := Hb1.out.size; omega, by rw [Ho.out]; exact Hat7.out.put8 (fun b e => by have := HR5.out b e; omega) _ _ _ _ _ _ _ _, by rw [Ho.out]; exact Hcr.out⟩
      refine AllReady.cons rfl (fun K hK => ?_) AllReady.nil
      go_simp
      refine hK _ _ ?_
      clear hK K
      refine wpAny_ready (rs := [3]) (by kernel_rfl) (by simp) ?_
      refine AllReady.cons rfl (fun K hK => ?_) AllReady.nil
      go_simp
      refine hK _ _ ?_
      clear hK K
      refine wpAny_ready (rs := [6]) (by kernel_rfl) (by simp) ?_
      refine AllReady.cons rfl (fun K hK => ?_) AllReady.nil
      go_simp
      refine hK _ _ ?_
      clear hK K
      refine wpAny_ready (rs := [7]) (by kernel_rfl) (by simp) ?_
      refine AllReady.cons rfl (fun K hK => ?_) AllReady.nil
      go_simp
      refine hK _ _ ?_
      clear hK K
      refine wpAny_ready (rs := [8]) (by kernel_rfl) (by simp) ?_
      refine AllReady.cons rfl (fun K hK => ?_) AllReady.nil
      go_simp
      refine hK _ _ ?_
      clear hK K
      refine wpAny_done (by kernel_rfl) ?_ _
      try go_simp
      clear y0 y1 y2 y3 y4 y5 y6 y7 f0 f1 f2 f3 f4 f5 f6 f7 d0 d1 d2 d3 d4 d5 d6 d7 q0 q1 q2 q3 qp2
      go_wp2
      exact bodyPost_ret (v := .tuple #[.agg (lcells (.slice ad5 n5 cap5) dn5 fu5 fa5 sz5 (fr1 : Int) (nx1 : Int) br5), .slice ar rs1.length cr, .int .i64 0]) (by simp [results, Tryz.results25, go_sem, Hput.out.1, Hput.out.2.1, Hput.out.2.2.1, Hput.out.2.2.2.1, Hput.out.2.2.2.2.1, Hput.out.2.2.2.2.2.1, Hput.out.2.2.2.2.2.2.1, Hput.out.2.2.2.2.2.2.2]) rfl
        ⟨below_put8 Hb7.out (by omega) _ _ _ _ _ _ _ _, ad5, n5, cap5, ar, cr, by rw [Ho.out], by rw [Ho.out]; exact HL7.out.d.put8 (fun e => by have h1 := Ho5.out _ e; have h2 := Hz1s.out; omega) _ _ _ _ _ _ _ _, fun b hb => by have h1 := Ho5.out _ hb; have h2 := Hb1.out.size; omega, by rw [Ho.out]; exact Hat7.out.put8 (fun b e => by have := HR5.out b e; omega) _ _ _ _ _ _ _ _, by rw [Ho.out]; exact Hcr.out⟩
    refine AllReady.cons rfl (fun K hK => ?_) AllReady.nil
    go_simp
    refine hK _ _ ?_
    clear hK K
    refine wpAny_ready (rs := [3]) (by kernel_rfl) (by simp) ?_
    refine AllReady.cons rfl (fun K hK => ?_) AllReady.nil
    go_simp
    refine hK _ _ ?_
    clear hK K
    refine wpAny_take (i := 6) (v := ?va_14) rfl (by kernel_rfl) (by kernel_rfl) (by kernel_rfl) (fun _ _ _ h => h) (Or.inl ⟨by kernel_rfl, ?ha_14⟩) ?ra_14
    case ha_14 => (intro w; go_simp; first | done | (with_reducible rfl))
    refine wpAny_take (i := 7) (v := ?va_15) rfl (by kernel_rfl) (by kernel_rfl) (by kernel_rfl) (fun _ _ _ h => h) (Or.inl ⟨by kernel_rfl, ?ha_15⟩) ?ra_15
    case ha_15 => (intro w; go_simp; first | done | (with_reducible rfl))
    refine wpAny_take (i := 8) (v := ?va_16) rfl (by kernel_rfl) (by kernel_rfl) (by kernel_rfl) (fun _ _ _ h => h) (Or.inl ⟨by kernel_rfl, ?ha_16⟩) ?ra_16
    case ha_16 => (intro w; go_simp; first | done | (with_reducible rfl))
    refine wpAny_ready (rs := [9]) (by kernel_rfl) (by simp) ?_
    refine AllReady.cons rfl (fun K hK => ?_) AllReady.nil
    go_simp
    refine hK _ _ ?_
    clear hK K
    refine wpAny_take (i := 10) (v := ?va_17) rfl (by kernel_rfl) (by kernel_rfl) (by kernel_rfl) (fun _ _ _ h => h) (Or.inl ⟨by kernel_rfl, ?ha_17⟩) ?ra_17
    case ha_17 => (intro w; go_simp; first | done | (with_reducible rfl))
    refine wpAny_take (i := 11) (v := ?va_18) rfl (by kernel_rfl) (by kernel_rfl) (by kernel_rfl) (fun _ _ _ h => h) (Or.inl ⟨by kernel_rfl, ?ha_18⟩) ?ra_18
    case ha_18 => (intro w; go_simp; first | done | (with_reducible rfl))
    refine wpAny_take (i := 12) (v := ?va_19) rfl (by kernel_rfl) (by kernel_rfl) (by kernel_rfl) (fun _ _ _ h => h) (Or.inl ⟨by kernel_rfl, ?ha_19⟩) ?ra_19
    case ha_19 => (intro w; go_simp; first | done | (with_reducible rfl))
    refine wpAny_ready (rs := [13]) (by kernel_rfl) (by simp) ?_
    refine AllReady.cons rfl (fun K hK => ?_) AllReady.nil
    go_simp
    refine hK _ _ ?_
    clear hK K
    refine wpAny_done (by kernel_rfl) ?_ _
    try go_simp
    clear d0 d1 d2 d3 d4 d5 d6 d7 f5 f6 q0 q1 q2 q3
    first | (obtain ⟨W6, hW6⟩ : ∃ W, W = (X5.setCell ⟨g, 5, none⟩ (.int .u64 (fr1 : Int))).setCell ⟨g, 6, none⟩ (.int .u64 (nx1 : Int)) := ⟨_, rfl⟩; rw [← hW6]; have HL6 := Lib.hid (show LAt W6 g ad5 n5 cap5 ⟨⟨fs5, dn5, fu5, fa5⟩, sz5, (fr1 : Int), (nx1 : Int), br5⟩ from by rw [hW6]; exact (HL5.out.frm _).nxt _); have hg6 : X5.grownBy W6 (some g) := by rw [hW6]; exact kd_set (kd_set (kd_refl g X5) _) _) | (obtain ⟨W6, hW6⟩ : ∃ W, W = (X5.setCell ⟨g, 6, none⟩ (.int .u64 (nx1 : Int))).setCell ⟨g, 5, none⟩ (.int .u64 (fr1 : Int)) := ⟨_, rfl⟩; rw [← hW6]; have HL6 := Lib.hid (show LAt W6 g ad5 n5 cap5 ⟨⟨fs5, dn5, fu5, fa5⟩, sz5, (fr1 : Int), (nx1 : Int), br5⟩ from by rw [hW6]; exact (HL5.out.nxt _).frm _); have hg6 : X5.grownBy W6 (some g) := by rw [hW6]; exact kd_set (kd_set (kd_refl g X5) _) _)
    have Hz6 := Lib.hid ((hg6.block _ (Array.getElem?_eq_some_iff.1 Hz5.out).1 (fun e => by injection e with e; have := Hlow.out; have := Hz1s.out; omega)).trans Hz5.out)
    have Hq6 := Lib.hid ((hg6.block _ (Array.getElem?_eq_some_iff.1 Hq5.out).1 (fun e => hgq (by injection e))).trans Hq5.out)
    have Hb6 := Lib.hid (kd_to_below Hb5.out hg6 (by have := Hlow.out; have := Hb1.out.size; omega) Hb5.out.size)
    have Hat6 := Lib.hid (Hat5.out.far hg6.size (fun b e hb => hg6.block b hb (fun e2 => by injection e2 with e2; have := HR5.out b e; omega)))
    clear hg6
    go_upto_region 14 with (fail)
    refine wp_region_any (by kernel_rfl) ?_
    obtain ⟨W7, hW7⟩ : ∃ W, W6.drew = W := ⟨_, rfl⟩
    change wpAny _ _ _ _ _ _ _ (W6.drew)
    rw [hW7]
    have hb7 : Below W6.heap.size W6 W7 := by rw [← hW7]; exact (Below.refl _ W6).drew
    have HL7 := Lib.hid (HL6.out.under hb7)
    have Hq7 := Lib.hid ((hb7.block _ (Array.getElem?_eq_some_iff.1 Hq6.out).1).trans Hq6.out)
    have Hz7 := Lib.hid ((hb7.block _ (Array.getElem?_eq_some_iff.1 Hz6.out).1).trans Hz6.out)
    have Hat7 := Lib.hid (Hat6.out.under hb7)
    have Hb7 := Lib.hid (Hb6.out.trans (hb7.mono Hb6.out.size))
    clear hb7 hW7
    obtain ⟨y0, y1, y2, y3, y4, y5, y6, y7⟩ := box8 Hz7.out
    have hlz := (Array.getElem?_eq_some_iff.1 Hz7.out).1
    have f0 := frozen_of_row W7 (w.heap.size + 1) 0 _ 27 Hz7.out
    have f1 := frozen_of_row W7 (w.heap.size + 1) 1 _ 27 Hz7.out
    have f2 := frozen_of_row W7 (w.heap.size + 1) 2 _ 27 Hz7.out
    have f3 := frozen_of_row W7 (w.heap.size + 1) 3 _ 27 Hz7.out
    have f4 := frozen_of_row W7 (w.heap.size + 1) 4 _ 27 Hz7.out
    have f5 := frozen_of_row W7 (w.heap.size + 1) 5 _ 27 Hz7.out
    have f6 := frozen_of_row W7 (w.heap.size + 1) 6 _ 27 Hz7.out
    have f7 := frozen_of_row W7 (w.heap.size + 1) 7 _ 27 Hz7.out
    have Hput := Lib.hid (cell_put8 Hz7.out (.slice ad5 n5 cap5) (.bool dn5) (.int .i64 fu5) (.int .i64 fa5) (.int .i64 sz5) (.int .u64 (fr1 : Int)) (.int .u64 (nx1 : Int)) (.bool br5))
    obtain ⟨d0, d1, d2, d3, d4, d5, d6, d7⟩ := box8 HL7.out.h
    have hqz : w3.heap.size ≠ w.heap.size + 1 := by have h1 := Hz1s.out; have h2 := Hb2w.out.size; have h3 := Hb3w.out; omega
    have qp2 := put8_cell (box4' Hq7.out).2.2.1 hqz (.slice ad5 n5 cap5) (.bool dn5) (.int .i64 fu5) (.int .i64 fa5) (.int .i64 sz5) (.int .u64 (fr1 : Int)) (.int .u64 (nx1 : Int)) (.bool br5)
    clear hqz
    have hlg7 := (Array.getElem?_eq_some_iff.1 HL7.out.h).1
    obtain ⟨q0, q1, q2, q3⟩ := box4' Hq7.out
    have hlq := (Array.getElem?_eq_some_iff.1 Hq7.out).1
    refine wpAny_take (i := 0) (v := ?vb3_1) rfl (by kernel_rfl) (by kernel_rfl) (by kernel_rfl) (fun _ _ _ h => h) (Or.inl ⟨by kernel_rfl, ?hb3_1⟩) ?rb3_1
    case hb3_1 => (intro w; go_simp; first | done | (with_reducible rfl))
    refine wpAny_take (i := 1) (v := ?vb3_2) rfl (by kernel_rfl) (by kernel_rfl) (by kernel_rfl) (fun _ _ _ h => h) (Or.inl ⟨by kernel_rfl, ?hb3_2⟩) ?rb3_2
    case hb3_2 => (intro w; go_simp; first | done | (with_reducible rfl))
    refine wpAny_take (i := 2) (v := ?vb3_3) rfl (by kernel_rfl) (by kernel_rfl) (by kernel_rfl) (fun _ _ _ h => h) (Or.inl ⟨by kernel_rfl, ?hb3_3⟩) ?rb3_3
    case hb3_3 => (intro w; go_simp; first | done | (with_reducible rfl))
    refine wpAny_take (i := 4) (v := ?vb3_4) rfl (by kernel_rfl) (by kernel_rfl) (by kernel_rfl) (fun _ _ _ h => h) (Or.inl ⟨by kernel_rfl, ?hb3_4⟩) ?rb3_4
    case hb3_4 => (intro w; go_simp; first | done | (with_reducible rfl))
    refine wpAny_ready (rs := [3, 5]) (by kernel_rfl) (by simp) ?_
    refine AllReady.cons rfl (fun K hK => ?_) ?_
    · skip
      go_simp
      refine hK _ _ ?_
      clear hK K
      refine wpAny_ready (rs := [5, 6]) (by kernel_rfl) (by simp) ?_
      refine AllReady.cons rfl (fun K hK => ?_) ?_
      · skip
        go_simp
        refine hK _ _ ?_
        clear hK K
        refine wpAny_ready (rs := [6]) (by kernel_rfl) (by simp) ?_
        refine AllReady.cons rfl (fun K hK => ?_) AllReady.nil
        go_simp
        refine hK _ _ ?_
        clear hK K
        refine wpAny_ready (rs := [7]) (by kernel_rfl) (by simp) ?_
        refine AllReady.cons rfl (fun K hK => ?_) AllReady.nil
        go_simp
        refine hK _ _ ?_
        clear hK K
        refine wpAny_ready (rs := [8]) (by kernel_rfl) (by simp) ?_
        refine AllReady.cons rfl (fun K hK => ?_) AllReady.nil
        go_simp
        refine hK _ _ ?_
        clear hK K
        refine wpAny_done (by kernel_rfl) ?_ _
        try go_simp
        clear y0 y1 y2 y3 y4 y5 y6 y7 f0 f1 f2 f3 f4 f5 f6 f7 d0 d1 d2 d3 d4 d5 d6 d7 q0 q1 q2 q3 qp2
        go_wp2
        exact bodyPost_ret (v := .tuple #[.agg (lcells (.slice ad5 n5 cap5) dn5 fu5 fa5 sz5 (fr1 : Int) (nx1 : Int) br5), .slice ar rs1.length cr, .int .i64 0]) (by simp [results, Tryz.results25, go_sem, Hput.out.1, Hput.out.2.1, Hput.out.2.2.1, Hput.out.2.2.2.1, Hput.out.2.2.2.2.1, Hput.out.2.2.2.2.2.1, Hput.out.2.2.2.2.2.2.1, Hput.out.2.2.2.2.2.2.2]) rfl
          ⟨below_put8 Hb7.out (by omega) _ _ _ _ _ _ _ _, ad5, n5, cap5, ar, cr, by rw [Ho.out], by rw [Ho.out]; exact HL7.out.d.put8 (fun e => by have h1 := Ho5.out _ e; have h2 := Hz1s.out; omega) _ _ _ _ _ _ _ _, fun b hb => by have h1 := Ho5.out _ hb; have h2 := Hb1.out.size; omega, by rw [Ho.out]; exact Hat7.out.put8 (fun b e => by have := HR5.out b e; omega) _ _ _ _ _ _ _ _, by rw [Ho.out]; exact Hcr.out⟩
      refine AllReady.cons rfl (fun K hK => ?_) AllReady.nil
      go_simp
      refine hK _ _ ?_
      clear hK K
      refine wpAny_ready (rs := [5]) (by kernel_rfl) (by simp) ?_
      refine AllReady.cons rfl (fun K hK => ?_) AllReady.nil
      go_simp
      refine hK _ _ ?_
      clear hK K
      refine wpAny_ready (rs := [7]) (by kernel_rfl) (by simp) ?_
      refine AllReady.cons rfl (fun K hK => ?_) AllReady.nil
      go_simp
      refine hK _ _ ?_
      clear hK K
      refine wpAny_ready (rs := [8]) (by kernel_rfl) (by simp) ?_
      refine AllReady.cons rfl (fun K hK => ?_) AllReady.nil
      go_simp
      refine hK _ _ ?_
      clear hK K
      refine wpAny_done (by kernel_rfl) ?_ _
      try go_simp
      clear y0 y1 y2 y3 y4 y5 y6 y7 f0 f1 f2 f3 f4 f5 f6 f7 d0 d1 d2 d3 d4 d5 d6 d7 q0 q1 q2 q3 qp2
      go_wp2
      exact bodyPost_ret (v := .tuple #[.agg (lcells (.slice ad5 n5 cap5) dn5 fu5 fa5 sz5 (fr1 : Int) (nx1 : Int) br5), .slice ar rs1.length cr, .int .i64 0]) (by simp [results, Tryz.results25, go_sem, Hput.out.1, Hput.out.2.1, Hput.out.2.2.1, Hput.out.2.2.2.1, Hput.out.2.2.2.2.1, Hput.out.2.2.2.2.2.1, Hput.out.2.2.2.2.2.2.1, Hput.out.2.2.2.2.2.2.2]) rfl
        ⟨below_put8 Hb7.out (by omega) _ _ _ _ _ _ _ _, ad5, n5, cap5, ar, cr, by rw [Ho.out], by rw [Ho.out]; exact HL7.out.d.put8 (fun e => by have h1 := Ho5.out _ e; have h2 := Hz1s.out; omega) _ _ _ _ _ _ _ _, fun b hb => by have h1 := Ho5.out _ hb; have h2 := Hb1.out.size; omega, by rw [Ho.out]; exact Hat7.out.put8 (fun b e => by have := HR5.out b e; omega) _ _ _ _ _ _ _ _, by rw [Ho.out]; exact Hcr.out⟩
    refine AllReady.cons rfl (fun K hK => ?_) AllReady.nil
    go_simp
    refine hK _ _ ?_
    clear hK K
    refine wpAny_ready (rs := [3]) (by kernel_rfl) (by simp) ?_
    refine AllReady.cons rfl (fun K hK => ?_) AllReady.nil
    go_simp
    refine hK _ _ ?_
    clear hK K
    refine wpAny_ready (rs := [6]) (by kernel_rfl) (by simp) ?_
    refine AllReady.cons rfl (fun K hK => ?_) AllReady.nil
    go_simp
    refine hK _ _ ?_
    clear hK K
    refine wpAny_ready (rs := [7]) (by kernel_rfl) (by simp) ?_
    refine AllReady.cons rfl (fun K hK => ?_) AllReady.nil
    go_simp
    refine hK _ _ ?_
    clear hK K
    refine wpAny_ready (rs := [8]) (by kernel_rfl) (by simp) ?_
    refine AllReady.cons rfl (fun K hK => ?_) AllReady.nil
    go_simp
    refine hK _ _ ?_
    clear hK K
    refine wpAny_done (by kernel_rfl) ?_ _
    try go_simp
    clear y0 y1 y2 y3 y4 y5 y6 y7 f0 f1 f2 f3 f4 f5 f6 f7 d0 d1 d2 d3 d4 d5 d6 d7 q0 q1 q2 q3 qp2
    go_wp2
    exact bodyPost_ret (v := .tuple #[.agg (lcells (.slice ad5 n5 cap5) dn5 fu5 fa5 sz5 (fr1 : Int) (nx1 : Int) br5), .slice ar rs1.length cr, .int .i64 0]) (by simp [results, Tryz.results25, go_sem, Hput.out.1, Hput.out.2.1, Hput.out.2.2.1, Hput.out.2.2.2.1, Hput.out.2.2.2.2.1, Hput.out.2.2.2.2.2.1, Hput.out.2.2.2.2.2.2.1, Hput.out.2.2.2.2.2.2.2]) rfl
      ⟨below_put8 Hb7.out (by omega) _ _ _ _ _ _ _ _, ad5, n5, cap5, ar, cr, by rw [Ho.out], by rw [Ho.out]; exact HL7.out.d.put8 (fun e => by have h1 := Ho5.out _ e; have h2 := Hz1s.out; omega) _ _ _ _ _ _ _ _, fun b hb => by have h1 := Ho5.out _ hb; have h2 := Hb1.out.size; omega, by rw [Ho.out]; exact Hat7.out.put8 (fun b e => by have := HR5.out b e; omega) _ _ _ _ _ _ _ _, by rw [Ho.out]; exact Hcr.out⟩
end Go.Proofs.YtkhmdofeonlnpaaGreatDoor
