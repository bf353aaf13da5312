/- THE WALKS OVER put, create, remove. -/
import Derived.Test.YtcefhcailhediaaDo1
namespace Go.Proofs.Ytcefhcailhediaa
open Go.RowKit
set_option linter.unusedVariables false
set_option linter.unusedSimpArgs false

theorem op_app {P : Program} {w w1 : World} {o : Oper} {a : Act} {K : Act → World → Prop} {Q : Exit → Act → World → Prop} (s x : Operand) {T U : TypeId} {v1 : Value} (S V : Value) (hs : a.eval s = S) (hx : a.eval x = V)
    (ho : o.op = .call { callee := .builtin .append, args := #[s, x], argTypes := #[T, U] }) (hr : (Builtin.append_ #[T, U] o.type #[S, V]).run P w = .ok v1 w1) (h : K (a.put o.dst v1) w1) : Oper.wp P o a w K Q := by
  unfold Oper.wp execOp
  simp only [ho, resolve, invoke, builtin, Sem.run_bind, Sem.run_pure, Result.andThen_ok, List.map_toArray, List.map_cons, List.map_nil, hs, hx, hr]
  exact h

/-- append onto a slice without room -/
theorem app_full (X : World) (ao : Option Addr) (k : Nat) (olds news : List Value) (x : Value) (m : Nat) (ho : olds.length = k * 3)
    (hold : (Builtin.firstCells 3 k (.slice ao k k)).run Try.prog X.drew = .ok olds.toArray X.drew) (hs : Src Try.prog 3 22 x m news X) (hm : 0 < m) (hb : k + m ≤ 1000000) :
    ∃ v w1, (∀ ty, (Builtin.append_ #[22, 22] ty #[.slice ao k k, x]).run Try.prog X = .ok v w1) ∧ w1.ownsRow X.heap.size 46 3 v (k + m) (olds ++ news) ∧ X.grownBy w1 none := by
  obtain ⟨i0, hi, hz0, hz1, hz2⟩ := info_parts Try.info46
  have hlen : (olds ++ news).length = (k + m) * 3 := by rw [List.length_append, ho, hs.newsLen, Nat.add_mul]
  refine ⟨_, _, fun ty => run_append_grow_src X 22 22 ty 46 i0 _ Try.underlying22 hi hz0 ao k k olds (by rw [hz1]; exact hold) x m news (by rw [hz1]; exact hs) (by omega) (by omega) (by rw [hz2]; exact growslice_fits (by omega) (by omega)), ?_, ?_⟩
  · have hge := grownCap_ge X (k + m) k 46
    have hcm : grownCap X (k + m) k 46 ≤ maxLen := grownCap_le_maxLen X (k + m) k 46 (by simp [maxLen]; omega)
    refine ⟨hlen, .inr ⟨X.heap.size, _, _, rfl, Nat.le_refl _, heap_alloc_new X.drew _, hge, hcm, ?_, ?_⟩⟩
    · simp only [Array.size_append, List.size_toArray, size_zeroCells, hlen]
      simp only [Value.cells, List.size_toArray, List.length_cons, List.length_nil]
      rw [← Nat.add_mul]
      congr 1
      omega
    · simp only [Array.toList_append]
      rw [← hlen]
      exact List.take_left
  · exact ⟨rfl, rfl, rfl, by simp, fun j hj _ => heap_alloc_old X.drew _ hj⟩

/-- the slice from e on -/
def restV (gb e n cap : Nat) : Value := if e = cap then .slice (some ⟨gb, 0, none⟩) 0 0 else .slice (some ⟨gb, e * 3, none⟩) (n - e) (cap - e)
theorem flat_drop (fs : List F) (e : Nat) : (fs.drop e).flatMap fc = (fs.flatMap fc).drop (e * 3) := by
  induction fs generalizing e with
  | nil => simp
  | cons a t ih =>
    cases e with
    | zero => simp
    | succ e =>
      rw [List.drop_succ_cons, ih, List.flatMap_cons, List.drop_append]
      have h1 : (fc a).length = 3 := rfl
      have h2 : (fc a).drop ((e + 1) * 3) = [] := List.drop_of_length_le (by rw [h1]; omega)
      rw [h2, h1, List.nil_append, show (e + 1) * 3 - 3 = e * 3 by omega]
theorem flat_take (fs : List F) (e : Nat) : (fs.take e).flatMap fc = (fs.flatMap fc).take (e * 3) := by
  induction fs generalizing e with
  | nil => simp
  | cons a t ih =>
    cases e with
    | zero => simp
    | succ e =>
      rw [List.take_succ_cons, List.flatMap_cons, ih, List.flatMap_cons, List.take_append]
      have h1 : (fc a).length = 3 := rfl
      have h2 : (fc a).take ((e + 1) * 3) = fc a := List.take_of_length_le (by rw [h1]; omega)
      rw [h2, h1, show (e + 1) * 3 - 3 = e * 3 by omega]
theorem rest_src {w : World} {gb n cap e B : Nat} {fs : List F} (hn : n = fs.length) (he : e ≤ n) (hc : n ≤ cap) (hf : Fls w B (some ⟨gb, 0, none⟩) fs) : Src Try.prog 3 22 (restV gb e n cap) (n - e) ((fs.drop e).flatMap fc) w := by
  have hl : ((fs.drop e).flatMap fc).length = (n - e) * 3 := by rw [fc_len, List.length_drop, hn]
  unfold restV
  by_cases h : e = cap
  · rw [if_pos h]
    have h0 : n - e = 0 := by omega
    rw [h0] at hl ⊢
    have hnil : (fs.drop e).flatMap fc = [] := List.eq_nil_of_length_eq_zero (by omega)
    rw [hnil]
    exact Src.ofSlice _ Try.underlying22 _ 0 0 [] rfl (fun j u hu => by simp at hu) (fun u hu => by cases hu)
  · rw [if_neg h]
    refine Src.ofSlice _ Try.underlying22 _ (n - e) (cap - e) _ hl (fun j u hu => ?_) (fc_one _)
    have hne : fs ≠ [] := by rintro rfl; simp at hu
    obtain ⟨g', off', e', hg, hcell⟩ := hf.cells hne
    injection e' with e'
    injection e' with e1 e2
    subst e1 e2
    rw [Addr.add_lit]
    rw [flat_drop, List.getElem?_drop] at hu
    have := hcell _ u hu
    rwa [Nat.zero_add] at this
theorem head_cells {w : World} {gb at_ B : Nat} {fs : List F} (hat : at_ ≤ fs.length) (hf : Fls w B (some ⟨gb, 0, none⟩) fs) : (Builtin.firstCells 3 at_ (.slice (some ⟨gb, 0, none⟩) at_ at_)).run Try.prog w = .ok ((fs.take at_).flatMap fc).toArray w := by
  refine run_firstCells_some w 3 at_ _ at_ at_ _ (by rw [fc_len, List.length_take]; congr 1; omega) (fun j u hu => ?_)
  have hne : fs ≠ [] := by rintro rfl; simp at hu
  obtain ⟨g', off', e', hg, hcell⟩ := hf.cells hne
  injection e' with e'
  injection e' with e1 e2
  subst e1 e2
  rw [Addr.add_lit, Nat.zero_add]
  rw [flat_take, List.getElem?_take] at hu
  by_cases hj : j < at_ * 3
  · rw [if_pos hj] at hu
    have := hcell _ u hu
    rwa [Nat.zero_add] at this
  · rw [if_neg hj] at hu; cases hu

/-- what the two appends come to -/
def Two (X : World) (S x R : Value) (v1 : Value) (w1 : World) (ad2 : Option Addr) (n2 cap2 : Nat) (w2 : World) (out : List F) : Prop :=
  (∀ ty, (Builtin.append_ #[22, 22] ty #[S, x]).run Try.prog X = .ok v1 w1) ∧ (∀ ty, (Builtin.append_ #[22, 22] ty #[v1, R]).run Try.prog w1 = .ok (.slice ad2 n2 cap2) w2) ∧
  Below X.heap.size X w1 ∧ Below X.heap.size X w2 ∧ Inp w2 w2.heap.size ad2 n2 cap2 out ∧ ∀ b, (Value.slice ad2 n2 cap2).ownBlock = some b → X.heap.size ≤ b ∨ some b = S.ownBlock
theorem Inp.of_row {w : World} {base : Nat} {v : Value} {fs : List F} (h : FRow w base v fs) : ∃ ad cap, v = .slice ad fs.length cap ∧ Inp w w.heap.size ad fs.length cap fs := by
  obtain ⟨ad, cap, hv, hc, hnil, hf⟩ := h.fls
  exact ⟨ad, cap, hv, rfl, hc, hnil, hf⟩
theorem FRow.of_own {w : World} {base n : Nat} {v : Value} {fs : List F} (h : w.ownsRow base 46 3 v n (fs.flatMap fc)) : FRow w base v fs := by
  have hl := h.1
  rw [fc_len] at hl
  have : n = fs.length := by omega
  subst this
  exact h
theorem grown_below {w w' : World} (h : w.grownBy w' none) : Below w.heap.size w w' := ⟨h.os, h.tape, h.output, h.size, fun k hk => h.block k hk (by simp)⟩

/-- one file more, at a place -/
theorem two_ins (X : World) (gb n cap at_ e : Nat) (fs : List F) (f0 : F) (x : Value) (hn : n = fs.length) (hat : at_ ≤ n) (he : e ≤ n) (hc : n ≤ cap) (hb : n ≤ 1000) (hf : Fls X X.heap.size (some ⟨gb, 0, none⟩) fs) (hx : Src Try.prog 3 22 x 1 (fc f0) X) :
    ∃ v1 w1 ad2 n2 cap2 w2, Two X (.slice (some ⟨gb, 0, none⟩) at_ at_) x (restV gb e n cap) v1 w1 ad2 n2 cap2 w2 (fs.take at_ ++ f0 :: fs.drop e) := by
  obtain ⟨v1, w1, hr1, ho1, hg1⟩ := app_full X (some ⟨gb, 0, none⟩) at_ ((fs.take at_).flatMap fc) (fc f0) x 1 (by rw [fc_len, List.length_take]; congr 1; omega) (head_cells (w := X.drew) (by omega) (hf.keep ((Below.refl _ X).drew))) hx (by omega) (by omega)
  have hb1 := grown_below hg1
  have hsrc := rest_src (w := w1) (cap := cap) hn he hc (hf.keep hb1)
  obtain ⟨i0, hi, hz0, hz1, hz2⟩ := info_parts Try.info46
  have hsz := hb1.size
  obtain ⟨v2, w2, hr2, ho2, hg2⟩ : ∃ v2 w2, (∀ ty, (Builtin.append_ #[22, 22] ty #[v1, restV gb e n cap]).run Try.prog w1 = .ok v2 w2) ∧ w2.ownsRow X.heap.size 46 3 v2 (at_ + 1 + (n - e)) ((fs.take at_).flatMap fc ++ fc f0 ++ (fs.drop e).flatMap fc) ∧ w1.grownBy w2 v1.ownBlock := by
    have hR : ∃ a m c, restV gb e n cap = .slice (some a) m c ∧ m = n - e ∧ ∀ j u, ((fs.drop e).flatMap fc)[j]? = some u → w1.cell? (a.add j) = some u := by
      unfold restV
      by_cases h : e = cap
      · rw [if_pos h]
        refine ⟨_, _, _, rfl, by omega, fun j u hu => ?_⟩
        have hnil : fs.drop e = [] := List.drop_of_length_le (by omega)
        rw [hnil] at hu; simp at hu
      · rw [if_neg h]
        refine ⟨_, _, _, rfl, rfl, fun j u hu => ?_⟩
        have hne : fs ≠ [] := by rintro rfl; simp at hu
        obtain ⟨g', off', e', hg, hcell⟩ := (hf.keep hb1).cells hne
        injection e' with e'
        injection e' with e1 e2
        subst e1 e2
        rw [Addr.add_lit]
        rw [flat_drop, List.getElem?_drop] at hu
        have := hcell _ u hu
        rwa [Nat.zero_add] at this
    obtain ⟨a, m, c, hRv, hm, hcells⟩ := hR
    subst hm
    have := fun ty => run_append_own_at (P := Try.prog) w1 X.heap.size 22 ty 46 i0 _ 3 40 Try.underlying22 hi hz0 hz1 hz2 rfl (by decide) v1 (at_ + 1) _ ho1 a (n - e) c _ (by rw [fc_len, List.length_drop, hn]) hcells (fc_one _) (by simp [maxLen]; omega) (by omega) hsz
    rw [hRv]
    obtain ⟨v2, w2, h1, h2, h3, _⟩ := this 0
    refine ⟨v2, w2, fun ty => ?_, h2, h3⟩
    exact h1
  have hrow : FRow w2 X.heap.size v2 (fs.take at_ ++ f0 :: fs.drop e) := FRow.of_own (n := at_ + 1 + (n - e)) (by simpa [List.flatMap_append] using ho2)
  obtain ⟨ad2, cap2, rfl, hinp⟩ := Inp.of_row hrow
  refine ⟨v1, w1, ad2, _, cap2, w2, hr1, hr2, hb1, ?_, hinp, fun b hb => .inl (hrow.lt b hb).1⟩
  exact hb1.grown hg2 hsz (fun k hk => (World.ownsRow.lt ho1 k hk).1)

/-- none more, from a place on -/
theorem two_del (X : World) (gb n cap at_ e : Nat) (fs : List F) (hn : n = fs.length) (hat : at_ ≤ n) (he : e ≤ n) (hc : n ≤ cap) (hb : n ≤ 1000) (hlt : gb < X.heap.size) (hf : Fls X X.heap.size (some ⟨gb, 0, none⟩) fs) :
    ∃ v1 w1 ad2 n2 cap2 w2, Two X (.slice (some ⟨gb, 0, none⟩) at_ at_) (.slice none 0 0) (restV gb e n cap) v1 w1 ad2 n2 cap2 w2 (fs.take at_ ++ fs.drop e) := by
  obtain ⟨i0, hi, hz0, hz1, hz2⟩ := info_parts Try.info46
  have hr1 := fun ty => run_append_nothing (P := Try.prog) X 22 22 ty 46 i0 Try.underlying22 hi (some ⟨gb, 0, none⟩) at_ at_ (Nat.le_refl _) (.slice none 0 0) (by rw [hz1]; exact Src.ofNil X Try.underlying22 0)
  have hsrc := rest_src (w := X) (cap := cap) hn he hc hf
  have htl : (fs.take at_).length = at_ := by rw [List.length_take]; omega
  by_cases h0 : n - e = 0
  · have hnil : fs.drop e = [] := List.drop_of_length_le (by omega)
    rw [h0, hnil] at hsrc
    have hr2 := fun ty => run_append_nothing (P := Try.prog) X 22 22 ty 46 i0 Try.underlying22 hi (some ⟨gb, 0, none⟩) at_ at_ (Nat.le_refl _) _ (by rw [hz1]; exact hsrc)
    refine ⟨_, X, _, at_, at_, X, hr1, hr2, Below.refl _ _, Below.refl _ _, ?_, fun b hb => .inr hb.symm⟩
    rw [hnil, List.append_nil]
    refine ⟨htl.symm, Nat.le_refl _, (fun h => by cases h), fun hne => ?_⟩
    have hne' : fs ≠ [] := by rintro rfl; simp at hne
    obtain ⟨g', off', e', hg, hcell⟩ := hf hne'
    refine ⟨g', off', e', hg, fun i f hi => hcell i f ?_⟩
    rw [List.getElem?_take] at hi
    by_cases hia : i < at_
    · rwa [if_pos hia] at hi
    · rw [if_neg hia] at hi; cases hi
  · obtain ⟨v2, w2, hr2, ho2, hg2⟩ := app_full X (some ⟨gb, 0, none⟩) at_ ((fs.take at_).flatMap fc) _ _ (n - e) (by rw [fc_len, htl]) (head_cells (w := X.drew) (by omega) (hf.keep ((Below.refl _ X).drew))) hsrc (by omega) (by omega)
    have hrow : FRow w2 X.heap.size v2 (fs.take at_ ++ fs.drop e) := FRow.of_own (n := at_ + (n - e)) (by simpa [List.flatMap_append] using ho2)
    obtain ⟨ad2, cap2, rfl, hinp⟩ := Inp.of_row hrow
    exact ⟨_, X, ad2, _, cap2, w2, hr1, hr2, Below.refl _ _, grown_below hg2, hinp, fun b hb => .inl (hrow.lt b hb).1⟩
/-- the first file of all -/
theorem two_nil (X : World) (f0 : F) (x : Value) (hx : Src Try.prog 3 22 x 1 (fc f0) X) :
    ∃ v1 w1 ad2 n2 cap2 w2, Two X (.slice none 0 0) x (.slice none 0 0) v1 w1 ad2 n2 cap2 w2 [f0] := by
  obtain ⟨i0, hi, hz0, hz1, hz2⟩ := info_parts Try.info46
  obtain ⟨v1, w1, hr1, ho1, hg1⟩ := app_full X none 0 [] (fc f0) x 1 rfl (run_firstCells_none _ _ _ _ _) hx (by omega) (by omega)
  have hrow : FRow w1 X.heap.size v1 [f0] := FRow.of_own (n := 1) (by simpa using ho1)
  obtain ⟨ad2, cap2, rfl, hinp⟩ := Inp.of_row hrow
  have hr2 := fun ty => run_append_nothing (P := Try.prog) w1 22 22 ty 46 i0 Try.underlying22 hi ad2 1 cap2 hinp.2.1 (.slice none 0 0) (by rw [hz1]; exact Src.ofNil w1 Try.underlying22 0)
  exact ⟨_, w1, ad2, _, cap2, w1, hr1, hr2, grown_below hg1, grown_below hg1, hinp, fun b hb => .inl (hrow.lt b hb).1⟩

/-- behind put -/
def Behind (base : Nat) (w : World) (g : Nat) (down : Bool) (fuse fault : Int) (out : List F) (w' : World) : Prop :=
  ∃ ad2 n2 cap2, Dk w' g 64 (.slice ad2 n2 cap2) down fuse fault ∧ Inp w' w'.heap.size ad2 n2 cap2 out ∧ Below base w w' ∧ ∀ b, (Value.slice ad2 n2 cap2).ownBlock = some b → base ≤ b
theorem behind_of {base : Nat} {w X : World} {g : Nat} {v0 : Value} {down : Bool} {fuse fault : Int} {out : List F} {S x R v1 : Value} {w1 w2 : World} {ad2 : Option Addr} {n2 cap2 : Nat} (hX : w.drew = X) (hD : Dk w g 64 v0 down fuse fault)
    (h : Two X S x R v1 w1 ad2 n2 cap2 w2 out) (hS : S.ownBlock ≠ some g) (hSb : ∀ b, S.ownBlock = some b → base ≤ b) (hbase : base ≤ w.heap.size) (hg : base ≤ g) : Behind base w g down fuse fault out (w2.setCell ⟨g, 0, none⟩ (.slice ad2 n2 cap2)) := by
  obtain ⟨_, _, _, hb2, hi, hfar⟩ := h
  have hlt := hD.lt
  subst hX
  have hb2' : Below w.heap.size w w2 := below_drew hb2
  have hD2 := hD.keep hb2' hlt
  have hsz := hb2'.size
  refine ⟨ad2, n2, cap2, hD2.set0 _, ⟨hi.1, hi.2.1, hi.2.2.1, fun hne => ?_⟩, (hb2'.mono hbase).setCell (by exact hg) _, fun b hb => ?_⟩
  rotate_left
  · rcases hfar b hb with h | h
    · have : w.heap.size ≤ b := h
      omega
    · exact hSb b h.symm
  obtain ⟨gb, off, rfl, hgb, hc⟩ := hi.2.2.2 hne
  have hne' : gb ≠ g := by
    intro e
    subst e
    rcases hfar gb rfl with h | h
    · have : w.heap.size ≤ gb := h
      omega
    · exact hS h.symm
  refine ⟨gb, off, rfl, by simpa [World.setCell] using hgb, fun i f hif => ?_⟩
  have hh := hc i f hif
  have hcell : ∀ j, (w2.setCell ⟨g, 0, none⟩ (.slice (some ⟨gb, off, none⟩) n2 cap2)).cell? ⟨gb, j, none⟩ = w2.cell? ⟨gb, j, none⟩ := fun j => World.cell?_of_block (w := w2) (Below.heap_setCell w2 ⟨g, 0, none⟩ _ gb hne')
  exact ⟨(hcell _).trans hh.q0, (hcell _).trans hh.q1, (hcell _).trans hh.q2⟩

end Go.Proofs.Ytcefhcailhediaa
