/- CONF: A RANGE OVER A FUNCTION WHOSE ITERATOR WRITES CELLS OF ITS OWN BETWEEN TWO ROUNDS. -/
import Derived.Test.YtegobomfhdfodaaGreatDoorCw
import Derived.RangeFuncNested
import Derived.RangeFuncBound
import Derived.RangeFuncCalls
import Derived.RangeFuncLeaves
import Derived.Sort.CutIn
import Derived.OwnWalkIn
namespace Go.Proofs.YtegobomfhdfodaaGreatDoor
open Go.RowKit
set_option maxRecDepth 100000
set_option linter.unusedVariables false
set_option linter.unusedSimpArgs false

/-- the steps that an invariant abides: new blocks; one block that is no cells, from B on; one variable's box of X, of a number or a text -/
def Steps (B : Nat) (X : Nat → Prop) (A : World) (row : Option Nat) : Prop :=
  ∀ r, row = some r → (X r ∧ ∃ u t, A.heap[r]? = some (.cells #[u] t (0, 0)) ∧ (t = 3 ∨ t = 9)) ∨ (B ≤ r ∧ ∃ o : Obj, A.heap[r]? = some o ∧ o.isCells = false)
def AbX {β : Type} (B : Nat) (X : Nat → Prop) (J : β → World → Prop) : Prop := ∀ s A C row, J s A → A.grownBy C row → Steps B X A row → J s C
theorem AbX.own {β : Type} {B : Nat} {X : Nat → Prop} {J : β → World → Prop} (h : AbX B X J) : OwnFrom B J := fun s A C row hs hg hr => h s A C row hs hg fun r e => .inr (hr r e)
theorem AbX.none {β : Type} {B : Nat} {X : Nat → Prop} {J : β → World → Prop} (h : AbX B X J) {s : β} {A C : World} (hs : J s A) (hb : Below A.heap.size A C) : J s C := h s A C Option.none hs ⟨hb.os, hb.tape, hb.output, hb.size, fun k hk _ => hb.block k hk⟩ (fun r e => nomatch e)
theorem AbX.and {β : Type} {B : Nat} {X : Nat → Prop} {J J' : β → World → Prop} (h : AbX B X J) (h' : AbX B X J') : AbX B X (fun s A => J s A ∧ J' s A) := fun s A C row hs hg hr => ⟨h s A C row hs.1 hg hr, h' s A C row hs.2 hg hr⟩
theorem AbX.mono {β : Type} {B B' : Nat} {X X' : Nat → Prop} {J : β → World → Prop} (h : AbX B X J) (hB : B ≤ B') (hX : ∀ r, X' r → X r) : AbX B' X' J := fun s A C row hs hg hr => h s A C row hs hg fun r e => by
  rcases hr r e with ⟨h1, h2⟩ | ⟨h1, h2⟩
  · exact .inl ⟨hX r h1, h2⟩
  · exact .inr ⟨Nat.le_trans hB h1, h2⟩
/-- a block that is neither of X nor turned by the book-keeping stays -/
theorem Steps.block {B : Nat} {X : Nat → Prop} {A C : World} {row : Option Nat} (h : Steps B X A row) (hg : A.grownBy C row) {k : Nat} {o : Obj} (hk : A.heap[k]? = some o) (h1 : ¬ X k) (h2 : k < B ∨ o.isCells = true) : C.heap[k]? = some o := by
  refine (hg.block k (blk_lt hk) (fun e => ?_)).trans hk
  rcases h k e.symm with ⟨hx, _⟩ | ⟨hb, o', ho, hc⟩
  · exact h1 hx
  · rw [hk] at ho
    injection ho with ho
    subst ho
    rcases h2 with h2 | h2
    · omega
    · rw [h2] at hc; cases hc
section
variable {F : Fence} {n : Nat} {P : Program} {α : Type}
/-- how an iterator ends -/
def SeqEnd (S Sp : List α → Prop) (J Jx : List α → World → Prop) (e : Ending) (W' : World) : Prop := (∃ v, e = .returned v) ∧ ((∃ xs, S xs ∧ J xs W') ∨ (∃ pre, Sp pre ∧ Jx pre W'))
/-- what a round gives an iterator -/
def Round (F : Fence) (n : Nat) (P : Program) (l : Nat) (encs : α → Array Value) (El : α → Prop) (Kp : World → World → Prop) (N M : Nat) (J Jx : List α → World → Prop) : Prop :=
  ∀ pre x W, El x → M ≤ W.heap.size → J pre W → pre.length < N → YieldAt F n P l (encs x) W fun e W' => (e = .returned (.bool true) ∧ J (pre ++ [x]) W' ∧ Kp W W') ∨ (e = .returned (.bool false) ∧ Jx (pre ++ [x]) W' ∧ Kp W W')
/-- how a round's body may be left -/
def postX (B : Nat) (Kp : World → World → Prop) (I : List α → World → Prop) (Ix : Code → List α → World → Prop) (xs : List α) (W : World) : Exit → Act → World → Prop
  | .normal, _, W' => KeepsFrom B W W' ∧ Kp W W' ∧ I xs W'
  | .ret, _, W' => KeepsFrom B W W' ∧ Kp W W' ∧ Ix .ret xs W'
  | _, _, _ => False
theorem range_X {g : Operand} {ps : Array Tmp} {assign body : Code} {Q : Exit → Act → World → Prop} {a : Act} {w : World} (hro : F.round = none) (h1 : 1 ≤ n) {gf : Nat} {lb : Array Value} (hg : a.eval g = .func (.func gf) #[] lb) (hFg : F.fn gf)
    (eg : ∀ args w, (callFunc gf args).run P w = .ok (.enter gf args) w) {encs : α → Array Value} {El : α → Prop} {Kp : World → World → Prop} {S Sp : List α → Prop} {N M : Nat} (X : Nat → Prop) (hX : ∀ r, X r → r ≠ w.heap.size ∧ r ≠ w.heap.size + 1)
    (hKt : ∀ {A B C : World}, Kp A B → Kp B C → Kp A C) (hKb : ∀ (W : World) (o o' : Obj), W.heap[w.heap.size + 1]? = some o → o.isCells = false → Kp W (W.putObj (w.heap.size + 1) o')) (hps : ∀ x, (encs x).size = ps.size)
    (I : List α → World → Prop) (Ix : Code → List α → World → Prop) (hI : AbX w.heap.size X I) (hIx : ∀ c, AbX w.heap.size X (Ix c)) (h0 : I [] w)
    (hseq : ∀ (J Jx : List α → World → Prop) (W1 : World), Below w.heap.size w W1 → W1.heap.size = w.heap.size + 2 → AbX W1.heap.size X J → AbX W1.heap.size X Jx → Round F (n - 1 - 1) P (w.heap.size + 1) encs El Kp N M J Jx → J [] W1 → CallsIn F (n - 1) P gf (#[.func (.yield (w.heap.size + 1)) #[] #[]] ++ lb) W1 (SeqEnd S Sp J Jx))
    (Ax : α → Act → World → Prop) (hAx : ∀ x a', OwnFrom w.heap.size (fun (_ : Unit) W => Ax x a' W))
    (hassign : ∀ (l : Nat) (pre : List α) (x : α) (W : World) (K : Act → World → Prop), El x → M ≤ W.heap.size → I pre W → (∀ a' W', KeepsFrom w.heap.size W W' → Kp W W' → I pre W' → Ax x a' W' → K a' W') →
      assign.wpIn (F.inRound l) (n - 1 - 1) P (Exit.then K (fun _ _ _ => False)) { tmps := (ps.zip (encs x)).foldl (fun t (p, v) => t.setIfInBounds p v) a.tmps, defers := [] } W)
    (hbody : ∀ (l : Nat) (pre : List α) (x : α) (a' : Act) (W : World), w.heap.size ≤ l → (∃ r, W.heap[l]? = some (.loop r)) → El x → M ≤ W.heap.size → I pre W → Ax x a' W → pre.length < N → body.wpIn (F.inRound l) (n - 1 - 1) P (postX w.heap.size Kp I Ix (pre ++ [x]) W) a' W)
    (hdone : ∀ (D : Nat) (xs : List α) (W : World), w.heap.size ≤ D → S xs → I xs W → W.heap[D]? = some (.deferred (some [])) → Q .normal { a with defers := { target := .collected D, args := #[] } :: a.defers } W)
    (hstop : ∀ (D : Nat) (c : Code) (pre : List α) (W : World), w.heap.size ≤ D → Sp pre → Ix c pre W → W.heap[D]? = some (.deferred (some [])) → c.wpIn F n P Q { a with defers := { target := .collected D, args := #[] } :: a.defers } W) :
    (Code.rangeFunc g ps assign body).wpIn F n P Q a w := by
  refine wpIn_rangeFunc fun fn hfn => ?_
  rw [hro]
  -- the record, in each of its states
  obtain ⟨R, hR⟩ : ∃ R : LoopState → Option Code → Loop, ∀ st pe, R st pe = { state := st, pending := pe, fn, tmps := a.tmps, params := ps, assign, body, defers := w.heap.size } := ⟨_, fun _ _ => rfl⟩
  obtain ⟨D, hD⟩ : ∃ D, D = w.heap.size := ⟨_, rfl⟩
  obtain ⟨l, hl⟩ : ∃ l, l = w.heap.size + 1 := ⟨_, rfl⟩
  -- what the book-keeping holds between two rounds
  have hbk : ∀ {r : Loop}, AbX (w.heap.size + 2) X (fun (_ : List α) W => W.heap[l]? = some (.loop r) ∧ W.heap[D]? = some (.deferred (some []))) := fun s A C row hs hg hr =>
    ⟨hr.block hg hs.1 (fun h => (hX l h).2 hl) (.inl (by omega)), hr.block hg hs.2 (fun h => (hX D h).1 hD) (.inl (by omega))⟩
  have hent : (Instr.enterLoop fn a.tmps ps assign body none).run P w = .ok (l, [{ target := .collected D, args := #[] }]) ((w.alloc (.deferred (some []))).alloc (.loop (R .ready none))) := by
    rw [hl, hD, hR]; exact run_enterLoop_outer _ _ _ _ _
  obtain ⟨W1, hW1⟩ : ∃ W1, (w.alloc (.deferred (some []))).alloc (.loop (R .ready none)) = W1 := ⟨_, rfl⟩
  rw [hW1] at hent
  have hs1 : W1.heap.size = w.heap.size + 2 := by rw [← hW1]; simp
  have hb1 : Below w.heap.size w W1 := by rw [← hW1]; exact ((Below.refl _ w).alloc (Nat.le_refl _) _).alloc (by simp) _
  have hL : W1.heap[l]? = some (.loop (R .ready none)) ∧ W1.heap[D]? = some (.deferred (some [])) := by
    rw [← hW1, hl, hD]
    refine ⟨?_, blk_alloc (blk_new w _) _⟩
    have := blk_new (w.alloc (.deferred (some []))) (.loop (R .ready none))
    rwa [World.size_alloc] at this
  refine ⟨l, [{ target := .collected D, args := #[] }], W1, { target := .fn (.func gf) lb, args := #[.func (.yield l) #[] #[]] }, W1, gf, #[.func (.yield l) #[] #[]] ++ lb, W1, hent, ?_, ?_, ?_, fun _ => h1, ?_⟩
  · simp only [resolve, hg]; simp [go_sem]
  · intro f' hf'; simp [Target.leads] at hf'; subst hf'; exact hFg
  · simp [invoke, go_sem, eg]
  have hseq' := hseq (fun pre W => I pre W ∧ W.heap[l]? = some (.loop (R .ready none)) ∧ W.heap[D]? = some (.deferred (some [])))
    (fun pre W => ∃ c, Ix c pre W ∧ W.heap[l]? = some (.loop (R .done (some c))) ∧ W.heap[D]? = some (.deferred (some []))) W1 hb1 hs1
    ((hI.mono (by omega) fun _ h => h).and (hs1 ▸ hbk))
    (fun s A C row ⟨c, h1, h2⟩ hg hr => ⟨c, ((hIx c).mono (by omega) fun _ h => h) s A C row h1 hg hr, (show AbX W1.heap.size X _ from hs1 ▸ hbk) s A C row h2 hg hr⟩)
  rw [← hl] at hseq'
  refine (hseq' ?_ ⟨hI.none h0 hb1, hL⟩).mono ?_
  · -- one round
    rintro pre x W hel hM ⟨hi, hlW, hDW⟩ hlen
    have hy := run_yield (P := P) (args := encs x) hlW (by rw [hR]; exact hps x)
    rw [hR] at hy
    refine ⟨fn, _, assign, body, hy, roundIn_of_wpIn hfn (hassign l pre x W _ hel hM hi fun a' V hkf hkp hi2 hax => ?_)⟩
    have hlV := hkf.same l _ (by omega) hlW rfl
    have hDV := hkf.same D _ (by omega) hDW rfl
    obtain ⟨U, hU⟩ : ∃ U, V.putObj l (.loop { R .ready none with state := .busy }) = U := ⟨_, rfl⟩
    have hlU : U.heap[l]? = some (.loop { R .ready none with state := .busy }) := by rw [← hU]; exact World.putObj_heap_same (blk_lt hlV)
    have hDU : U.heap[D]? = some (.deferred (some [])) := by rw [← hU]; exact (World.putObj_heap_other (by omega)).trans hDV
    have hIU : I pre U := by rw [← hU]; exact hI.own.putObj _ hi2 (by omega) hlV rfl
    have hAU : Ax x a' U := by rw [← hU]; exact (hAx x a').putObj (s := ()) _ hax (by omega) hlV rfl
    have hKU : Kp V U := by rw [← hU]; rw [hl]; exact hKb _ _ _ (by rw [← hl]; exact hlV) rfl
    refine ⟨U, by rw [← hU]; exact run_beginRound hlV (by rw [hR]), wpIn_mono (hbody l pre x a' U (by omega) ⟨_, hlU⟩ hel (by rw [← hU]; have := hkf.size; simp; omega) hIU hAU hlen) ?_⟩
    -- the round's end, with a jump or without
    have hend : ∀ (j : Option Code) (Z : World), KeepsFrom w.heap.size U Z → ∃ Z', Z.putObj l (.loop (R (if j.isNone then .ready else .done) j)) = Z' ∧ (Instr.endRound l j).run P Z = .ok (.bool j.isNone) Z' ∧ Z.heap[l]? = some (.loop { R .ready none with state := .busy }) ∧
        Z'.heap[l]? = some (.loop (R (if j.isNone then .ready else .done) j)) ∧ Z'.heap[D]? = some (.deferred (some [])) := fun j Z hk => by
      have hlZ := hk.same l _ (by omega) hlU rfl
      refine ⟨_, rfl, ?_, hlZ, World.putObj_heap_same (blk_lt hlZ), (World.putObj_heap_other (by omega)).trans (hk.same D _ (by omega) hDU rfl)⟩
      have := run_endRound (P := P) j hlZ
      rw [hR] at this ⊢
      exact this
    intro e a3 Z hp
    cases e with
    | normal =>
      obtain ⟨hk, hkp3, hi3⟩ := hp
      obtain ⟨Z', hZ', hr, hlZ, hl4, hD4⟩ := hend none Z hk
      subst hZ'
      exact ⟨_, _, hr, .inl ⟨rfl, ⟨hI.own.putObj _ hi3 (by omega) hlZ rfl, hl4, hD4⟩, hKt hkp (hKt (hKt hKU hkp3) (by rw [hl]; exact hKb _ _ _ (by rw [← hl]; exact hlZ) rfl))⟩⟩
    | ret =>
      obtain ⟨Z', hZ', hr, hlZ, hl4, hD4⟩ := hend (some .ret) Z hp.1
      subst hZ'
      exact ⟨_, _, hr, .inr ⟨rfl, ⟨.ret, (hIx _).own.putObj _ hp.2.2 (by omega) hlZ rfl, hl4, hD4⟩, hKt hkp (hKt (hKt hKU hp.2.1) (by rw [hl]; exact hKb _ _ _ (by rw [← hl]; exact hlZ) rfl))⟩⟩
    | exit id => exact hp.elim
    | goto t => exact hp.elim
    | panic ch => exact hp.elim
    | outgrown => exact hp.elim
  · -- behind the iterator
    rintro e W2 ⟨⟨v, rfl⟩, ⟨xs, hS, hi, hl2, hD2⟩ | ⟨pre, hSp, c, hi, hl2, hD2⟩⟩
    · have hr := run_endLoop (P := P) hl2 (by rw [hR]; simp)
      rw [hR] at hr
      exact ⟨none, _, hr, hdone D xs _ (by omega) hS (hI.own.putObj _ hi (by omega) hl2 rfl) ((World.putObj_heap_other (by omega)).trans hD2)⟩
    · have hr := run_endLoop (P := P) hl2 (by rw [hR]; simp)
      rw [hR] at hr
      exact ⟨some c, _, hr, hstop D c pre _ (by omega) hSp ((hIx c).own.putObj _ hi (by omega) hl2 rfl) ((World.putObj_heap_other (by omega)).trans hD2)⟩
end
end Go.Proofs.YtegobomfhdfodaaGreatDoor
