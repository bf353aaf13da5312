/- CONF: PARSE AS MATHEMATICS; WHAT ITS LOOP KEEPS. -/
import Derived.Test.YtegobomfhdfodaaGreatDoorDa
namespace Go.Proofs.YtegobomfhdfodaaGreatDoor
open Go.RowKit
set_option maxRecDepth 100000
set_option linter.unusedVariables false
set_option linter.unusedSimpArgs false

namespace K
/-- a line that is read comes to the maps -/
def step (st : List L) (text : T) : Except Int (List L) :=
  match read text with
  | some ln => add st ln
  | none => .error 15
def steps : List L → List (Nat × T) → Except (Int × Nat) (List L)
  | st, [] => .ok st
  | st, x :: r => match step st x.2 with
    | .ok st' => steps st' r
    | .error c => .error (c, x.1)
theorem steps_app : ∀ (st : List L) (a b : List (Nat × T)), steps st (a ++ b) = match steps st a with | .ok st' => steps st' b | .error e => .error e
  | st, [], b => rfl
  | st, x :: a, b => by
    simp only [List.cons_append, steps]
    cases step st x.2 with
    | ok st' => exact steps_app st' a b
    | error c => rfl
theorem steps_snoc_ok {st st' : List L} {a : List (Nat × T)} {x : Nat × T} (h : steps st a = .ok st') : steps st (a ++ [x]) = match step st' x.2 with | .ok s => .ok s | .error c => .error (c, x.1) := by
  rw [steps_app, h]
  simp only [steps]
theorem steps_pre {st : List L} {a b : List (Nat × T)} {e : Int × Nat} (h : steps st a = .error e) (hp : a <+: b) : steps st b = .error e := by
  obtain ⟨c, rfl⟩ := hp
  rw [steps_app, h]
def st0 : List L := [(0, [])]
def close : Except (Int × Nat) (List L) → Except (Int × Nat) (List (T × Nd))
  | .ok st => .ok (all st)
  | .error e => .error e
/-- Parse -/
def parse (s : T) : Except (Int × Nat) (List (T × Nd)) := if 16384 < s.length then .error (4, 0) else close (steps st0 (linesOf s))
theorem addTo_err {ln : Line} {st : List L} {c : Int} (h : addTo ln st = .error c) : c = 15 ∨ c = 11 ∨ c = 4 ∨ c = 3 := by
  cases st with
  | nil => injection h with h; exact .inl h.symm
  | cons a r =>
    simp only [addTo] at h
    (repeat' split at h) <;> first | (injection h with h; subst h; decide) | cases h
theorem step_err {st : List L} {x : T} {c : Int} (h : step st x = .error c) : c = 15 ∨ c = 11 ∨ c = 4 ∨ c = 3 := by
  unfold step at h
  split at h
  · unfold add at h
    split at h
    · exact addTo_err h
    · injection h with h; exact .inl h.symm
  · injection h with h; exact .inl h.symm
theorem step_wait {st st' : List L} {x : T} (h : step st x = .ok st') : Wait st' := by
  unfold step at h
  split at h
  · exact add_wait h
  · cases h
theorem st0_ok : Ok st0 := ⟨⟨[], (0, []), rfl, rfl⟩, (fun b hb => nomatch hb), (fun b hb => by simp [st0] at hb; subst hb; simp), by decide⟩
theorem st0_wait : Wait st0 := fun a r e hw => by simp [st0] at e; obtain ⟨rfl, rfl⟩ := e; cases hw
end K
/-- maps abide the steps of the iterators, and of the book-keeping -/
theorem MS.steps {base far g : Nat} {v : Value} {lv : List LV} {A C : World} {row : Option Nat} (h : MS base far g v lv A) (hg : A.grownBy C row)
    (hr : ∀ r, row = some r → (r < far ∧ ∃ u t, A.heap[r]? = some (.cells #[u] t (0, 0)) ∧ (t = 3 ∨ t = 9)) ∨ (∃ cs f, A.heap[r]? = some (.cells cs 23 f)) ∨ ∃ o : Obj, A.heap[r]? = some o ∧ o.isCells = false) : MS base far g v lv C := by
  have hblk : ∀ k cs t f, A.heap[k]? = some (.cells cs t f) → t ≠ 23 → (t ≠ 3 ∧ t ≠ 9 ∨ far ≤ k) → C.heap[k]? = A.heap[k]? := fun k cs t f hk h23 ht => hg.block k (blk_lt hk) (fun e => by
    rcases hr k e.symm with ⟨hlt, u, t', h', ht'⟩ | ⟨cs', f', h'⟩ | ⟨o, ho, hc⟩
    · rw [hk] at h'; injection h' with h'; injection h' with _ h' _; subst h'
      rcases ht with ht | ht
      · rcases ht' with rfl | rfl
        · exact ht.1 rfl
        · exact ht.2 rfl
      · omega
    · rw [hk] at h'; injection h' with h'; injection h' with _ h' _; exact h23 h'
    · rw [hk] at ho; injection ho with ho; subst ho; cases hc)
  have hrow : ∀ {e : TypeId} {z : Nat} {q : Value} {n : Nat} {xs : List Value} {b : Nat}, e ≠ 23 → e ≠ 3 → e ≠ 9 → A.ownsRow b e z q n xs → C.ownsRow b e z q n xs := fun h23 h3 h9 hq => by
    refine ⟨hq.1, ?_⟩
    rcases hq.2 with h' | ⟨b', cap, cur, hv, hb, hk, r⟩
    · exact .inl h'
    · exact .inr ⟨b', cap, cur, hv, hb, (hblk _ _ _ _ hk h23 (.inl ⟨h3, h9⟩)).trans hk, r⟩
  refine ⟨h.bf, h.bg, (hblk _ _ _ _ h.box (by decide) (.inl ⟨by decide, by decide⟩)).trans h.box, hrow (by decide) (by decide) (by decide) h.row, fun a ha => ⟨hrow (by decide) (by decide) (by decide) (h.keys a ha).row, (h.keys a ha).key, fun e he => ?_⟩, h.apart⟩
  have hf : ∀ b, Far A far (lv.map (·.q)) b → C.heap[b]? = A.heap[b]? := fun b hb => by
    obtain ⟨h1, _, cs, t, hc, ht⟩ := hb
    exact hblk _ _ _ _ hc (by rcases ht with rfl | rfl <;> decide) (.inr h1)
  refine ((h.keys a ha).rep e he).keep ⟨hg.size, fun b hb _ => hf b hb⟩ fun b hb _ => ⟨hb.1, hb.2.1, ?_⟩
  obtain ⟨cs, t, hc, ht⟩ := hb.2.2
  exact ⟨cs, t, (hf b hb).trans hc, ht⟩
theorem MR.steps {base far g : Nat} {st : List K.L} {A C : World} {row : Option Nat} (h : MR base far g st A) (hg : A.grownBy C row)
    (hr : ∀ r, row = some r → (r < far ∧ ∃ u t, A.heap[r]? = some (.cells #[u] t (0, 0)) ∧ (t = 3 ∨ t = 9)) ∨ (∃ cs f, A.heap[r]? = some (.cells cs 23 f)) ∨ ∃ o : Obj, A.heap[r]? = some o ∧ o.isCells = false) : MR base far g st C := by
  obtain ⟨v, lv, h, e⟩ := h
  exact ⟨v, lv, h.steps hg hr, e⟩
/-- the boxes of Parse's results -/
def Boxes (n : Nat) (c k : Int) (W : World) : Prop := W.heap[n]? = some (.cells #[.int .u8 0, .string ⟨#[]⟩, .slice none 0 0, .slice none 0 0] 32 (0, 0)) ∧ W.heap[n + 1]? = some (.cells #[.int .i64 c] 23 (0, 0)) ∧ W.heap[n + 1 + 1]? = some (.cells #[.int .i64 k] 3 (0, 0))
/-- the first map of a config, in its variable -/
theorem MR.first (w : World) (n : Nat) (hn : n ≤ w.heap.size) (far : Nat) (hf : n ≤ far) : MR n far (w.heap.size + 1) K.st0 ((w.alloc (.cells #[.int .i64 0, .slice none 0 0] 63)).alloc (.cells #[.slice (some ⟨w.heap.size, 0, none⟩) 1 1] 65)) := by
  refine ⟨.slice (some ⟨w.heap.size, 0, none⟩) 1 1, [⟨0, .slice none 0 0, []⟩], ⟨hf, by omega, ?_, ?_, fun a ha => ?_, List.pairwise_singleton _ _⟩, rfl⟩
  · have := blk_new (w.alloc (.cells #[.int .i64 0, .slice none 0 0] 63)) (.cells #[.slice (some ⟨w.heap.size, 0, none⟩) 1 1] 65)
    rwa [World.size_alloc] at this
  · have := World.ownsRow_lit (base := n) (e := 63) (size := 2) w #[.int .i64 0, .slice none 0 0] 1 hn (by unfold maxLen; omega) rfl
    exact World.ownsRow.alloc this _
  · simp at ha; subst ha
    exact ⟨World.ownsRow_nil _ _ _ _, (fun e h => nomatch h), (fun e h => nomatch h)⟩
end Go.Proofs.YtegobomfhdfodaaGreatDoor
