/- MESSAGES OF VALUES: the places, gone through. -/
import Derived.Test.YtnnnnlcpmocnfaaDoorWx
import Derived.Maps.RangeWalk
import Derived.BigQuiet
import Derived.Deep.QuietTactic
import Derived.RegionTactic
import Derived.ChangeAlike
import Derived.Outline
import Derived.WalkLawsBesides
import Derived.Deep.RegionLaw
import Derived.Deep.RegionHeld3
namespace Go.Proofs.YtnnnnlcpmocnfaaDoor
open Go.RowKit
set_option linter.unusedVariables false
set_option linter.unusedSimpArgs false
attribute [local go_sem] run_store_float

open Go.ChangeMaps (setBlock)
/-- an iteration over the map of places is under way -/
structure It (w : World) (b r : Nat) (seen : Array Nat) (c0 : Nat) : Prop where
  m : w.heap[b]? = some (.map m7 7)
  i : w.heap[r]? = some (.mapIter (some b) 7 seen c0)
  c : 7 ≤ c0
  ne : b ≠ r
/-- which field a kind has -/
def Place (k n b : Int) : Prop := (k = 1 ∧ n = 1 ∧ b = 2) ∨ (k = 2 ∧ n = 2 ∧ b = 0) ∨ (k = 3 ∧ n = 3 ∧ b = 0) ∨ (k = 4 ∧ n = 4 ∧ b = 1) ∨ (k = 5 ∧ n = 5 ∧ b = 2) ∨ (k = 6 ∧ n = 6 ∧ b = 2) ∨ (k = 7 ∧ n = 7 ∧ b = 2)
theorem m7_list : m7.toList = [entryL 0 1 1 2, entryL 1 2 2 0, entryL 2 3 3 0, entryL 3 4 4 1, entryL 4 5 5 2, entryL 5 6 6 2, entryL 6 7 7 2] := rfl
theorem m7_mem {e : MapEntry} (h : e ∈ m7.toList) : ∃ i k n b, e = entryL i k n b ∧ Place k n b := by
  rw [m7_list] at h
  simp only [List.mem_cons, List.not_mem_nil, or_false] at h
  rcases h with h | h | h | h | h | h | h <;> (subst h; exact ⟨_, _, _, _, rfl, by unfold Place; omega⟩)
theorem m7_old : ∀ x ∈ m7.toList, x.born < 7 := by
  intro x h
  rw [m7_list] at h
  simp only [List.mem_cons, List.not_mem_nil, or_false] at h
  rcases h with h | h | h | h | h | h | h <;> (subst h; decide)
theorem m7_nodup : (m7.toList.map (·.born)).Nodup := by rw [m7_list]; decide
section
variable {w : World} {b r : Nat} {seen : Array Nat} {c0 : Nat}
theorem It.next (h : It w b r seen c0) (ty : TypeId) :
    ((∀ e ∈ m7.toList, seen.contains e.born = true) ∧ (Instr.next (.pointer (some ⟨r, 0, none⟩)) false ty).run Tryd.prog w = .ok (.tuple #[.bool false]) w) ∨
    ∃ i k n b', entryL i k n b' ∈ m7.toList ∧ Place k n b' ∧ ∃ w', (Instr.next (.pointer (some ⟨r, 0, none⟩)) false ty).run Tryd.prog w = .ok (.tuple #[.bool true, .int .u8 k, fv n b']) w' ∧ It w' b r (seen.push i) 7 ∧
      (leftOf m7 (seen.push i)).size < (leftOf m7 seen).size ∧ w.grownBy w' (some r) ∧ w'.heap.size = w.heap.size ∧ (Instr.entry (.pointer (some ⟨r, 0, none⟩))).run Tryd.prog w' = .ok (.tuple #[.int .u8 k, fv n b']) w' := by
  rcases run_next_at (P := Tryd.prog) w ty r b 7 c0 seen m7 7 h.i h.m m7_old h.c with ⟨h0, hrun⟩ | ⟨e, he, w1, hal, hrun⟩
  · exact .inl ⟨all_seen m7 seen h0, hrun⟩
  · obtain ⟨hem, hes⟩ := mem_left he
    obtain ⟨i, k, n, b', rfl, hp⟩ := m7_mem hem
    have hr1 : w1.heap[r]? = some (.mapIter (some b) 7 seen c0) := by rcases hal with rfl | rfl <;> exact h.i
    have hb1 : w1.heap[b]? = some (.map m7 7) := by rcases hal with rfl | rfl <;> exact h.m
    have hset := MapKept.heap_set (o' := .mapIter (some b) 7 (seen.push i) 7) hr1
    have hb' : (setBlock w1 r (.mapIter (some b) 7 (seen.push i) 7)).heap[b]? = some (.map m7 7) := (hset.2 b h.ne).trans hb1
    obtain ⟨W2, hW2⟩ : ∃ W2, W2 = setBlock w1 r (.mapIter (some b) 7 (seen.push i) 7) := ⟨_, rfl⟩
    have hrun2 : (Instr.next (.pointer (some ⟨r, 0, none⟩)) false ty).run Tryd.prog w = .ok (.tuple #[.bool true, .int .u8 k, fv n b']) W2 := by rw [hW2]; exact hrun
    have hi2 : W2.heap[r]? = some (.mapIter (some b) 7 (seen.push i) 7) := by rw [hW2]; exact hset.1
    have hm2 : W2.heap[b]? = some (.map m7 7) := by rw [hW2]; exact hb'
    have hsh : (leftOf m7 (seen.push i)).size < (leftOf m7 seen).size := left_shrinks m7 seen (entryL i k n b') he
    have hen : (Instr.entry (.pointer (some ⟨r, 0, none⟩))).run Tryd.prog W2 = .ok (.tuple #[.int .u8 k, fv n b']) W2 := run_entry_at W2 r b 7 seen m7 7 (entryL i k n b') hi2 hm2 hem m7_nodup
    refine .inr ⟨i, k, n, b', hem, hp, W2, hrun2, ⟨hm2, hi2, Nat.le_refl _, h.ne⟩, hsh, ?_, ?_, hen⟩
    · rw [hW2]; rcases hal with rfl | rfl <;> exact ⟨rfl, rfl, rfl, by simp [setBlock], fun j _ hj => hset.2 j (fun e1 => hj (by rw [e1]))⟩
    · rw [hW2]; rcases hal with rfl | rfl <;> simp [setBlock]
theorem It.left (h : It w b r seen c0) : w.rangeLeft b r = (leftOf m7 seen).size := by
  simp only [World.rangeLeft, h.m, h.i]
theorem It.keep {w' : World} (h : It w b r seen c0) (hb : Below w.heap.size w w') : It w' b r seen c0 :=
  ⟨(hb.block _ (Array.getElem?_eq_some_iff.1 h.m).1).trans h.m, (hb.block _ (Array.getElem?_eq_some_iff.1 h.i).1).trans h.i, h.c, h.ne⟩
theorem It.lt (h : It w b r seen c0) : r < w.heap.size := (Array.getElem?_eq_some_iff.1 h.i).1
end
/-- each entry has been seen; an entry is there -/
def AllSeen (seen : Array Nat) : Prop := ∀ e ∈ m7.toList, seen.contains e.born = true
def InM (i : Nat) (k n b : Int) : Prop := entryL i k n b ∈ m7.toList
def Less (seen seen' : Array Nat) : Prop := (leftOf m7 seen').size < (leftOf m7 seen).size
/-- 'range' over the places -/
theorem wp_range7 {w : World} {ops : Array Oper} {rest : List Oper} {o : Oper} {a : Act} {Q : Exit → Act → World → Prop} (hg : o.guard = none) (m : Operand) (hop : o.op = Op.range 107 m) (b : Nat) (hm : a.eval m = .map (some b)) (hb : w.heap[b]? = some (.map m7 7))
    (hK : ∀ w', It w' b w.heap.size #[] 7 → w' = w.alloc (.mapIter (some b) 7 #[] 7) → wpList Tryd.prog ops Q rest (a.put o.dst (.pointer (some ⟨w.heap.size, 0, none⟩))) w') : wpList Tryd.prog ops Q (o :: rest) a w := by
  refine wpList_plain hg fun K' hK' => ?_
  have hlt := (Array.getElem?_eq_some_iff.1 hb).1
  have hrun := run_range_map (P := Tryd.prog) w 107 22 69 b m7 7 Tryd.underlying107 hb
  unfold Oper.wp
  simp [execOp, hop, hm, hrun, Result.andThen]
  exact hK' _ _ (hK _ ⟨blk_alloc hb _, blk_new w _, Nat.le_refl _, by omega⟩ rfl)
/-- a step -/
theorem wp_next7 {w : World} {ops : Array Oper} {rest : List Oper} {o : Oper} {a : Act} {Q : Exit → Act → World → Prop} (hg : o.guard = none) (it : Operand) (hop : o.op = Op.next it false) (b r : Nat) (seen : Array Nat) (c0 : Nat) (hit : a.eval it = .pointer (some ⟨r, 0, none⟩)) (h : It w b r seen c0)
    (hDone : AllSeen seen → wpList Tryd.prog ops Q rest (a.put o.dst (.tuple #[.bool false])) w)
    (hMore : ∀ i k n b' w', InM i k n b' → Place k n b' → It w' b r (seen.push i) 7 → Less seen (seen.push i) → w.grownBy w' (some r) → w'.heap.size = w.heap.size →
      (Instr.entry (.pointer (some ⟨r, 0, none⟩))).run Tryd.prog w' = .ok (.tuple #[.int .u8 k, fv n b']) w' → wpList Tryd.prog ops Q rest (a.put o.dst (.tuple #[.bool true, .int .u8 k, fv n b'])) w') : wpList Tryd.prog ops Q (o :: rest) a w := by
  refine wpList_plain hg fun K' hK' => ?_
  unfold Oper.wp
  rcases h.next o.type with ⟨h0, hrun⟩ | ⟨i, k, n, b', hem, hp, w', hrun, hit', hlt, hgr, hsz, hen⟩
  · simp [execOp, hop, hit, hrun, Result.andThen]
    exact hK' _ _ (hDone h0)
  · simp [execOp, hop, hit, hrun, Result.andThen]
    exact hK' _ _ (hMore i k n b' w' hem hp hit' hlt hgr hsz hen)

/-- the kind that a field tells; 0: none -/
def kindOf (f : M.Fd) : Int := if f.num = 1 ∧ f.wire = 2 then 1 else if f.num = 2 ∧ f.wire = 0 then 2 else if f.num = 3 ∧ f.wire = 0 then 3 else if f.num = 4 ∧ f.wire = 1 then 4 else if f.num = 5 ∧ f.wire = 2 then 5 else if f.num = 6 ∧ f.wire = 2 then 6 else if f.num = 7 ∧ f.wire = 2 then 7 else 0
/-- the last field that is a kind's -/
def toldOf (fs : List M.Fd) : Int × M.Fd := fs.foldl (fun acc f => if kindOf f = 0 then acc else (kindOf f, f)) (0, ⟨0, 0, 0, []⟩)
theorem toldOf_snoc (fs : List M.Fd) (f : M.Fd) : toldOf (fs ++ [f]) = if kindOf f = 0 then toldOf fs else (kindOf f, f) := by
  unfold toldOf
  rw [List.foldl_append]
  rfl
theorem kindOf_place {k n b : Int} {f : M.Fd} (h : Place k n b) (hn : f.num = n) (hb : (f.wire : Int) = b) : kindOf f = k ∧ ¬ k = 0 := by
  unfold kindOf
  rcases h with ⟨rfl, rfl, rfl⟩ | ⟨rfl, rfl, rfl⟩ | ⟨rfl, rfl, rfl⟩ | ⟨rfl, rfl, rfl⟩ | ⟨rfl, rfl, rfl⟩ | ⟨rfl, rfl, rfl⟩ | ⟨rfl, rfl, rfl⟩ <;>
    (rw [hn]; refine ⟨?_, by decide⟩; repeat (first | rw [if_pos (by omega)] | rw [if_neg (by omega)]))
theorem kindOf_none {f : M.Fd} {seen : Array Nat} (hall : AllSeen seen) (h : ∀ i k n b, InM i k n b → seen.contains i = true → ¬ (f.num = n ∧ (f.wire : Int) = b)) : kindOf f = 0 := by
  have key : ∀ i k n b, entryL i k n b ∈ m7.toList → ¬ (f.num = n ∧ (f.wire : Int) = b) := fun i k n b hm => h i k n b hm (hall _ hm)
  have key : ∀ i k n b, entryL i k n b ∈ m7.toList → ¬ (f.num = n ∧ (f.wire : Int) = b) := key
  have h1 := key 0 1 1 2 (by rw [m7_list]; simp)
  have h2 := key 1 2 2 0 (by rw [m7_list]; simp)
  have h3 := key 2 3 3 0 (by rw [m7_list]; simp)
  have h4 := key 3 4 4 1 (by rw [m7_list]; simp)
  have h5 := key 4 5 5 2 (by rw [m7_list]; simp)
  have h6 := key 5 6 6 2 (by rw [m7_list]; simp)
  have h7 := key 6 7 7 2 (by rw [m7_list]; simp)
  unfold kindOf
  rw [if_neg (by omega), if_neg (by omega), if_neg (by omega), if_neg (by omega), if_neg (by omega), if_neg (by omega), if_neg (by omega)]
end Go.Proofs.YtnnnnlcpmocnfaaDoor
