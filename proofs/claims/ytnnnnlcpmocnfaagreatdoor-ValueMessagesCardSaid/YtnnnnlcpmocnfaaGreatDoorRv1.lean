/- MESSAGES OF VALUES: the places, gone through. -/
import Derived.Test.YtnnnnlcpmocnfaaGreatDoorWx
import Derived.Maps.RangeWalk
import Derived.BigQuiet
import Derived.Deep.QuietTactic
import Derived.RegionTactic
import Derived.ChangeAlike
import Derived.Outline
import Derived.WalkLawsBesides
import Derived.Deep.RegionLaw
import Derived.Deep.RegionHeld3
import Derived.Test.YtnnnnlcpmocnfaaGreatDoorRread
import Derived.Test.YtnnnnlcpmocnfaaGreatDoorLaw0
namespace Go.Proofs.YtnnnnlcpmocnfaaGreatDoor
open Go.RowKit
set_option linter.unusedVariables false
set_option linter.unusedSimpArgs false
attribute [local go_sem] run_store_float

open Go.ChangeMaps (setBlock)
/-- an iteration over the map of places is under way -/
structure It (w : World) (b r : Nat) (seen : Array Nat) (c0 : Nat) : Prop where
  m : w.heap[b]? = some (.map m7 7)
  i : w.heap[r]? = some (.mapIter (some b) 7 seen c0)
  c : 7 ≤ c0
  ne : b ≠ r
/-- which field a kind has -/
def Place (k n b : Int) : Prop := (k = 1 ∧ n = 1 ∧ b = 2) ∨ (k = 2 ∧ n = 2 ∧ b = 0) ∨ (k = 3 ∧ n = 3 ∧ b = 0) ∨ (k = 4 ∧ n = 4 ∧ b = 1) ∨ (k = 5 ∧ n = 5 ∧ b = 2) ∨ (k = 6 ∧ n = 6 ∧ b = 2) ∨ (k = 7 ∧ n = 7 ∧ b = 2)
theorem m7_list : m7.toList = [entryL 0 1 1 2, entryL 1 2 2 0, entryL 2 3 3 0, entryL 3 4 4 1, entryL 4 5 5 2, entryL 5 6 6 2, entryL 6 7 7 2] := rfl
theorem m7_mem {e : MapEntry} (h : e ∈ m7.toList) : ∃ i k n b, e = entryL i k n b ∧ Place k n b := by
  rw [m7_list] at h
  simp only [List.mem_cons, List.not_mem_nil, or_false] at h
  rcases h with h | h | h | h | h | h | h <;> (subst h; exact ⟨_, _, _, _, rfl, by unfold Place; omega⟩)
theorem m7_old : ∀ x ∈ m7.toList, x.born < 7 := by
  intro x h
  rw [m7_list] at h
  simp only [List.mem_cons, List.not_mem_nil, or_false] at h
  rcases h with h | h | h | h | h | h | h <;> (subst h; decide)
theorem m7_nodup : (m7.toList.map (·.born)).Nodup := by rw [m7_list]; decide
section
variable {w : World} {b r : Nat} {seen : Array Nat} {c0 : Nat}
theorem It.next (h : It w b r seen c0) (ty : TypeId) :
    ((∀ e ∈ m7.toList, seen.contains e.born = true) ∧ (Instr.next (.pointer (some ⟨r, 0, none⟩)) false ty).run Tryz.prog w = .ok (.tuple #[.bool false]) w) ∨
    ∃ i k n b', entryL i k n b' ∈ m7.toList ∧ Place k n b' ∧ ∃ w', (Instr.next (.pointer (some ⟨r, 0, none⟩)) false ty).run Tryz.prog w = .ok (.tuple #[.bool true, .int .u8 k, fv n b']) w' ∧ It w' b r (seen.push i) 7 ∧
      (leftOf m7 (seen.push i)).size < (leftOf m7 seen).size ∧ w.grownBy w' (some r) ∧ w'.heap.size = w.heap.size ∧ (Instr.entry (.pointer (some ⟨r, 0, none⟩))).run Tryz.prog w' = .ok (.tuple #[.int .u8 k, fv n b']) w' := by
  rcases run_next_at (P := Tryz.prog) w ty r b 7 c0 seen m7 7 h.i h.m m7_old h.c with ⟨h0, hrun⟩ | ⟨e, he, w1, hal, hrun⟩
  · exact .inl ⟨all_seen m7 seen h0, hrun⟩
  · obtain ⟨hem, hes⟩ := mem_left he
    obtain ⟨i, k, n, b', rfl, hp⟩ := m7_mem hem
    have hr1 : w1.heap[r]? = some (.mapIter (some b) 7 seen c0) := by rcases hal with rfl | rfl <;> exact h.i
    have hb1 : w1.heap[b]? = some (.map m7 7) := by rcases hal with rfl | rfl <;> exact h.m
    have hset := MapKept.heap_set (o' := .mapIter (some b) 7 (seen.push i) 7) hr1
    have hb' : (setBlock w1 r (.mapIter (some b) 7 (seen.push i) 7)).heap[b]? = some (.map m7 7) := (hset.2 b h.ne).trans hb1
    obtain ⟨W2, hW2⟩ : ∃ W2, W2 = setBlock w1 r (.mapIter (some b) 7 (seen.push i) 7) := ⟨_, rfl⟩
    have hrun2 : (Instr.next (.pointer (some ⟨r, 0, none⟩)) false ty).run Tryz.prog w = .ok (.tuple #[.bool true, .int .u8 k, fv n b']) W2 := by rw [hW2]; exact hrun
    have hi2 : W2.heap[r]? = some (.mapIter (some b) 7 (seen.push i) 7) := by rw [hW2]; exact hset.1
    have hm2 : W2.heap[b]? = some (.map m7 7) := by rw [hW2]; exact hb'
    have hsh : (leftOf m7 (seen.push i)).size < (leftOf m7 seen).size := left_shrinks m7 seen (entryL i k n b') he
    have hen : (Instr.entry (.pointer (some ⟨r, 0, none⟩))).run Tryz.prog W2 = .ok (.tuple #[.int .u8 k, fv n b']) W2 := run_entry_at W2 r b 7 seen m7 7 (entryL i k n b') hi2 hm2 hem m7_nodup
    refine .inr ⟨i, k, n, b', hem, hp, W2, hrun2, ⟨hm2, hi2, Nat.le_refl _, h.ne⟩, hsh, ?_, ?_, hen⟩
    · rw [hW2]; rcases hal with rfl | rfl <;> exact ⟨rfl, rfl, rfl, by simp [setBlock], fun j _ hj => hset.2 j (fun e1 => hj (by rw [e1]))⟩
    · rw [hW2]; rcases hal with rfl | rfl <;> simp [setBlock]
theorem It.left (h : It w b r seen c0) : w.rangeLeft b r = (leftOf m7 seen).size := by
  simp only [World.rangeLeft, h.m, h.i]
theorem It.keep {w' : World} (h : It w b r seen c0) (hb : Below w.heap.size w w') : It w' b r seen c0 :=
  ⟨(hb.block _ (Array.getElem?_eq_some_iff.1 h.m).1).trans h.m, (hb.block _ (Array.getElem?_eq_some_iff.1 h.i).1).trans h.i, h.c, h.ne⟩
theorem It.lt (h : It w b r seen c0) : r < w.heap.size := (Array.getElem?_eq_some_iff.1 h.i).1
end
/-- each entry has been seen; an entry is there -/
def AllSeen (seen : Array Nat) : Prop := ∀ e ∈ m7.toList, seen.contains e.born = true
def InM (i : Nat) (k n b : Int) : Prop := entryL i k n b ∈ m7.toList
def Less (seen seen' : Array Nat) : Prop := (leftOf m7 seen').size < (leftOf m7 seen).size
/-- 'range' over the places -/
theorem wp_range7 {w : World} {ops : Array Oper} {rest : List Oper} {o : Oper} {a : Act} {Q : Exit → Act → World → Prop} (hg : o.guard = none) (m : Operand) (hop : o.op = Op.range 75 m) (b : Nat) (hm : a.eval m = .map (some b)) (hb : w.heap[b]? = some (.map m7 7))
    (hK : ∀ w', It w' b w.heap.size #[] 7 → w' = w.alloc (.mapIter (some b) 7 #[] 7) → wpList Tryz.prog ops Q rest (a.put o.dst (.pointer (some ⟨w.heap.size, 0, none⟩))) w') : wpList Tryz.prog ops Q (o :: rest) a w := by
  refine wpList_plain hg fun K' hK' => ?_
  have hlt := (Array.getElem?_eq_some_iff.1 hb).1
  have hrun := run_range_map (P := Tryz.prog) w 75 22 73 b m7 7 Tryz.underlying75 hb
  unfold Oper.wp
  simp [execOp, hop, hm, hrun, Result.andThen]
  exact hK' _ _ (hK _ ⟨blk_alloc hb _, blk_new w _, Nat.le_refl _, by omega⟩ rfl)
/-- a step -/
theorem wp_next7 {w : World} {ops : Array Oper} {rest : List Oper} {o : Oper} {a : Act} {Q : Exit → Act → World → Prop} (hg : o.guard = none) (it : Operand) (hop : o.op = Op.next it false) (b r : Nat) (seen : Array Nat) (c0 : Nat) (hit : a.eval it = .pointer (some ⟨r, 0, none⟩)) (h : It w b r seen c0)
    (hDone : AllSeen seen → wpList Tryz.prog ops Q rest (a.put o.dst (.tuple #[.bool false])) w)
    (hMore : ∀ i k n b' w', InM i k n b' → Place k n b' → It w' b r (seen.push i) 7 → Less seen (seen.push i) → w.grownBy w' (some r) → w'.heap.size = w.heap.size →
      (Instr.entry (.pointer (some ⟨r, 0, none⟩))).run Tryz.prog w' = .ok (.tuple #[.int .u8 k, fv n b']) w' → wpList Tryz.prog ops Q rest (a.put o.dst (.tuple #[.bool true, .int .u8 k, fv n b'])) w') : wpList Tryz.prog ops Q (o :: rest) a w := by
  refine wpList_plain hg fun K' hK' => ?_
  unfold Oper.wp
  rcases h.next o.type with ⟨h0, hrun⟩ | ⟨i, k, n, b', hem, hp, w', hrun, hit', hlt, hgr, hsz, hen⟩
  · simp [execOp, hop, hit, hrun, Result.andThen]
    exact hK' _ _ (hDone h0)
  · simp [execOp, hop, hit, hrun, Result.andThen]
    exact hK' _ _ (hMore i k n b' w' hem hp hit' hlt hgr hsz hen)

/-- the kind that a field tells; 0: none -/
def kindOf (f : M.Fd) : Int := if f.num = 1 ∧ f.wire = 2 then 1 else if f.num = 2 ∧ f.wire = 0 then 2 else if f.num = 3 ∧ f.wire = 0 then 3 else if f.num = 4 ∧ f.wire = 1 then 4 else if f.num = 5 ∧ f.wire = 2 then 5 else if f.num = 6 ∧ f.wire = 2 then 6 else if f.num = 7 ∧ f.wire = 2 then 7 else 0
/-- the last field that is a kind's -/
def toldOf (fs : List M.Fd) : Int × M.Fd := fs.foldl (fun acc f => if kindOf f = 0 then acc else (kindOf f, f)) (0, ⟨0, 0, 0, []⟩)
theorem toldOf_snoc (fs : List M.Fd) (f : M.Fd) : toldOf (fs ++ [f]) = if kindOf f = 0 then toldOf fs else (kindOf f, f) := by
  unfold toldOf
  rw [List.foldl_append]
  rfl
theorem kindOf_place {k n b : Int} {f : M.Fd} (h : Place k n b) (hn : f.num = n) (hb : (f.wire : Int) = b) : kindOf f = k ∧ ¬ k = 0 := by
  unfold kindOf
  rcases h with ⟨rfl, rfl, rfl⟩ | ⟨rfl, rfl, rfl⟩ | ⟨rfl, rfl, rfl⟩ | ⟨rfl, rfl, rfl⟩ | ⟨rfl, rfl, rfl⟩ | ⟨rfl, rfl, rfl⟩ | ⟨rfl, rfl, rfl⟩ <;>
    (rw [hn]; refine ⟨?_, by decide⟩; repeat (first | rw [if_pos (by omega)] | rw [if_neg (by omega)]))
theorem kindOf_none {f : M.Fd} {seen : Array Nat} (hall : AllSeen seen) (h : ∀ i k n b, InM i k n b → seen.contains i = true → ¬ (f.num = n ∧ (f.wire : Int) = b)) : kindOf f = 0 := by
  have key : ∀ i k n b, entryL i k n b ∈ m7.toList → ¬ (f.num = n ∧ (f.wire : Int) = b) := fun i k n b hm => h i k n b hm (hall _ hm)
  have key : ∀ i k n b, entryL i k n b ∈ m7.toList → ¬ (f.num = n ∧ (f.wire : Int) = b) := key
  have h1 := key 0 1 1 2 (by rw [m7_list]; simp)
  have h2 := key 1 2 2 0 (by rw [m7_list]; simp)
  have h3 := key 2 3 3 0 (by rw [m7_list]; simp)
  have h4 := key 3 4 4 1 (by rw [m7_list]; simp)
  have h5 := key 4 5 5 2 (by rw [m7_list]; simp)
  have h6 := key 5 6 6 2 (by rw [m7_list]; simp)
  have h7 := key 6 7 7 2 (by rw [m7_list]; simp)
  unfold kindOf
  rw [if_neg (by omega), if_neg (by omega), if_neg (by omega), if_neg (by omega), if_neg (by omega), if_neg (by omega), if_neg (by omega)]
end Go.Proofs.YtnnnnlcpmocnfaaGreatDoor

/- MESSAGES OF VALUES: which kind a message tells, WALKED. -/
namespace Go.Proofs.YtnnnnlcpmocnfaaGreatDoor
open Go.RowKit
set_option linter.unusedVariables false
set_option linter.unusedSimpArgs false
attribute [local go_sem] run_store_float

open Go.ChangeMaps (setBlock)
theorem blk4_set {W : World} {g : Nat} {x0 x1 x2 x3 : Value} (h : W.heap[g]? = some (.cells #[x0, x1, x2, x3] 73 (0, 0))) (v : Value) :
    (W.setCell ⟨g, 0, none⟩ v).heap[g]? = some (.cells #[v, x1, x2, x3] 73 (0, 0)) ∧ (W.setCell ⟨g, 1, none⟩ v).heap[g]? = some (.cells #[x0, v, x2, x3] 73 (0, 0)) ∧ (W.setCell ⟨g, 2, none⟩ v).heap[g]? = some (.cells #[x0, x1, v, x3] 73 (0, 0)) ∧ (W.setCell ⟨g, 3, none⟩ v).heap[g]? = some (.cells #[x0, x1, x2, v] 73 (0, 0)) := by
  have hh : ∀ i, (W.setCell ⟨g, i, none⟩ v).heap[g]? = some (.cells (#[x0, x1, x2, x3].setIfInBounds i v) 73 (0, 0)) := fun i => by
    rw [setCell_eq_setRow W g i _ 73 (0, 0) v h]; exact setRow_heap W g _ _ 73 (0, 0) h
  exact ⟨hh 0, hh 1, hh 2, hh 3⟩
theorem blk4_facts {w : World} {b : Nat} {x0 x1 x2 x3 : Value} (h : w.heap[b]? = some (.cells #[x0, x1, x2, x3] 73 (0, 0))) :
    (w.cell? ⟨b, 0, none⟩ = some x0 ∧ w.cell? ⟨b, 1, none⟩ = some x1 ∧ w.cell? ⟨b, 2, none⟩ = some x2 ∧ w.cell? ⟨b, 3, none⟩ = some x3) ∧
    w.frozen? ⟨b, 0, none⟩ = false ∧ w.frozen? ⟨b, 1, none⟩ = false ∧ w.frozen? ⟨b, 2, none⟩ = false ∧ w.frozen? ⟨b, 3, none⟩ = false :=
  ⟨box4 h, frozen_of_row w b 0 _ 73 h, frozen_of_row w b 1 _ 73 h, frozen_of_row w b 2 _ 73 h, frozen_of_row w b 3 _ 73 h⟩
theorem store4 {W : World} {g : Nat} {x0 x1 x2 x3 : Value} (h : W.heap[g]? = some (.cells #[x0, x1, x2, x3] 73 (0, 0))) (v0 v1 v2 v3 : Value) :
    (W.cell? ⟨g, 0, none⟩ = some x0 ∧ W.frozen? ⟨g, 0, none⟩ = false) ∧
    ((W.setCell ⟨g, 0, none⟩ v0).cell? ⟨g, 1, none⟩ = some x1 ∧ (W.setCell ⟨g, 0, none⟩ v0).frozen? ⟨g, 1, none⟩ = false) ∧
    (((W.setCell ⟨g, 0, none⟩ v0).setCell ⟨g, 1, none⟩ v1).cell? ⟨g, 2, none⟩ = some x2 ∧ ((W.setCell ⟨g, 0, none⟩ v0).setCell ⟨g, 1, none⟩ v1).frozen? ⟨g, 2, none⟩ = false) ∧
    ((((W.setCell ⟨g, 0, none⟩ v0).setCell ⟨g, 1, none⟩ v1).setCell ⟨g, 2, none⟩ v2).cell? ⟨g, 3, none⟩ = some x3 ∧ (((W.setCell ⟨g, 0, none⟩ v0).setCell ⟨g, 1, none⟩ v1).setCell ⟨g, 2, none⟩ v2).frozen? ⟨g, 3, none⟩ = false) ∧
    ((((W.setCell ⟨g, 0, none⟩ v0).setCell ⟨g, 1, none⟩ v1).setCell ⟨g, 2, none⟩ v2).setCell ⟨g, 3, none⟩ v3).heap[g]? = some (.cells #[v0, v1, v2, v3] 73 (0, 0)) := by
  have h1 := (blk4_set h v0).1
  have h2 := (blk4_set h1 v1).2.1
  have h3 := (blk4_set h2 v2).2.2.1
  have h4 := (blk4_set h3 v3).2.2.2
  exact ⟨⟨(blk4_facts h).1.1, (blk4_facts h).2.1⟩, ⟨(blk4_facts h1).1.2.1, (blk4_facts h1).2.2.1⟩, ⟨(blk4_facts h2).1.2.2.1, (blk4_facts h2).2.2.2.1⟩, ⟨(blk4_facts h3).1.2.2.2, (blk4_facts h3).2.2.2.2⟩, h4⟩

/-- what told answers -/
def toldV (fs : List M.Fd) : Value := .tuple #[.int .u8 (toldOf fs).1, .agg ⟨fc (toldOf fs).2⟩]
theorem m7_uni {i : Nat} {k n b k' n' b' : Int} (h : InM i k' n' b') (h2 : InM i k n b) : n' = n ∧ b' = b := by
  unfold InM at h h2
  rw [m7_list] at h h2
  simp only [List.mem_cons, List.not_mem_nil, or_false, entryL, MapEntry.mk.injEq, Value.int.injEq, Value.agg.injEq, true_and] at h h2
  have e : ∀ x y x' y' : Int, #[Value.int .i64 x, .int .u8 y, .int .u64 0, .string ⟨#[]⟩] = #[Value.int .i64 x', .int .u8 y', .int .u64 0, .string ⟨#[]⟩] → x = x' ∧ y = y' := fun x y x' y' h => by
    simp at h; exact h
  rcases h with ⟨_, h, hi⟩ | ⟨_, h, hi⟩ | ⟨_, h, hi⟩ | ⟨_, h, hi⟩ | ⟨_, h, hi⟩ | ⟨_, h, hi⟩ | ⟨_, h, hi⟩ <;> rcases h2 with ⟨_, h2, hi2⟩ | ⟨_, h2, hi2⟩ | ⟨_, h2, hi2⟩ | ⟨_, h2, hi2⟩ | ⟨_, h2, hi2⟩ | ⟨_, h2, hi2⟩ | ⟨_, h2, hi2⟩ <;>
    first | (exfalso; omega) | (have := e _ _ _ _ h; have := e _ _ _ _ h2; omega)
structure TdInv (w wr : World) (fs : List M.Fd) (x : Int) : Prop where
  b : Below w.heap.size w wr
  z : wr.heap[w.heap.size]? = some (.cells #[.int .i64 0, .int .u8 0, .int .u64 0, .string ⟨#[]⟩] 73 (0, 0))
  m : wr.heap[w.heap.size + 1]? = some (.map m7 7)
  t : toldOf fs = toldOf (fs.take (x + 1).toNat)
structure TdIn (w wr : World) (fs : List M.Fd) (x : Int) (r : Nat) (seen : Array Nat) (c0 : Nat) (f : M.Fd) : Prop where
  inv : TdInv w wr fs x
  it : It wr (w.heap.size + 1) r seen c0
  no : ∀ i k n b, InM i k n b → seen.contains i = true → ¬ (f.num = n ∧ (f.wire : Int) = b)
theorem TdInv.keep {w wr w' : World} {fs : List M.Fd} {x : Int} (h : TdInv w wr fs x) (hb : Below wr.heap.size wr w') : TdInv w w' fs x :=
  ⟨h.b.trans (hb.mono h.b.size), (hb.block _ (Array.getElem?_eq_some_iff.1 h.z).1).trans h.z, (hb.block _ (Array.getElem?_eq_some_iff.1 h.m).1).trans h.m, h.t⟩
theorem grown_below {w w' : World} {r B : Nat} (h : w.grownBy w' (some r)) (hB : B ≤ r) (hw : B ≤ w.heap.size) : Below B w w' :=
  ⟨h.os, h.tape, h.output, h.size, fun j hj => h.block j (by omega) (by intro e; injection e with e; omega)⟩
theorem TdInv.grown {w wr w' : World} {fs : List M.Fd} {x : Int} {r : Nat} (h : TdInv w wr fs x) (hg : wr.grownBy w' (some r)) (hr : w.heap.size + 1 < r) (hlt : r < wr.heap.size) : TdInv w w' fs x := by
  have hs := h.b.size
  refine ⟨h.b.trans (grown_below hg (by omega) (by omega)), ?_, ?_, h.t⟩
  · exact (hg.block _ (Array.getElem?_eq_some_iff.1 h.z).1 (by intro e; injection e with e; omega)).trans h.z
  · exact (hg.block _ (Array.getElem?_eq_some_iff.1 h.m).1 (by intro e; injection e with e; omega)).trans h.m

theorem drewN_heap (w : World) (n : Nat) : (w.drewN n).heap = w.heap := by
  induction n with
  | zero => rfl
  | succ n ih => simp
theorem TdInv.drewN {w wr : World} {fs : List M.Fd} {x : Int} (h : TdInv w wr fs x) (n : Nat) : TdInv w (wr.drewN n) fs x := ⟨below_drewN h.b n, by rw [drewN_heap]; exact h.z, by rw [drewN_heap]; exact h.m, h.t⟩
theorem It.drewN {w : World} {b r : Nat} {seen : Array Nat} {c0 : Nat} (h : It w b r seen c0) (n : Nat) : It (w.drewN n) b r seen c0 := ⟨by rw [drewN_heap]; exact h.m, by rw [drewN_heap]; exact h.i, h.c, h.ne⟩
theorem TdIn.drewN {w wr : World} {fs : List M.Fd} {x : Int} {r : Nat} {seen : Array Nat} {c0 : Nat} {f : M.Fd} (h : TdIn w wr fs x r seen c0 f) (n : Nat) : TdIn w (wr.drewN n) fs x r seen c0 f := ⟨h.inv.drewN n, h.it.drewN n, h.no⟩

set_option maxRecDepth 100000 in
set_option maxHeartbeats 8000000 in
theorem told_any (w : World) (ad : Option Addr) (n cap : Nat) (fs : List M.Fd) (hn : n = fs.length) (hfl : Flds w w.heap.size ad fs) :
    Calls Tryz.prog 57 #[.slice ad n cap] w fun e w' => e = .returned (toldV fs) ∧ Below w.heap.size w w' := by
  have hn63 : n ≤ 9223372036854775807 := by rw [hn]; exact hfl.1
  have Hn := Lib.hid hn
  have Hfl := Lib.hid hfl
  have Hplaces := Lib.hid (fun W => places_any W)
  clear hn hfl
  go_enter Tryz.func57, Tryz.ntmps57
  go_wp2_with (go_at_call 49; refine (Hplaces.out _).mono ?_; rintro e w8 ⟨rfl, rfl⟩)
  go_loopw [5] (fun i wr => ∃ (x : Int), i = .int .i64 x ∧ -1 ≤ x ∧ x < n ∧ Go.RowKit.Hid (TdInv w wr fs x)) (fun i _ => (intOf i + 1).toNat)
  case atStart =>
    refine ⟨(n : Int) - 1, rfl, by omega, by omega, ?_, ?_, ?_, ?_⟩
    · go_grown
    · exact blk_alloc (blk_new w _) _
    · exact blk_at (by simp)
    · rw [show ((n : Int) - 1 + 1).toNat = n by omega, List.take_of_length_le (by have := Hn.out; omega)]
  case round =>
    obtain ⟨x, rfl, hx1, hx2, hinv⟩ := hrel
    by_cases hx0 : 0 ≤ x
    · obtain ⟨j, rfl⟩ := Int.eq_ofNat_of_zero_le hx0
      have hjn : j < n := by omega
      have hne : fs ≠ [] := by rintro rfl; have := Hn.out; simp at this; omega
      obtain ⟨g, off, rfl, hg, hi⟩ := Hfl.out.2 hne
      obtain ⟨f, hf⟩ : ∃ f, fs[j]? = some f := ⟨fs[j]'(by have := Hn.out; omega), by simp⟩
      obtain ⟨a, b, c, l, hfit, q⟩ := hi j f hf
      have Hq := Lib.hid q
      have Hg := Lib.hid hg
      have Hf := Lib.hid hf
      have Hfit := Lib.hid hfit
      have HM := Lib.hid hinv.out.m
      clear q hi hne hg hf hfit
      obtain ⟨r, hr⟩ : ∃ r, r = wr.heap.size := ⟨_, rfl⟩
      have Hr := Lib.hid hr
      go_wp2_with (first | (at_range; refine wp_range7 rfl _ rfl (w.heap.size + 1) rfl HM.out ?_; intro w0 hit0 hw0) | fail)
      rw [← hr] at hit0 ⊢
      go_frame
      have Hlt := Lib.hid (show w.heap.size + 1 < r by rw [Hr.out]; exact (Array.getElem?_eq_some_iff.1 HM.out).1)
      have Hin0 : TdIn w w0 fs j r #[] 7 f := ⟨hinv.out.keep (by rw [hw0]; exact al wr _), hit0, fun i k n b _ h => by simp at h⟩
      clear hit0 hw0 hinv HM hr
      go_loopw [18] (fun _ W => ∃ seen c0, Go.RowKit.Hid (TdIn w W fs j r seen c0 f)) (fun _ W => W.rangeLeft (w.heap.size + 1) r)
      case atStart => exact ⟨_, _, Hin0⟩
      case round =>
        obtain ⟨seen, c0, hin⟩ := hrel
        go_wp2_with (first | (at_next; refine wp_next7 rfl _ rfl (w.heap.size + 1) r seen c0 rfl hin.out.it ?_ ?_) | fail)
        · intro hall
          have hno : kindOf f = 0 := kindOf_none hall hin.out.no
          have hnext : toldOf fs = toldOf (fs.take ((j : Int) - 1 + 1).toNat) := by
            have := hin.out.inv.t
            rw [show ((j : Int) + 1).toNat = j + 1 by omega, take_snoc_get Hf.out, toldOf_snoc, if_pos hno] at this
            rw [this, show ((j : Int) - 1 + 1).toNat = j by omega]
          have Hinv := Lib.hid (show TdInv w wr fs ((j : Int) - 1) from ⟨hin.out.inv.b, hin.out.inv.z, hin.out.inv.m, hnext⟩)
          clear hall hno hnext hin Hin0
          go_wp2
          refine ⟨⟨(j : Int) - 1, rfl, by omega, by omega, Hinv.out⟩, ?_⟩
          simp [intOf]
          first | done | omega
        · intro i k nn bb w1 hmem hpl hit1 hless hgr1 hsz1 hen1
          have hsz := Lib.hid hsz1
          have Hin1 : Go.RowKit.Hid (TdInv w w1 fs j) := hin.out.inv.grown hgr1 Hlt.out hin.out.it.lt
          obtain ⟨W2, hW2⟩ : ∃ W2, W2 = w1.alloc (.cells #[.int .i64 nn, .int .u8 bb, .int .u64 0, .string ⟨#[]⟩] 73) := ⟨_, rfl⟩
          have HW2 := Lib.hid hW2
          have Hin2 : Go.RowKit.Hid (TdInv w W2 fs j) := by rw [hW2]; exact Hin1.out.keep (al w1 _)
          have Hit2 : Go.RowKit.Hid (It W2 (w.heap.size + 1) r (seen.push i) 7) := by rw [hW2]; exact hit1.keep (al w1 _)
          have Hless : Go.RowKit.Hid (Less seen (seen.push i)) := hless
          have Hmeas := Lib.hid hin.out.it.left
          have hfb : W2.heap[w1.heap.size]? = some (.cells #[.int .i64 nn, .int .u8 bb, .int .u64 0, .string ⟨#[]⟩] 73 (0, 0)) := by rw [hW2]; exact blk_new w1 _
          obtain ⟨e0, e1, e2, e3⟩ := box4 hfb
          have hqq : At4 W2 g off j a b c l := ⟨(Hin2.out.b.cell (p := ⟨g, _, none⟩) Hg.out).trans Hq.out.q0, (Hin2.out.b.cell (p := ⟨g, _, none⟩) Hg.out).trans Hq.out.q1, (Hin2.out.b.cell (p := ⟨g, _, none⟩) Hg.out).trans Hq.out.q2, (Hin2.out.b.cell (p := ⟨g, _, none⟩) Hg.out).trans Hq.out.q3⟩
          obtain ⟨q0, q1, q2, q3⟩ := hqq
          have Hseen := Lib.hid hin.out.no
          have Hpl := Lib.hid hpl
          have hjn' : (j : Int) < (n : Int) := by omega
          have hen := hen1
          have Hrows := Lib.hid (show f.num = a ∧ (f.wire : Int) = b from by
            obtain ⟨rfl, h1, _, _, _, _, _, _⟩ := Hfit.out
            exact ⟨rfl, Int.toNat_of_nonneg h1⟩)
          have hnext : ¬ (a = nn ∧ b = bb) → TdIn w W2 fs j r (seen.push i) 7 f := fun hne => ⟨Hin2.out, Hit2.out, fun i' k' n' b' hm' hs' => by
            rw [contains_push] at hs'
            rcases Bool.or_eq_true_iff.1 hs' with h | h
            · exact Hseen.out i' k' n' b' hm' h
            · have hi : i' = i := by simpa using h
              subst hi
              have huni : n' = nn ∧ b' = bb := m7_uni hm' hmem
              rw [huni.1, huni.2, Hrows.out.1, Hrows.out.2]
              exact hne⟩
          have Hnext := Lib.hid hnext
          clear hmem hpl hit1 hless hgr1 hen1 hin Hin0 hfb hnext hsz1
          by_cases ha : a = nn
          · have hab : (a == nn) = true := by simp [ha]
            by_cases hb : b = bb
            · have hbb : (b == bb) = true := by simp [hb]
              have hres : toldV fs = .tuple #[.int .u8 k, .agg (fcells a b c l)] := by
                obtain ⟨hk1, hk2⟩ := kindOf_place Hpl.out (Hrows.out.1.trans ha) (Hrows.out.2.trans hb)
                have := Hin2.out.t
                rw [show ((j : Int) + 1).toNat = j + 1 by omega, take_snoc_get Hf.out, toldOf_snoc, if_neg (by rw [hk1]; exact hk2), hk1] at this
                unfold toldV
                rw [this, ← fc_fit Hfit.out]
              have Hres := Lib.hid hres
              clear ha hb hres
              clear hW2
              go_wp2
              rw [← HW2.out]
              go_quiet (fail)
              clear e0 e1 e2 e3 q0 q1 q2 q3
              obtain ⟨W3, hW3⟩ : ∃ W3, W3 = W2.drewN nq := ⟨_, rfl⟩
              have Hin3 : Go.RowKit.Hid (TdInv w W3 fs j) := by rw [hW3]; exact Hin2.out.drewN nq
              have hqq : At4 W3 g off j a b c l := ⟨(Hin3.out.b.cell (p := ⟨g, _, none⟩) Hg.out).trans Hq.out.q0, (Hin3.out.b.cell (p := ⟨g, _, none⟩) Hg.out).trans Hq.out.q1, (Hin3.out.b.cell (p := ⟨g, _, none⟩) Hg.out).trans Hq.out.q2, (Hin3.out.b.cell (p := ⟨g, _, none⟩) Hg.out).trans Hq.out.q3⟩
              obtain ⟨q0, q1, q2, q3⟩ := hqq
              obtain ⟨⟨z0, y0⟩, ⟨z1, y1⟩, ⟨z2, y2⟩, ⟨z3, y3⟩, hz⟩ := store4 Hin3.out.z (.int .i64 a) (.int .u8 b) (.int .u64 c) (.string ⟨l.toArray⟩)
              obtain ⟨v0, v1, v2, v3⟩ := box4 hz
              clear hz
              rw [← hW3]
              clear hW3
              go_wp2
              go_region
              all_goals
                go_wp2
                refine bodyPost_ret (v := .tuple #[.int .u8 k, .agg (fcells a b c l)]) (by simp [results, Tryz.results57, go_sem, v0, v1, v2, v3]) rfl ⟨?_, ?_⟩
                · rw [Hres.out]
                · exact ((((Hin3.out.b.setCell (Nat.le_refl _) _).setCell (Nat.le_refl _) _).setCell (Nat.le_refl _) _).setCell (Nat.le_refl _) _).drew
            · have hbb : (b == bb) = false := by simp [hb]
              have Hn2 := Lib.hid (Hnext.out (fun h => hb h.2))
              clear ha hb
              clear hW2
              go_wp2
              rw [← HW2.out]
              go_quiet (fail)
              go_wp2
              refine ⟨⟨_, _, Hn2.out.drewN nq⟩, ?_⟩
              rw [(Hit2.out.drewN nq).left, Hmeas.out]
              exact Hless.out
          · have hab : (a == nn) = false := by simp [ha]
            have Hn2 := Lib.hid (Hnext.out (fun h => ha h.1))
            clear ha
            clear hW2
            go_wp2
            rw [← HW2.out]
            go_quiet (fail)
            go_wp2
            refine ⟨⟨_, _, Hn2.out.drewN nq⟩, ?_⟩
            rw [(Hit2.out.drewN nq).left, Hmeas.out]
            exact Hless.out
    · have hneg : x < 0 := by omega
      have hx' : x = -1 := by omega
      subst hx'
      have hres : toldV fs = .tuple #[.int .u8 0, .agg #[.int .i64 0, .int .u8 0, .int .u64 0, .string ⟨#[]⟩]] := by
        have := hinv.out.t
        unfold toldV
        rw [this]
        rfl
      have Hres := Lib.hid hres
      have Hb := Lib.hid hinv.out.b
      obtain ⟨⟨z0, y0⟩, ⟨z1, y1⟩, ⟨z2, y2⟩, ⟨z3, y3⟩, hz⟩ := store4 hinv.out.z (.int .i64 0) (.int .u8 0) (.int .u64 0) (.string ⟨#[]⟩)
      obtain ⟨v0, v1, v2, v3⟩ := box4 hz
      clear hz hres hinv hx0
      go_wp2
      refine bodyPost_ret (v := .tuple #[.int .u8 0, .agg #[.int .i64 0, .int .u8 0, .int .u64 0, .string ⟨#[]⟩]]) (by simp [results, Tryz.results57, go_sem, v0, v1, v2, v3]) rfl ⟨?_, ?_⟩
      · rw [Hres.out]
      · exact ((((Hb.out.setCell (Nat.le_refl _) _).setCell (Nat.le_refl _) _).setCell (Nat.le_refl _) _).setCell (Nat.le_refl _) _)
end Go.Proofs.YtnnnnlcpmocnfaaGreatDoor

/- MESSAGES OF VALUES, READ: fields, and the parts of a list or a map, WALKED. -/
namespace Go.Proofs.YtnnnnlcpmocnfaaGreatDoor
open Go.RowKit
set_option linter.unusedVariables false
set_option linter.unusedSimpArgs false
attribute [local go_sem] run_store_float

theorem FRow.short {w : World} {base : Nat} {v : Value} {fs : List M.Fd} (h : FRow w base v fs) (hf : ∀ f ∈ fs, Fine f) (hl : fs.length ≤ 9223372036854775807) : ∃ ad cap, v = .slice ad fs.length cap ∧ Flds w w.heap.size ad fs := h.flds hf hl
theorem read_err_ne {s : List UInt8} {c : Nat} (h : M.read s = .error c) : ((c : Int) == 0) = false := by
  unfold M.read at h
  split at h
  · injection h with h; subst h; rfl
  · cases hp : M.parse s with
    | error e =>
      rw [hp] at h
      injection h with h
      subst h
      have := M.parse_err_is _ s (Nat.le_refl _) e hp
      rcases this with rfl | rfl <;> rfl
    | ok fs =>
      rw [hp] at h
      dsimp only at h
      split at h
      · injection h with h; subst h; rfl
      · cases h
/-- what fields answers -/
def FieldsP (s : List UInt8) (w : World) (e : Ending) (w' : World) : Prop :=
  match M.read s with
  | .error c => e = pan31 (c : Int) ∧ Below w.heap.size w w'
  | .ok fs => ∃ ad cap, e = .returned (.slice ad fs.length cap) ∧ Flds w' w'.heap.size ad fs ∧ fs.length ≤ 4096 ∧ Below w.heap.size w w'
set_option maxRecDepth 100000 in
theorem fields_all (s : List UInt8) (w : World) (hs : s.length ≤ 9223372036854775807) : Calls Tryz.prog 58 #[.string ⟨s.toArray⟩] w (FieldsP s w) := by
  have H := Lib.hid (read_any s w hs)
  clear hs
  cases hr : M.read s with
  | error c =>
    have Hc := Lib.hid (read_err_ne hr)
    have Hr := Lib.hid hr
    clear hr
    go_enter Tryz.func58, Tryz.ntmps58
    go_wp2_with fail
    refine (H.out).mono ?_
    rintro e w1 ⟨hb, h⟩
    rw [Hr.out] at h
    obtain rfl := h
    have Hb := Lib.hid hb
    clear hb
    go_wp2_with fail
    refine (on_no _ _ Hc.out).mono ?_
    rintro e w2 ⟨rfl, rfl⟩
    exact ⟨rfl, by unfold FieldsP; rw [Hr.out]; exact ⟨rfl, Hb.out⟩⟩
  | ok fs =>
    have Hr := Lib.hid hr
    clear hr
    go_enter Tryz.func58, Tryz.ntmps58
    go_wp2_with fail
    refine (H.out).mono ?_
    rintro e w1 ⟨hb, h⟩
    rw [Hr.out] at h
    obtain ⟨v, rfl, hrow, hfine, hlen⟩ := h
    obtain ⟨ad, cap, rfl, hfl⟩ := hrow.flds hfine (by omega)
    have Hb := Lib.hid hb
    have Hfl := Lib.hid hfl
    have Hlen := Lib.hid hlen
    clear hb hrow hfine hfl hlen
    go_wp2_with fail
    refine (on_ok _).mono ?_
    rintro e w2 ⟨rfl, rfl⟩
    go_wp2
    go_ret
    unfold FieldsP
    rw [Hr.out]
    exact ⟨ad, cap, rfl, Hfl.out, Hlen.out, Hb.out⟩

/-- the parts of a list or a map -/
def partsR (s : List UInt8) (fuel : Nat) : Except Int (List M.Fd) :=
  match M.read s with
  | .error c => .error (c : Int)
  | .ok fs => if 256 < (allOf 1 2 fs).length then .error 3 else if fuel = 0 then .error 11 else .ok (allOf 1 2 fs)
def PartsP (r : Except Int (List M.Fd)) (w : World) (e : Ending) (w' : World) : Prop :=
  match r with
  | .error c => e = pan31 c ∧ Below w.heap.size w w'
  | .ok fs => ∃ ad cap, e = .returned (.slice ad fs.length cap) ∧ Flds w' w'.heap.size ad fs ∧ fs.length ≤ 256 ∧ (∀ g o, ad = some ⟨g, o, none⟩ → w.heap.size ≤ g) ∧ Below w.heap.size w w'
set_option maxRecDepth 100000 in
set_option maxHeartbeats 4000000 in
theorem parts_all (s : List UInt8) (fuel : Nat) (hfu : fuel ≤ 8) (w : World) (hs : s.length ≤ 9223372036854775807) : Calls Tryz.prog 61 #[.string ⟨s.toArray⟩, .int .i64 (8 - (fuel : Int))] w (PartsP (partsR s fuel) w) := by
  have H := Lib.hid (fields_all s w hs)
  clear hs
  obtain ⟨d, hd⟩ : ∃ d : Int, d = 8 - (fuel : Int) := ⟨_, rfl⟩
  rw [← hd]
  have Hd := Lib.hid hd
  clear hd
  cases hr : M.read s with
  | error c =>
    have hR : partsR s fuel = .error (c : Int) := by unfold partsR; rw [hr]
    have HR := Lib.hid hR
    have Hr := Lib.hid hr
    clear hr hR
    go_enter Tryz.func61, Tryz.ntmps61
    go_wp2_with fail
    refine (H.out).mono ?_
    intro e w1 h
    unfold FieldsP at h
    rw [Hr.out] at h
    obtain ⟨rfl, hb⟩ := h
    exact ⟨rfl, by rw [HR.out]; exact ⟨rfl, hb⟩⟩
  | ok fs =>
    have Hr := Lib.hid hr
    by_cases hm : 256 < (allOf 1 2 fs).length
    · have hR : partsR s fuel = .error 3 := by unfold partsR; rw [hr]; dsimp only; rw [if_pos hm]
      have HR := Lib.hid hR
      have Hm := Lib.hid (show ¬ (((allOf 1 2 fs).length : Nat) : Int) ≤ 256 by omega)
      clear hr hR hm
      go_enter Tryz.func61, Tryz.ntmps61
      go_wp2_with fail
      refine (H.out).mono ?_
      intro e w1 h
      unfold FieldsP at h
      rw [Hr.out] at h
      obtain ⟨ad, cap, rfl, hfl, hlen, hb⟩ := h
      have Hall := Lib.hid (show Calls Tryz.prog 84 #[.slice ad fs.length cap, .int .i64 1, .int .u8 2] w1 fun e w' => ∃ v, e = .returned v ∧ FRow w' w1.heap.size v (allOf 1 2 fs) ∧ Below w1.heap.size w1 w' from all_any w1 ad fs.length cap 1 2 fs rfl hfl (by omega) (by decide) (by decide))
      have Hfin := Lib.hid (show ∀ f ∈ allOf 1 2 fs, Fine f from fun f hf => by
        have hmem := (List.mem_filter.1 (show f ∈ fs.filter (pick 1 2) from hf)).1
        obtain ⟨i, hi⟩ := List.getElem?_of_mem hmem
        obtain ⟨g, off, _, _, h⟩ := hfl.2 (List.ne_nil_of_mem hmem)
        obtain ⟨a, b, c, l, hfit, _⟩ := h i f hi
        exact ⟨a, b, c, l, hfit⟩)
      have Hb := Lib.hid hb
      have Hlen := Lib.hid hlen
      clear hfl hlen hb
      go_wp2_with fail
      refine (Hall.out).mono ?_
      rintro e w2 ⟨v, rfl, hrow, hb2⟩
      obtain ⟨ad2, cap2, rfl, hfl2⟩ := hrow.flds Hfin.out (by have := allOf_len 1 2 fs; have := Hlen.out; omega)
      have Hb2 := Lib.hid (Hb.out.trans (hb2.mono Hb.out.size))
      clear hrow hb2 hfl2
      obtain ⟨m, hm⟩ : ∃ m, m = (allOf 1 2 fs).length := ⟨_, rfl⟩
      rw [← hm]
      have Hm2 := Lib.hid (show ¬ (m : Int) ≤ 256 by rw [hm]; have := Hm.out; omega)
      clear hm
      go_wp2_with fail
      refine (many_no _ _ (by have := Hm2.out; omega)).mono ?_
      rintro e w3 ⟨rfl, rfl⟩
      exact ⟨rfl, by rw [HR.out]; exact ⟨rfl, Hb2.out⟩⟩
    · have hm' : (((allOf 1 2 fs).length : Nat) : Int) ≤ 256 := by omega
      have Hm := Lib.hid hm'
      have hR : partsR s fuel = if fuel = 0 then .error 11 else .ok (allOf 1 2 fs) := by unfold partsR; rw [hr]; dsimp only; rw [if_neg hm]
      have HR := Lib.hid hR
      clear hr hR hm hm'
      cases hz : decide (fuel = 0)
      all_goals
        first | have Hz := Lib.hid (of_decide_eq_false hz) | have Hz := Lib.hid (of_decide_eq_true hz)
        clear hz
        go_enter Tryz.func61, Tryz.ntmps61
        go_wp2_with fail
        refine (H.out).mono ?_
        intro e w1 h
        unfold FieldsP at h
        rw [Hr.out] at h
        obtain ⟨ad, cap, rfl, hfl, hlen, hb⟩ := h
        have Hall := Lib.hid (show Calls Tryz.prog 84 #[.slice ad fs.length cap, .int .i64 1, .int .u8 2] w1 fun e w' => ∃ v, e = .returned v ∧ FRow w' w1.heap.size v (allOf 1 2 fs) ∧ Below w1.heap.size w1 w' from all_any w1 ad fs.length cap 1 2 fs rfl hfl (by omega) (by decide) (by decide))
        have Hfin := Lib.hid (show ∀ f ∈ allOf 1 2 fs, Fine f from fun f hf => by
          have hmem := (List.mem_filter.1 (show f ∈ fs.filter (pick 1 2) from hf)).1
          obtain ⟨i, hi⟩ := List.getElem?_of_mem hmem
          obtain ⟨g, off, _, _, h⟩ := hfl.2 (List.ne_nil_of_mem hmem)
          obtain ⟨a, b, c, l, hfit, _⟩ := h i f hi
          exact ⟨a, b, c, l, hfit⟩)
        have Hb := Lib.hid hb
        have Hlen := Lib.hid hlen
        clear hfl hlen hb
        go_wp2_with fail
        refine (Hall.out).mono ?_
        rintro e w2 ⟨v, rfl, hrow, hb2⟩
        obtain ⟨ad2, cap2, rfl, hfl2⟩ := hrow.flds Hfin.out (by have := allOf_len 1 2 fs; have := Hlen.out; omega)
        have Hnew := Lib.hid (show ∀ g o, ad2 = some ⟨g, o, none⟩ → w.heap.size ≤ g from fun g o e => by subst e; exact Nat.le_trans Hb.out.size (hrow.lt g rfl).1)
        have Hb2 := Lib.hid (Hb.out.trans (hb2.mono Hb.out.size))
        have Hfl2 := Lib.hid hfl2
        clear hrow hb2 hfl2
        obtain ⟨m, hm⟩ : ∃ m, m = (allOf 1 2 fs).length := ⟨_, rfl⟩
        rw [← hm]
        have Hmm := Lib.hid hm
        have Hm2 := Lib.hid (show (m : Int) ≤ 256 by rw [hm]; exact Hm.out)
        clear hm
        go_wp2_with fail
        refine (many_ok _ _ Hm2.out).mono ?_
        rintro e w3 ⟨rfl, rfl⟩
        go_wp2_with fail
      · refine (depth_ok _ _ (by have := Hd.out; have := Hz.out; omega)).mono ?_
        rintro e w3 ⟨rfl, rfl⟩
        go_wp2
        go_ret
        rw [HR.out, if_neg Hz.out]
        exact ⟨ad2, cap2, by rw [Hmm.out]; rfl, Hfl2.out, by have := Hm.out; omega, Hnew.out, Hb2.out⟩
      · refine (depth_no _ _ (by have := Hd.out; have := Hz.out; omega)).mono ?_
        rintro e w3 ⟨rfl, rfl⟩
        exact ⟨rfl, by rw [HR.out, if_pos Hz.out]; exact ⟨rfl, Hb2.out⟩⟩
end Go.Proofs.YtnnnnlcpmocnfaaGreatDoor

/- MESSAGES OF VALUES, READ: the model. -/
namespace Go.Proofs.YtnnnnlcpmocnfaaGreatDoor
open Go.RowKit
set_option linter.unusedVariables false
set_option linter.unusedSimpArgs false
attribute [local go_sem] run_store_float

/-- what reading answers -/
def RPost (r : Except Int V) (w : World) (e : Ending) (w' : World) : Prop :=
  match r with
  | .error c => e = pan31 c ∧ Below w.heap.size w w'
  | .ok x => Copied x w e w'
def strOf (f : Option M.Fd) : List UInt8 := match f with | some f => f.s | none => []
abbrev BA (l : List UInt8) : ByteArray := ⟨l.toArray⟩
def rpairG (g : List UInt8 → Except Int V) (s : List UInt8) : Except Int (ByteArray × V) :=
  match M.read s with
  | .error c => .error (c : Int)
  | .ok fs => if keyErr (BA (strOf (lastOf 1 2 fs))) = 0 then (match g (strOf (lastOf 2 2 fs)) with | .error c => .error c | .ok x => .ok (BA (strOf (lastOf 1 2 fs)), x)) else .error (keyErr (BA (strOf (lastOf 1 2 fs))))
def rlistG (g : List UInt8 → Except Int V) (fs : List M.Fd) : Except Int (List V) :=
  fs.foldl (fun acc f => match acc with | .error c => .error c | .ok l => (match g f.s with | .error c => .error c | .ok x => .ok (l ++ [x]))) (.ok [])
def rpairsG (g : List UInt8 → Except Int V) (fs : List M.Fd) : Except Int (List (ByteArray × V)) :=
  fs.foldl (fun acc f => match acc with | .error c => .error c | .ok l => (match rpairG g f.s with | .error c => .error c | .ok x => .ok (putIn l x.1 x.2))) (.ok [])
theorem rlistG_snoc (g : List UInt8 → Except Int V) (fs : List M.Fd) (f : M.Fd) : rlistG g (fs ++ [f]) = match rlistG g fs with | .error c => .error c | .ok l => (match g f.s with | .error c => .error c | .ok x => .ok (l ++ [x])) := by
  unfold rlistG; rw [List.foldl_append]; rfl
theorem rpairsG_snoc (g : List UInt8 → Except Int V) (fs : List M.Fd) (f : M.Fd) : rpairsG g (fs ++ [f]) = match rpairsG g fs with | .error c => .error c | .ok l => (match rpairG g f.s with | .error c => .error c | .ok x => .ok (putIn l x.1 x.2)) := by
  unfold rpairsG; rw [List.foldl_append]; rfl
theorem rev_ind {α : Type} {P : List α → Prop} (h0 : P []) (h1 : ∀ l a, P l → P (l ++ [a])) (l : List α) : P l := by
  have key : ∀ r : List α, P r.reverse := by
    intro r
    induction r with
    | nil => exact h0
    | cons a r ih => rw [List.reverse_cons]; exact h1 _ a ih
  have := key l.reverse
  rwa [List.reverse_reverse] at this
theorem rlistG_err {g : List UInt8 → Except Int V} {fs : List M.Fd} {c : Int} (h : rlistG g fs = .error c) (rest : List M.Fd) : rlistG g (fs ++ rest) = .error c := by
  refine rev_ind (P := fun rest => rlistG g (fs ++ rest) = .error c) (by simpa using h) (fun rest f ih => ?_) rest
  rw [← List.append_assoc, rlistG_snoc, ih]
theorem rpairsG_err {g : List UInt8 → Except Int V} {fs : List M.Fd} {c : Int} (h : rpairsG g fs = .error c) (rest : List M.Fd) : rpairsG g (fs ++ rest) = .error c := by
  refine rev_ind (P := fun rest => rpairsG g (fs ++ rest) = .error c) (by simpa using h) (fun rest f ih => ?_) rest
  rw [← List.append_assoc, rpairsG_snoc, ih]
/-- one value, of what is around it -/
def rbody (fuel : Nat) (g : List UInt8 → Except Int V) (s : List UInt8) : Except Int V :=
  match M.read s with
  | .error c => .error (c : Int)
  | .ok fs =>
    if (toldOf fs).1 = 1 then (if keyErr (BA (toldOf fs).2.s) = 0 then .ok (.mk 1 (BA (toldOf fs).2.s) false 0 0 [] []) else .error (keyErr (BA (toldOf fs).2.s)))
    else if (toldOf fs).1 = 2 then .ok (.mk 2 ⟨#[]⟩ (((toldOf fs).2.n : Int) != 0) 0 0 [] [])
    else if (toldOf fs).1 = 3 then .ok (.mk 3 ⟨#[]⟩ false (IntKind.i64.wrap (toldOf fs).2.n) 0 [] [])
    else if (toldOf fs).1 = 4 then .ok (.mk 4 ⟨#[]⟩ false 0 (toldOf fs).2.n [] [])
    else if (toldOf fs).1 = 5 then (match partsR (toldOf fs).2.s fuel with | .error c => .error c | .ok ps => (match rlistG g ps with | .error c => .error c | .ok l => .ok (.mk 5 ⟨#[]⟩ false 0 0 l [])))
    else if (toldOf fs).1 = 6 then (match partsR (toldOf fs).2.s fuel with | .error c => .error c | .ok ps => (match rpairsG g ps with | .error c => .error c | .ok l => .ok (.mk 6 ⟨#[]⟩ false 0 0 [] l)))
    else if (toldOf fs).1 = 7 then (if (toldOf fs).2.s.length ≤ 4096 then .ok (.mk 7 (BA (toldOf fs).2.s) false 0 0 [] []) else .error 4)
    else .ok (.mk 0 ⟨#[]⟩ false 0 0 [] [])
/-- what a message says, so many lists and maps being allowed -/
def rmsg : Nat → List UInt8 → Except Int V
  | 0, s => rbody 0 (fun _ => .error 11) s
  | n + 1, s => rbody (n + 1) (rmsg n) s
def ReadC (n : Nat) : Prop := ∀ (s : List UInt8) (w : World), Tabs w → s.length ≤ 9223372036854775807 → Calls Tryz.prog 23 #[.string ⟨s.toArray⟩, .int .i64 (8 - (n : Int))] w (RPost (rmsg n s) w)

/-- texts of fields are short -/
theorem parse1_s {l : List UInt8} {f : M.Fd} {r : List UInt8} (h : M.parse1 l = .ok (f, r)) : f.s.length ≤ l.length := by
  unfold M.parse1 at h
  cases hr : M.rd l with
  | none => rw [hr] at h; cases h
  | some x =>
    obtain ⟨k, a⟩ := x
    rw [hr] at h
    simp only at h
    repeat' split at h
    all_goals first
      | (cases h; done)
      | (injection h with h; injection h with h _; subst h; simp; done)
      | (injection h with h; injection h with h _; subst h; simp only [List.length_take, List.length_drop]; omega)
theorem parse_s : ∀ (n : Nat) (l : List UInt8), l.length ≤ n → ∀ fs, M.parse l = .ok fs → ∀ f ∈ fs, f.s.length ≤ l.length := by
  intro n
  induction n with
  | zero =>
    intro l hl fs h f hf
    have : l = [] := List.eq_nil_of_length_eq_zero (by omega)
    subst this
    rw [M.parse_nil] at h
    injection h with h; subst h; cases hf
  | succ n ih =>
    intro l hl fs h f hf
    by_cases h0 : l = []
    · subst h0; rw [M.parse_nil] at h; injection h with h; subst h; cases hf
    · cases h1 : M.parse1 l with
      | error e => rw [M.parse_err h0 h1] at h; cases h
      | ok x =>
        obtain ⟨g, r⟩ := x
        rw [M.parse_ok h0 h1] at h
        have hlen := M.parse1_len h1
        cases h2 : M.parse r with
        | error e => rw [h2] at h; cases h
        | ok gs =>
          rw [h2] at h
          injection h with h
          subst h
          rcases List.mem_cons.1 hf with rfl | hf
          · exact parse1_s h1
          · have := ih r (by omega) gs h2 f hf; omega
theorem read_s {s : List UInt8} {fs : List M.Fd} (h : M.read s = .ok fs) : ∀ f ∈ fs, f.s.length ≤ 65536 := by
  unfold M.read at h
  split at h
  · cases h
  · rename_i hl
    cases hp : M.parse s with
    | error e => rw [hp] at h; cases h
    | ok gs =>
      rw [hp] at h
      dsimp only at h
      split at h
      · cases h
      · injection h with h; subst h
        intro f hf
        have := parse_s _ s (Nat.le_refl _) gs hp f hf
        omega
theorem told_mem (fs : List M.Fd) : (toldOf fs).2 ∈ fs ∨ toldOf fs = (0, ⟨0, 0, 0, []⟩) := by
  refine rev_ind (P := fun fs => (toldOf fs).2 ∈ fs ∨ toldOf fs = (0, ⟨0, 0, 0, []⟩)) (.inr rfl) (fun fs f ih => ?_) fs
  rw [toldOf_snoc]
  split
  · rcases ih with h | h
    · exact .inl (by simp [h])
    · exact .inr h
  · exact .inl (by simp)
theorem told_kind (fs : List M.Fd) : (toldOf fs).1 = 0 ∧ (toldOf fs).2 = ⟨0, 0, 0, []⟩ ∨ (toldOf fs).1 = kindOf (toldOf fs).2 := by
  refine rev_ind (P := fun fs => (toldOf fs).1 = 0 ∧ (toldOf fs).2 = ⟨0, 0, 0, []⟩ ∨ (toldOf fs).1 = kindOf (toldOf fs).2) (.inl ⟨rfl, rfl⟩) (fun fs f ih => ?_) fs
  rw [toldOf_snoc]
  split
  · exact ih
  · exact .inr rfl
theorem kindOf_range (f : M.Fd) : 0 ≤ kindOf f ∧ kindOf f ≤ 7 := by
  unfold kindOf
  repeat' split
  all_goals omega
end Go.Proofs.YtnnnnlcpmocnfaaGreatDoor
