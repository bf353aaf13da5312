/- RETRY: rules in memory; THE WALKS OVER isRules, Right, isTried, Verdict (twice). -/
import Derived.WalkKit
import Derived.Lib.Hide
import Derived.BigQuiet
import Derived.Deep.Cut
import Derived.Deep.QuietTactic
import Derived.StillTailTactics
import Derived.Test.YtclhclaeccoljaaProg
namespace Go.Proofs.Ytclhclaeccoljaa
open Go.RowKit
set_option linter.unusedVariables false
set_option linter.unusedSimpArgs false

theorem box3 {w : World} {g : Nat} {x0 x1 x2 : Value} {t : TypeId} (h : w.heap[g]? = some (.cells #[x0, x1, x2] t (0, 0))) :
    w.cell? ⟨g, 0, none⟩ = some x0 ∧ w.cell? ⟨g, 1, none⟩ = some x1 ∧ w.cell? ⟨g, 2, none⟩ = some x2 :=
  ⟨cell_of_row w g 0 _ t (0, 0) h, cell_of_row w g 1 _ t (0, 0) h, cell_of_row w g 2 _ t (0, 0) h⟩
theorem blk_new (w : World) (o : Obj) : (w.alloc o).heap[w.heap.size]? = some o := heap_alloc_new w o
theorem blk_alloc {w : World} {g : Nat} {o : Obj} (h : w.heap[g]? = some o) (o' : Obj) : (w.alloc o').heap[g]? = some o := (Below.heap_alloc w o' g (Array.getElem?_eq_some_iff.1 h).1).trans h
/-- numbers of 64 bits -/
def U64 (n : Int) : Prop := 0 ≤ n ∧ n ≤ 18446744073709551615
def I64 (n : Int) : Prop := -9223372036854775808 ≤ n ∧ n ≤ 9223372036854775807
abbrev rcells (f m t : Int) : Array Value := #[.int .u64 f, .int .u64 m, .int .u64 t]
abbrev tcells (k s x : Int) : Array Value := #[.int .i64 k, .int .u64 s, .int .u64 x]
/-- rules that are right -/
def RR (f m t : Int) : Prop := 1 ≤ f ∧ f ≤ m ∧ m ≤ 9007199254740992 ∧ t ≤ 9007199254740992
instance (f m t : Int) : Decidable (RR f m t) := by unfold RR; infer_instance
def TR (k : Int) : Prop := 0 ≤ k ∧ k ≤ 1073741824
instance (k : Int) : Decidable (TR k) := by unfold TR; infer_instance

theorem rules_any (w : World) (f m t : Int) : Calls Try.prog 14 #[.agg (rcells f m t)] w fun e w' => e = .returned (.bool (decide (RR f m t))) ∧ Below w.heap.size w w' := by
  obtain ⟨X, hX⟩ : ∃ X, X = w.alloc (.cells (rcells f m t) 24) := ⟨_, rfl⟩
  have hx : X.heap[w.heap.size]? = some (.cells (rcells f m t) 24 (0, 0)) := by rw [hX]; exact blk_new w _
  have hb : Below w.heap.size w X := by rw [hX]; exact (Below.refl _ w).alloc (Nat.le_refl _) _
  obtain ⟨b, hbe⟩ : ∃ b, b = decide (RR f m t) := ⟨_, rfl⟩
  rw [← hbe]
  go_enter Try.func14, Try.ntmps14
  go_upto_region 1 with (fail)
  rw [← hX]
  clear hX
  obtain ⟨c0, c1, c2⟩ := box3 hx
  have hl := (Array.getElem?_eq_some_iff.1 hx).1
  clear hx
  by_cases h1 : 1 ≤ f
  · by_cases h2 : f ≤ m
    · by_cases h3 : m ≤ 9007199254740992
      · by_cases h4 : t ≤ 9007199254740992
        · have hv : b = true := by rw [hbe]; simp [RR, h1, h2, h3, h4]
          subst hv; clear hbe
          go_wp2
          go_ret
          exact ⟨rfl, hb⟩
        · have hv : b = false := by rw [hbe]; simp [RR, h1, h2, h3, h4]
          subst hv; clear hbe
          go_wp2
          go_ret
          exact ⟨rfl, hb⟩
      · have hv : b = false := by rw [hbe]; simp [RR, h1, h2, h3]
        subst hv; clear hbe
        go_wp2
        go_ret
        exact ⟨rfl, hb⟩
    · have hv : b = false := by rw [hbe]; simp [RR, h1, h2]
      subst hv; clear hbe
      go_wp2
      go_ret
      exact ⟨rfl, hb⟩
  · have hv : b = false := by rw [hbe]; simp [RR, h1]
    subst hv; clear hbe
    go_wp2
    go_ret
    exact ⟨rfl, hb⟩
end Go.Proofs.Ytclhclaeccoljaa
