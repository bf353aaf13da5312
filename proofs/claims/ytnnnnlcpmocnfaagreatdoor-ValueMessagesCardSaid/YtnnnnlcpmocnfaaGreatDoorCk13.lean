/- THE LAW fail.Caught, WALKED. -/
import Derived.Test.YtnnnnlcpmocnfaaGreatDoorCk10
import Derived.Defers
import Derived.Recover
import Derived.Outline
import Derived.WalkLawsBesides
import Derived.Deep.RegionLaw
import Derived.Deep.RegionHeld3
namespace Go.Proofs.YtnnnnlcpmocnfaaGreatDoor
open Go.RowKit
set_option linter.unusedVariables false
set_option linter.unusedSimpArgs false
attribute [local go_sem] run_store_float


theorem vcatch_pan (p : Addr) (x y : Int) (older : List PanicEntry) (w : World) (hc : w.cell? p = some (.int .i64 y)) (hz : w.frozen? p = false) :
    CallsD Tryz.prog 41 #[.pointer (some p)] (.panicking ({ v := .iface 31 (.int .i64 x), recovered := false } :: older)) w fun e u' w' =>
      e = .returned (.tuple #[]) ∧ u' = .panicking ({ v := .iface 31 (.int .i64 x), recovered := true } :: older) ∧ w' = w.setCell p (.int .i64 x) := by
  refine callsD_of_wpS Tryz.func41 rfl fun c₀ cs hu => ?_
  apply wpS_seq
  apply wpS_region
  simp [wpOpsS, go_sem, recoverD, hu, Tryz.ntmps41, Exit.thenS]
  apply wpS_seq
  apply wpS_seq
  apply wpS_region
  simp [wpOpsS, go_sem, Exit.thenS, Array.replicate]
  refine wpS_cond (t := false) (by simp [Act.eval]) ?_
  simp only [Bool.false_eq_true, if_false]
  refine wpS_of_wp (wp_skip ?_)
  simp only [Exit.thenS]
  have hta : ∀ W, (Instr.typeAssert (.iface 31 (.int .i64 x)) 20 31 true).run Tryz.prog W = .ok (.tuple #[.int .i64 x, .bool true]) W := fun W => by kernel_rfl
  refine wpS_of_wp ?_
  go_wp2
  cases c₀
  simp_all [bodyPostS, results, Tryz.results41, Exit.thenS]

/-- Caught of a check -/
def CaughtE (w : World) (R : World → Prop) (c : Int) (en : Ending) (w' : World) : Prop := en = .returned (.int .i64 c) ∧ ∃ w1, R w1 ∧ w1.heap[w.heap.size]? = some (.cells #[.int .i64 0] 31 (0, 0)) ∧ w' = w1.setCell ⟨w.heap.size, 0, none⟩ (.int .i64 c)
set_option maxRecDepth 100000 in
set_option maxHeartbeats 4000000 in
theorem caught_no (w : World) (C : Nat) (cap : Array Value) (R : World → Prop) (c : Int) (hent : ∀ W, (callFunc C cap).run Tryz.prog W = .ok (.enter C cap) W)
    (hcl : Calls Tryz.prog C cap (w.alloc (.cells #[.int .i64 0] 31)) fun en w1 => en = .panicked [{ v := .iface 31 (.int .i64 c), recovered := false }] ∧ w1.heap[w.heap.size]? = some (.cells #[.int .i64 0] 31 (0, 0)) ∧ R w1) :
    Calls Tryz.prog 16 #[.func (Fn.func C) #[] cap] w (CaughtE w R c) := by
  have hmf : ∀ (fn : Fn) (first cap : Array Value) (w : World), (Instr.makeFunc fn first cap).run Tryz.prog w = .ok (.func fn first cap) w := fun _ _ _ _ => rfl
  have Hc := Lib.hid hcl
  clear hcl
  go_enter_defers Tryz.func16, Tryz.ntmps16
  go_wp2_with fail
  refine (Hc.out).mono ?_
  rintro e w1 ⟨rfl, hw1, hR⟩
  have HR := Lib.hid hR
  have Hw1 := Lib.hid hw1
  have kc := cell_of_one hw1
  have kf := free_of_one hw1
  have k2 := cell_of_one (one_setCell (u := .int .i64 c) hw1)
  clear hR hw1
  go_wp2
  refine leaves_cons (f := 41) (args := #[.pointer (some ⟨w.heap.size, 0, none⟩)]) (by simp) (by simp [go_sem]) ?_
  refine (vcatch_pan _ c 0 [] _ kc kf).mono ?_
  rintro e u' w'' ⟨rfl, rfl, rfl⟩
  simp [Leaves, settle, results, Tryz.results16, go_sem, k2]
  exact ⟨rfl, _, HR.out, Hw1.out, rfl⟩
end Go.Proofs.YtnnnnlcpmocnfaaGreatDoor

/- THE LAW value.Check, WALKED. -/
namespace Go.Proofs.YtnnnnlcpmocnfaaGreatDoor
open Go.RowKit
set_option linter.unusedVariables false
set_option linter.unusedSimpArgs false
attribute [local go_sem] run_store_float


/-- a check in a closure that is caught -/
theorem caught_chk (w : World) (C : Nat) (cap : Array Value) (c : Int) (hent : ∀ W, (callFunc C cap).run Tryz.prog W = .ok (.enter C cap) W)
    (hcl : Calls Tryz.prog C cap (w.alloc (.cells #[.int .i64 0] 31)) (Chk c (w.alloc (.cells #[.int .i64 0] 31)))) :
    Calls Tryz.prog 16 #[.func (Fn.func C) #[] cap] w fun e w' => e = .returned (.int .i64 c) ∧ Below w.heap.size w w' := by
  have hb : ∀ w1, Below (w.alloc (.cells #[.int .i64 0] 31)).heap.size (w.alloc (.cells #[.int .i64 0] 31)) w1 → w1.heap[w.heap.size]? = some (.cells #[.int .i64 0] 31 (0, 0)) ∧ Below w.heap.size w w1 := fun w1 h =>
    ⟨(h.block _ (by simp)).trans (blk_new w _), (al w _).trans (h.mono (by simp))⟩
  by_cases h0 : c = 0
  · subst h0
    refine (caught_ok w C cap (fun w1 => Below w.heap.size w w1) hent (hcl.mono fun en w1 h => ⟨h.ok.1, (hb w1 h.2).1, (hb w1 h.2).2⟩)).mono fun e w' h => ?_
    obtain ⟨he, w1, h1, _, rfl⟩ := h
    exact ⟨he, h1.setCell (Nat.le_refl _) _⟩
  · refine (caught_no w C cap (fun w1 => Below w.heap.size w w1) c hent (hcl.mono fun en w1 h => ⟨(h.no h0).1, (hb w1 h.2).1, (hb w1 h.2).2⟩)).mono fun e w' h => ?_
    obtain ⟨he, w1, h1, _, rfl⟩ := h
    exact ⟨he, h1.setCell (Nat.le_refl _) _⟩

end Go.Proofs.YtnnnnlcpmocnfaaGreatDoor

/- THE LAW value.CheckPairs, WALKED. -/
namespace Go.Proofs.YtnnnnlcpmocnfaaGreatDoor
open Go.RowKit
set_option linter.unusedVariables false
set_option linter.unusedSimpArgs false
attribute [local go_sem] run_store_float

end Go.Proofs.YtnnnnlcpmocnfaaGreatDoor
