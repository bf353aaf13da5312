/- THE LAW fail.Caught, WALKED. -/
import Derived.Test.YtnnnnlcpmocnfaaDoorCk10
import Derived.Defers
import Derived.Recover
import Derived.Outline
import Derived.WalkLawsBesides
import Derived.Deep.RegionLaw
import Derived.Deep.RegionHeld3
namespace Go.Proofs.YtnnnnlcpmocnfaaDoor
open Go.RowKit
set_option linter.unusedVariables false
set_option linter.unusedSimpArgs false
attribute [local go_sem] run_store_float


theorem vcatch_pan (p : Addr) (x y : Int) (older : List PanicEntry) (w : World) (hc : w.cell? p = some (.int .i64 y)) (hz : w.frozen? p = false) :
    CallsD Tryd.prog 83 #[.pointer (some p)] (.panicking ({ v := .iface 31 (.int .i64 x), recovered := false } :: older)) w fun e u' w' =>
      e = .returned (.tuple #[]) ∧ u' = .panicking ({ v := .iface 31 (.int .i64 x), recovered := true } :: older) ∧ w' = w.setCell p (.int .i64 x) := by
  refine callsD_of_wpS Tryd.func83 rfl fun c₀ cs hu => ?_
  apply wpS_seq
  apply wpS_region
  simp [wpOpsS, go_sem, recoverD, hu, Tryd.ntmps83, Exit.thenS]
  apply wpS_seq
  apply wpS_seq
  apply wpS_region
  simp [wpOpsS, go_sem, Exit.thenS, Array.replicate]
  refine wpS_cond (t := false) (by simp [Act.eval]) ?_
  simp only [Bool.false_eq_true, if_false]
  refine wpS_of_wp (wp_skip ?_)
  simp only [Exit.thenS]
  have hta : ∀ W, (Instr.typeAssert (.iface 31 (.int .i64 x)) 20 31 true).run Tryd.prog W = .ok (.tuple #[.int .i64 x, .bool true]) W := fun W => by kernel_rfl
  refine wpS_of_wp ?_
  go_wp2
  cases c₀
  simp_all [bodyPostS, results, Tryd.results83, Exit.thenS]

/-- Caught of a check -/
def CaughtE (w : World) (R : World → Prop) (c : Int) (en : Ending) (w' : World) : Prop := en = .returned (.int .i64 c) ∧ ∃ w1, R w1 ∧ w1.heap[w.heap.size]? = some (.cells #[.int .i64 0] 31 (0, 0)) ∧ w' = w1.setCell ⟨w.heap.size, 0, none⟩ (.int .i64 c)
set_option maxRecDepth 100000 in
set_option maxHeartbeats 4000000 in
theorem caught_no (w : World) (C : Nat) (cap : Array Value) (R : World → Prop) (c : Int) (hent : ∀ W, (callFunc C cap).run Tryd.prog W = .ok (.enter C cap) W)
    (hcl : Calls Tryd.prog C cap (w.alloc (.cells #[.int .i64 0] 31)) fun en w1 => en = .panicked [{ v := .iface 31 (.int .i64 c), recovered := false }] ∧ w1.heap[w.heap.size]? = some (.cells #[.int .i64 0] 31 (0, 0)) ∧ R w1) :
    Calls Tryd.prog 51 #[.func (Fn.func C) #[] cap] w (CaughtE w R c) := by
  have hmf : ∀ (fn : Fn) (first cap : Array Value) (w : World), (Instr.makeFunc fn first cap).run Tryd.prog w = .ok (.func fn first cap) w := fun _ _ _ _ => rfl
  have Hc := Lib.hid hcl
  clear hcl
  go_enter_defers Tryd.func51, Tryd.ntmps51
  go_wp2_with fail
  refine (Hc.out).mono ?_
  rintro e w1 ⟨rfl, hw1, hR⟩
  have HR := Lib.hid hR
  have Hw1 := Lib.hid hw1
  have kc := cell_of_one hw1
  have kf := free_of_one hw1
  have k2 := cell_of_one (one_setCell (u := .int .i64 c) hw1)
  clear hR hw1
  go_wp2
  refine leaves_cons (f := 83) (args := #[.pointer (some ⟨w.heap.size, 0, none⟩)]) (by simp) (by simp [go_sem]) ?_
  refine (vcatch_pan _ c 0 [] _ kc kf).mono ?_
  rintro e u' w'' ⟨rfl, rfl, rfl⟩
  simp [Leaves, settle, results, Tryd.results51, go_sem, k2]
  exact ⟨rfl, _, HR.out, Hw1.out, rfl⟩
end Go.Proofs.YtnnnnlcpmocnfaaDoor

/- THE LAW value.Check, WALKED. -/
namespace Go.Proofs.YtnnnnlcpmocnfaaDoor
open Go.RowKit
set_option linter.unusedVariables false
set_option linter.unusedSimpArgs false
attribute [local go_sem] run_store_float


/-- a check in a closure that is caught -/
theorem caught_chk (w : World) (C : Nat) (cap : Array Value) (c : Int) (hent : ∀ W, (callFunc C cap).run Tryd.prog W = .ok (.enter C cap) W)
    (hcl : Calls Tryd.prog C cap (w.alloc (.cells #[.int .i64 0] 31)) (Chk c (w.alloc (.cells #[.int .i64 0] 31)))) :
    Calls Tryd.prog 51 #[.func (Fn.func C) #[] cap] w fun e w' => e = .returned (.int .i64 c) ∧ Below w.heap.size w w' := by
  have hb : ∀ w1, Below (w.alloc (.cells #[.int .i64 0] 31)).heap.size (w.alloc (.cells #[.int .i64 0] 31)) w1 → w1.heap[w.heap.size]? = some (.cells #[.int .i64 0] 31 (0, 0)) ∧ Below w.heap.size w w1 := fun w1 h =>
    ⟨(h.block _ (by simp)).trans (blk_new w _), (al w _).trans (h.mono (by simp))⟩
  by_cases h0 : c = 0
  · subst h0
    refine (caught_ok w C cap (fun w1 => Below w.heap.size w w1) hent (hcl.mono fun en w1 h => ⟨h.ok.1, (hb w1 h.2).1, (hb w1 h.2).2⟩)).mono fun e w' h => ?_
    obtain ⟨he, w1, h1, _, rfl⟩ := h
    exact ⟨he, h1.setCell (Nat.le_refl _) _⟩
  · refine (caught_no w C cap (fun w1 => Below w.heap.size w w1) c hent (hcl.mono fun en w1 h => ⟨(h.no h0).1, (hb w1 h.2).1, (hb w1 h.2).2⟩)).mono fun e w' h => ?_
    obtain ⟨he, w1, h1, _, rfl⟩ := h
    exact ⟨he, h1.setCell (Nat.le_refl _) _⟩

set_option maxRecDepth 100000 in
set_option maxHeartbeats 4000000 in
theorem check_clo (x : V) (w : World) (g : Nat) (q1 q2 : Value) (hT : Tabs w) (hx : Rep Any w q1 q2 x) (hb : Box w g x q1 q2) : Calls Tryd.prog 52 #[.pointer (some ⟨g, 0, none⟩)] w (Chk (chk x 0) w) := by
  have Hc := Lib.hid (cval_any x w q1 q2 0 hT hx (by decide) (by decide))
  obtain ⟨k0, k1, k2, k3, k4, k5, k6⟩ := hb.at
  clear hT hx hb
  obtain ⟨c, hc⟩ : ∃ c, c = chk x 0 := ⟨_, rfl⟩
  rw [← hc] at Hc ⊢
  clear hc
  cases hz : decide (c = 0)
  · have Hne := Lib.hid (of_decide_eq_false hz)
    clear hz
    go_enter Tryd.func52, Tryd.ntmps52
    go_wp2_with fail
    refine (Hc.out).mono ?_
    intro e w1 hc
    obtain ⟨rfl, hb1⟩ := hc.no Hne.out
    exact ⟨rfl, by exact ⟨Ends.mkn Hne.out, hb1⟩⟩
  · have he := of_decide_eq_true hz
    subst he
    clear hz
    go_enter Tryd.func52, Tryd.ntmps52
    go_wp2_with fail
    refine (Hc.out).mono ?_
    intro e w1 hc
    obtain ⟨rfl, hb1⟩ := hc.ok
    go_wp2
    go_returns
    exact ⟨Ends.mk0, hb1⟩
set_option maxRecDepth 100000 in
set_option maxHeartbeats 4000000 in
theorem check_any (x : V) (w : World) (q1 q2 : Value) (hT : Tabs w) (hx : Rep Any w q1 q2 x) : Calls Tryd.prog 16 #[.agg (cv x q1 q2)] w fun e w' => e = .returned (.int .i64 (chk x 0)) ∧ Below w.heap.size w w' := by
  have hmf : ∀ (fn : Fn) (first cap : Array Value) (w : World), (Instr.makeFunc fn first cap).run Tryd.prog w = .ok (.func fn first cap) w := fun _ _ _ _ => rfl
  obtain ⟨W0, hW0⟩ : ∃ W0, W0 = w.alloc (.cells (cv x q1 q2) 27) := ⟨_, rfl⟩
  have hb0 : Below w.heap.size w W0 := by rw [hW0]; exact al w _
  have hbox : Box W0 w.heap.size x q1 q2 := by rw [hW0]; exact Box.new w x q1 q2
  have hca := caught_chk W0 52 #[.pointer (some ⟨w.heap.size, 0, none⟩)] (chk x 0) (fun W => by kernel_rfl) (check_clo x _ w.heap.size q1 q2 ((hT.under hb0).under (al _ _)) ((hx.under hb0).under (al _ _)) (hbox.under (al _ _)))
  have Hca := Lib.hid hca
  have HW0 := Lib.hid hW0
  have Hb0 := Lib.hid hb0
  clear hW0 hb0 hbox hca hT hx
  obtain ⟨c, hc⟩ : ∃ c, c = chk x 0 := ⟨_, rfl⟩
  rw [← hc] at Hca ⊢
  clear hc
  go_enter Tryd.func16, Tryd.ntmps16
  go_wp2_with fail
  rw [← HW0.out]
  refine (Hca.out).mono ?_
  rintro e w1 ⟨rfl, hb1⟩
  go_wp2
  go_ret
  exact ⟨rfl, Hb0.out.trans (hb1.mono Hb0.out.size)⟩
end Go.Proofs.YtnnnnlcpmocnfaaDoor

/- THE LAW value.CheckPairs, WALKED. -/
namespace Go.Proofs.YtnnnnlcpmocnfaaDoor
open Go.RowKit
set_option linter.unusedVariables false
set_option linter.unusedSimpArgs false
attribute [local go_sem] run_store_float

set_option maxRecDepth 100000 in
set_option maxHeartbeats 4000000 in
theorem checkp_clo (x : List (ByteArray × V)) (w : World) (g : Nat) (q : Value) (hl : x.length * 112 ≤ 140737488353000) (hT : Tabs w) (hx : RepP Any w q x) (hb : w.heap[g]? = some (.cells #[q] 25 (0, 0))) : Calls Tryd.prog 55 #[.pointer (some ⟨g, 0, none⟩)] w (Chk (pairsErr x 0) w) := by
  have Hc := Lib.hid (cpairs_any x w q 0 hT hx hl (by decide) (by decide) (fun _ => by decide))
  have k0 := cell_of_one hb
  obtain ⟨ad, cap, rfl, _⟩ := hx.form
  clear hT hx hb hl
  obtain ⟨c, hc⟩ : ∃ c, c = pairsErr x 0 := ⟨_, rfl⟩
  rw [← hc] at Hc ⊢
  clear hc
  cases hz : decide (c = 0)
  · have Hne := Lib.hid (of_decide_eq_false hz)
    clear hz
    go_enter Tryd.func55, Tryd.ntmps55
    go_wp2_with fail
    refine (Hc.out).mono ?_
    intro e w1 hc
    obtain ⟨rfl, hb1⟩ := hc.no Hne.out
    exact ⟨rfl, by exact ⟨Ends.mkn Hne.out, hb1⟩⟩
  · have he := of_decide_eq_true hz
    subst he
    clear hz
    go_enter Tryd.func55, Tryd.ntmps55
    go_wp2_with fail
    refine (Hc.out).mono ?_
    intro e w1 hc
    obtain ⟨rfl, hb1⟩ := hc.ok
    go_wp2
    go_returns
    exact ⟨Ends.mk0, hb1⟩
set_option maxRecDepth 100000 in
set_option maxHeartbeats 4000000 in
theorem checkp_any (x : List (ByteArray × V)) (w : World) (q : Value) (hl : x.length * 112 ≤ 140737488353000) (hT : Tabs w) (hx : RepP Any w q x) : Calls Tryd.prog 18 #[q] w fun e w' => e = .returned (.int .i64 (pairsErr x 0)) ∧ Below w.heap.size w w' := by
  obtain ⟨ad, cap, rfl, _⟩ := hx.form
  have hmf : ∀ (fn : Fn) (first cap : Array Value) (w : World), (Instr.makeFunc fn first cap).run Tryd.prog w = .ok (.func fn first cap) w := fun _ _ _ _ => rfl
  obtain ⟨W0, hW0⟩ : ∃ W0, W0 = w.alloc (.cells #[.slice ad x.length cap] 25) := ⟨_, rfl⟩
  have hb0 : Below w.heap.size w W0 := by rw [hW0]; exact al w _
  have hbox : W0.heap[w.heap.size]? = some (.cells #[.slice ad x.length cap] 25 (0, 0)) := by rw [hW0]; exact blk_new w _
  have hca := caught_chk W0 55 #[.pointer (some ⟨w.heap.size, 0, none⟩)] (pairsErr x 0) (fun W => by kernel_rfl) (checkp_clo x _ w.heap.size _ hl ((hT.under hb0).under (al _ _)) ((hx.under hb0).under (al _ _)) (blk_alloc hbox _))
  have Hca := Lib.hid hca
  have HW0 := Lib.hid hW0
  have Hb0 := Lib.hid hb0
  clear hW0 hb0 hbox hca hT hx
  generalize x.length = n at *
  obtain ⟨c, hc⟩ : ∃ c, c = pairsErr x 0 := ⟨_, rfl⟩
  rw [← hc] at Hca ⊢
  clear hc
  go_enter Tryd.func18, Tryd.ntmps18
  go_wp2_with fail
  rw [← HW0.out]
  refine (Hca.out).mono ?_
  rintro e w1 ⟨rfl, hb1⟩
  go_wp2
  go_ret
  exact ⟨rfl, Hb0.out.trans (hb1.mono Hb0.out.size)⟩
end Go.Proofs.YtnnnnlcpmocnfaaDoor
