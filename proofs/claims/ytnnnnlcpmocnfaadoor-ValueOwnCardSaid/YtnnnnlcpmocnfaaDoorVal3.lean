/- THE WALKS OVER fail.Caught AND value.Write AT A NUMBER. -/
import Derived.Test.YtnnnnlcpmocnfaaDoorVal2
import Derived.Defers
import Derived.Recover
namespace Go.Proofs.YtnnnnlcpmocnfaaDoor
open Go.RowKit
set_option linter.unusedVariables false
set_option linter.unusedSimpArgs false

theorem catch_idle (p : Addr) (w : World) :
    CallsD Tryd.prog 83 #[.pointer (some p)] .returning w fun e u' w' => e = .returned (.tuple #[]) ∧ u' = .returning ∧ w' = w := by
  refine callsD_of_wpS Tryd.func83 rfl fun c₀ cs hu => ?_
  apply wpS_seq
  apply wpS_region
  simp [wpOpsS, go_sem, recoverD, hu, Tryd.ntmps83, Exit.thenS]
  apply wpS_seq
  apply wpS_seq
  apply wpS_region
  simp [wpOpsS, go_sem, Exit.thenS, Array.replicate]
  refine wpS_cond (t := true) (by simp [Act.eval]) ?_
  simp only [if_true]
  refine wpS_of_wp (wp_ret ?_)
  cases c₀
  simp_all [bodyPostS, results, Tryd.results83, Exit.thenS]

/-- Caught of a closure that returns -/
def CaughtOk (w : World) (R : World → Prop) (en : Ending) (w' : World) : Prop := en = .returned (.int .i64 0) ∧ ∃ w1, R w1 ∧ w1.heap[w.heap.size]? = some (.cells #[.int .i64 0] 31 (0, 0)) ∧ w' = w1.setCell ⟨w.heap.size, 0, none⟩ (.int .i64 0)
set_option maxRecDepth 100000 in
set_option maxHeartbeats 4000000 in
theorem caught_ok (w : World) (C : Nat) (cap : Array Value) (R : World → Prop) (hent : ∀ W, (callFunc C cap).run Tryd.prog W = .ok (.enter C cap) W)
    (hcl : Calls Tryd.prog C cap (w.alloc (.cells #[.int .i64 0] 31)) fun en w1 => en = .returned (.tuple #[]) ∧ w1.heap[w.heap.size]? = some (.cells #[.int .i64 0] 31 (0, 0)) ∧ R w1) :
    Calls Tryd.prog 51 #[.func (Fn.func C) #[] cap] w (CaughtOk w R) := by
  have hmf : ∀ (fn : Fn) (first cap : Array Value) (w : World), (Instr.makeFunc fn first cap).run Tryd.prog w = .ok (.func fn first cap) w := fun _ _ _ _ => rfl
  have Hc := Lib.hid hcl
  clear hcl
  go_enter_defers Tryd.func51, Tryd.ntmps51
  go_wp2_with fail
  refine (Hc.out).mono ?_
  rintro e w1 ⟨rfl, hw1, hR⟩
  have HR := Lib.hid hR
  have Hw1 := Lib.hid hw1
  have kc := cell_of_one hw1
  have kf := free_of_one hw1
  have k2 := cell_of_one (one_setCell (u := .int .i64 0) hw1)
  clear hR hw1
  go_wp2
  refine leaves_cons (f := 83) (args := #[.pointer (some ⟨w.heap.size, 0, none⟩)]) (by simp) (by simp [go_sem]) ?_
  refine (catch_idle _ _).mono ?_
  rintro e u' w'' ⟨rfl, rfl, rfl⟩
  simp [Leaves, settle, results, Tryd.results51, go_sem, k2]
  exact ⟨rfl, _, HR.out, Hw1.out, rfl⟩

/-- what Write's closure leaves -/
def WrLeft (w : World) (h : Nat) (xs : List UInt8) (w1 : World) : Prop := w1.heap[h]? = some (.cells #[.string ⟨xs.toArray⟩] 9 (0, 0)) ∧ Below h w w1

set_option maxHeartbeats 4000000 in
theorem write_clo (w : World) (g h : Nat) (k n : Int) (f : Nat) (xs : List UInt8) (hgh : g < h) (hg : w.heap[g]? = some (.cells (nv k n f) 27 (0, 0))) (hh : w.heap[h]? = some (.cells #[.string ⟨#[]⟩] 9 (0, 0)))
    (hchk : ∀ w, Calls Tryd.prog 53 #[.agg (nv k n f), .int .i64 0] w fun en w' => en = .returned (.tuple #[]) ∧ Below w.heap.size w w')
    (hwr : ∀ w, Calls Tryd.prog 64 #[.agg (nv k n f)] w fun en w' => en = .returned (.string ⟨xs.toArray⟩) ∧ Below w.heap.size w w') :
    Calls Tryd.prog 63 #[.pointer (some ⟨g, 0, none⟩), .pointer (some ⟨h, 0, none⟩)] w fun en w' => en = .returned (.tuple #[]) ∧ ∃ w2, Below w.heap.size w w2 ∧ w' = w2.setCell ⟨h, 0, none⟩ (.string ⟨xs.toArray⟩) := by
  have Hc := Lib.hid hchk
  have Hw := Lib.hid hwr
  have hlg : g < w.heap.size := (Array.getElem?_eq_some_iff.1 hg).1
  have hlh : h < w.heap.size := (Array.getElem?_eq_some_iff.1 hh).1
  have q := fun j => cell_of_row w g j (nv k n f) 27 (0, 0) hg
  have q0 := q 0
  have q1 := q 1
  have q2 := q 2
  have q3 := q 3
  have q4 := q 4
  have q5 := q 5
  have q6 := q 6
  simp at q0 q1 q2 q3 q4 q5 q6
  have Hg := Lib.hid hg
  have Hh := Lib.hid hh
  clear hchk hwr q hg hh
  go_enter Tryd.func63, Tryd.ntmps63
  go_wp2_with fail
  refine (Hc.out _).mono ?_
  rintro e w1 ⟨rfl, hb1⟩
  have hg1 := (hb1.block g hlg).trans Hg.out
  have hh1 := (hb1.block h hlh).trans Hh.out
  have Hb1 := Lib.hid hb1
  clear hb1 q0 q1 q2 q3 q4 q5 q6
  have q := fun j => cell_of_row w1 g j (nv k n f) 27 (0, 0) hg1
  have q0 := q 0
  have q1 := q 1
  have q2 := q 2
  have q3 := q 3
  have q4 := q 4
  have q5 := q 5
  have q6 := q 6
  simp at q0 q1 q2 q3 q4 q5 q6
  have Hh1 := Lib.hid hh1
  clear q hg1 hh1
  go_wp2_with fail
  refine (Hw.out _).mono ?_
  rintro e w2 ⟨rfl, hb2⟩
  have hh2 := (hb2.block h (Nat.lt_of_lt_of_le hlh Hb1.out.size)).trans Hh1.out
  have kc := cell_of_one hh2
  have kf := free_of_one hh2
  have Hb2 := Lib.hid (Hb1.out.trans (hb2.mono Hb1.out.size))
  clear hb2 hh2 q0 q1 q2 q3 q4 q5 q6
  go_wp2
  go_returns
  exact ⟨rfl, _, Hb2.out, rfl⟩

/-- Write of a number -/
def WroteNum (w : World) (xs : List UInt8) (en : Ending) (w' : World) : Prop := en = .returned (.tuple #[.string ⟨xs.toArray⟩, .int .i64 0]) ∧ Below w.heap.size w w'
set_option maxRecDepth 100000 in
set_option maxHeartbeats 4000000 in
theorem write_num (w : World) (k n : Int) (f : Nat) (xs : List UInt8)
    (hchk : ∀ w, Calls Tryd.prog 53 #[.agg (nv k n f), .int .i64 0] w fun en w' => en = .returned (.tuple #[]) ∧ Below w.heap.size w w')
    (hwr : ∀ w, Calls Tryd.prog 64 #[.agg (nv k n f)] w fun en w' => en = .returned (.string ⟨xs.toArray⟩) ∧ Below w.heap.size w w') :
    Calls Tryd.prog 33 #[.agg (nv k n f)] w (WroteNum w xs) := by
  have hmf : ∀ (fn : Fn) (first cap : Array Value) (w : World), (Instr.makeFunc fn first cap).run Tryd.prog w = .ok (.func fn first cap) w := fun _ _ _ _ => rfl
  obtain ⟨W, hW⟩ : ∃ W, W = (w.alloc (.cells (nv k n f) 27)).alloc (.cells #[.string ⟨#[]⟩] 9) := ⟨_, rfl⟩
  have hg : (W.alloc (.cells #[.int .i64 0] 31)).heap[w.heap.size]? = some (.cells (nv k n f) 27 (0, 0)) := by rw [hW]; exact blk_alloc (blk_alloc (blk_new w _) _) _
  have hh : (W.alloc (.cells #[.int .i64 0] 31)).heap[w.heap.size + 1]? = some (.cells #[.string ⟨#[]⟩] 9 (0, 0)) := by rw [hW]; exact blk_alloc (blk_at (by simp)) _
  have hcl := write_clo (W.alloc (.cells #[.int .i64 0] 31)) w.heap.size (w.heap.size + 1) k n f xs (by omega) hg hh hchk hwr
  have hca := caught_ok W 63 #[.pointer (some ⟨w.heap.size, 0, none⟩), .pointer (some ⟨w.heap.size + 1, 0, none⟩)]
    (fun w1 => w1.heap[w.heap.size + 1]? = some (.cells #[.string ⟨xs.toArray⟩] 9 (0, 0)) ∧ Below w.heap.size w w1) (fun W => by kernel_rfl) (hcl.mono fun en w' h => by
      obtain ⟨he, w2, hb, rfl⟩ := h
      have hsz : W.heap.size = w.heap.size + 2 := by rw [hW]; simp
      refine ⟨he, ?_, ?_, ?_⟩
      · rw [Below.heap_setCell _ _ _ _ (by simp; omega), hb.block _ (by simp)]; exact blk_new W _
      · exact one_setCell ((hb.block _ (by simp; omega)).trans hh)
      · refine Below.setCell ?_ (by simp) _
        refine Below.trans ?_ (hb.mono (by simp; omega))
        rw [hW]
        go_grown)
  rw [hW] at hca
  have Hca := Lib.hid hca
  clear hca hcl hg hh hchk hwr
  go_enter Tryd.func33, Tryd.ntmps33
  go_wp2_with fail
  refine (Hca.out).mono ?_
  rintro e w' ⟨rfl, w1, ⟨hx, hb⟩, hy, rfl⟩
  have hc : (w1.setCell ⟨w.heap.size + 2, 0, none⟩ (.int .i64 0)).cell? ⟨w.heap.size + 1, 0, none⟩ = some (.string ⟨xs.toArray⟩) := by
    refine cell_of_one (t := 9) ?_
    rw [Below.heap_setCell _ _ _ _ (by simp)]; exact hx
  have Hb := Lib.hid (hb.setCell (p := ⟨w.heap.size + 2, 0, none⟩) (by simp <;> omega) (.int .i64 0))
  clear hb hx hy
  go_wp2
  go_ret2
  exact ⟨rfl, Hb.out⟩
end Go.Proofs.YtnnnnlcpmocnfaaDoor
