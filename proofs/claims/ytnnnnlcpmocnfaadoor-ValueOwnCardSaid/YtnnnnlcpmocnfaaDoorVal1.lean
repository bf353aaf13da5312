/- THE WALKS OVER value's checks AT A NUMBER. -/
import Derived.Test.YtnnnnlcpmocnfaaDoorWr
import Derived.Handy
import Derived.Carry
import Derived.Laws.Externs
namespace Go.Proofs.YtnnnnlcpmocnfaaDoor
open Go.RowKit
set_option linter.unusedVariables false
set_option linter.unusedSimpArgs false

theorem Tryd.bits58 (b : Nat) (w : World) : (callFunc 58 #[.float .f64 b]).run Tryd.prog w = .ok (.value (.int .u64 (b : Int))) w :=
  run_callFunc_extern (e := Extern.MathFloatBits.float64bits) Tryd.func58 (by kernel_rfl) (by kernel_rfl) (by kernel_rfl) (by kernel_rfl) #[.float .f64 b] w
theorem Tryd.from38 (n : Int) (w : World) : (callFunc 38 #[.int .u64 n]).run Tryd.prog w = .ok (.value (.float .f64 n.toNat)) w :=
  run_callFunc_extern (e := Extern.MathFloatBits.float64frombits) Tryd.func38 (by kernel_rfl) (by kernel_rfl) (by kernel_rfl) (by kernel_rfl) #[.int .u64 n] w

/-- a number's cells: kind k, the int n, the float of the bits f -/
abbrev nv (k n : Int) (f : Nat) : Array Value := #[.int .u8 k, .string ⟨#[]⟩, .bool false, .int .i64 n, .float .f64 f, .slice none 0 0, .slice none 0 0]

theorem unless_yes (e : Int) (w : World) : Calls Tryd.prog 84 #[.bool true, .int .i64 e] w fun en w' => en = .returned (.tuple #[]) ∧ w = w' := by
  go_enter Tryd.func84, Tryd.ntmps84
  go_wp2
  go_returns
  exact ⟨rfl, rfl⟩

theorem long_nil (w : World) : Calls Tryd.prog 86 #[.string ⟨#[]⟩] w fun en w' => en = .returned (.tuple #[]) ∧ w = w' := by
  go_enter Tryd.func86, Tryd.ntmps86
  go_wp2
  go_returns
  exact ⟨rfl, rfl⟩
theorem many_nil (w : World) : Calls Tryd.prog 88 #[.int .i64 0] w fun en w' => en = .returned (.tuple #[]) ∧ w = w' := by
  go_enter Tryd.func88, Tryd.ntmps88
  go_wp2
  go_returns
  exact ⟨rfl, rfl⟩
set_option maxRecDepth 100000 in
theorem bare_int (n : Int) (w : World) : Calls Tryd.prog 85 #[.agg (nv 3 n 0)] w fun en w' => en = .returned (.bool true) ∧ w.alloc (.cells (nv 3 n 0) 27) = w' := by
  have h58 := Tryd.bits58
  go_enter Tryd.func85, Tryd.ntmps85
  go_wp2
  go_returns
  exact ⟨rfl, rfl⟩
set_option maxRecDepth 100000 in
theorem bare_float (f : Nat) (w : World) : Calls Tryd.prog 85 #[.agg (nv 4 0 f)] w fun en w' => en = .returned (.bool true) ∧ w.alloc (.cells (nv 4 0 f) 27) = w' := by
  have h58 := Tryd.bits58
  go_enter Tryd.func85, Tryd.ntmps85
  go_wp2
  go_returns
  exact ⟨rfl, rfl⟩
theorem once_nil (w : World) : Calls Tryd.prog 92 #[.slice none 0 0] w fun en w' => en = .returned (.tuple #[]) ∧ Below w.heap.size w w' := by
  have hmm := @run_makeMap Tryd.prog
  go_enter Tryd.func92, Tryd.ntmps92
  go_wp2
  go_rounds 1
  go_returns
  exact ⟨rfl, (Below.refl _ _).alloc (Nat.le_refl _) _⟩
theorem pairs_nil (d : Int) (w : World) : Calls Tryd.prog 56 #[.slice none 0 0, .int .i64 d] w fun en w' => en = .returned (.tuple #[]) ∧ Below w.heap.size w w' := by
  go_enter Tryd.func56, Tryd.ntmps56
  go_wp2_with (go_at_call 88; refine (many_nil _).mono ?_; rintro e w' ⟨rfl, rfl⟩)
  refine wp_loop_rounds 1 ?_
  rw [rounds_succ]
  go_wp2_with (go_at_call 92; refine (once_nil _).mono ?_; rintro e w' ⟨rfl, hb⟩)
  go_returns
  exact ⟨rfl, hb⟩
set_option maxHeartbeats 1000000 in
set_option maxRecDepth 100000 in
theorem check_num (k n : Int) (f : Nat) (d : Int) (w : World) (hk : k = 3 ∨ k = 4) (hd : 0 ≤ d ∧ d ≤ 100) (hbare : ∀ w, Calls Tryd.prog 85 #[.agg (nv k n f)] w fun en w' => en = .returned (.bool true) ∧ w.alloc (.cells (nv k n f) 27) = w') :
    Calls Tryd.prog 53 #[.agg (nv k n f), .int .i64 d] w fun en w' => en = .returned (.tuple #[]) ∧ Below w.heap.size w w' := by
  have Hb := Lib.hid hbare
  clear hbare
  obtain ⟨hd0, hd1⟩ := hd
  rcases hk with rfl | rfl
  all_goals
    go_enter Tryd.func53, Tryd.ntmps53
    go_wp2_with (first | (go_at_call 85; refine (Hb.out _).mono ?_; rintro e w' ⟨rfl, rfl⟩) | (go_at_call 84; refine (unless_yes _ _).mono ?_; rintro e w' ⟨rfl, rfl⟩) | (go_at_call 86; refine (long_nil _).mono ?_; rintro e w' ⟨rfl, rfl⟩) | (go_at_call 88; refine (many_nil _).mono ?_; rintro e w' ⟨rfl, rfl⟩))
    refine wp_loop_rounds 1 ?_
    rw [rounds_succ]
    go_wp2_with (go_at_call 56; refine (pairs_nil _ _).mono ?_; rintro e w1 ⟨rfl, hb⟩)
    go_returns
    exact ⟨rfl, (((Below.refl _ w).alloc (Nat.le_refl _) _).alloc (by simp) _).trans (hb.mono (by simp; omega))⟩
end Go.Proofs.YtnnnnlcpmocnfaaDoor
