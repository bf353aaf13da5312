/- THE WALKS OVER value.Compare AT FLOATS, AND AT THE NUMBERS OF lives; lives. -/
import Derived.Test.YtnnnnlcpmocnfaaDoorVal4
import Derived.Laws.Tables
import Derived.Deep.WholeRow
namespace Go.Proofs.YtnnnnlcpmocnfaaDoor
open Go.RowKit
set_option linter.unusedVariables false
set_option linter.unusedSimpArgs false

theorem run_store_float {P : Program} (w : World) (a : Addr) (k : FloatKind) (b : Nat) (m : Mode) : (store a (.float k b) m).run P w = stored P w a (.float k b) m := run_store P w a _ m rfl
attribute [local go_sem] run_store_float

def ordI : Ordering → Int | .lt => -1 | .eq => 0 | .gt => 1
theorem cmpF_any (a b : Nat) (o : Ordering) (w : World) (ha : FloatKind.f64.format.order a a = some .eq) (hb : FloatKind.f64.format.order b b = some .eq) (ho : FloatKind.f64.format.order a b = some o) :
    Calls Tryd.prog 44 #[.float .f64 a, .float .f64 b] w fun e w' => e = .returned (.int .i64 (ordI o)) ∧ w = w' := by
  cases o
  all_goals
    go_enter Tryd.func44, Tryd.ntmps44
    go_wp2
    go_ret
    exact ⟨rfl, rfl⟩
theorem isNaN_any (a : Nat) (w : World) (b : Bool) (h : (FloatKind.f64.format.order a a != some .eq) = b) : Calls Tryd.prog 79 #[.float .f64 a] w fun e w' => e = .returned (.bool b) ∧ w = w' := by
  go_enter Tryd.func79, Tryd.ntmps79
  go_wp2
  go_ret
  exact ⟨by rw [← h]; rfl, rfl⟩
theorem ordered_int (n : Int) (w : World) : Calls Tryd.prog 43 #[.agg (nv 3 n 0)] w fun e w' => e = .returned (.bool true) ∧ w.alloc (.cells (nv 3 n 0) 27) = w' := by
  go_enter Tryd.func43, Tryd.ntmps43
  go_wp2
  go_ret
  exact ⟨rfl, rfl⟩
theorem ordered_float (f : Nat) (w : World) (b : Bool) (h : (FloatKind.f64.format.order f f != some .eq) = b) : Calls Tryd.prog 43 #[.agg (nv 4 0 f)] w fun e w' => e = .returned (.bool (!b)) ∧ w.alloc (.cells (nv 4 0 f) 27) = w' := by
  have hn := fun W => isNaN_any f W b h
  have Hn := Lib.hid hn
  clear hn h
  cases b
  all_goals
    go_enter Tryd.func43, Tryd.ntmps43
    go_wp2_with (go_at_call 79; refine (Hn.out _).mono ?_; rintro e w' ⟨rfl, rfl⟩)
    go_ret
    exact ⟨rfl, rfl⟩

set_option maxRecDepth 100000 in
set_option maxHeartbeats 1000000 in
/-- two floats that are no NaN -/
theorem cmp_ff (a b : Nat) (o : Ordering) (w : World) (ha : FloatKind.f64.format.order a a = some .eq) (hb : FloatKind.f64.format.order b b = some .eq) (ho : FloatKind.f64.format.order a b = some o) :
    Calls Tryd.prog 13 #[.agg (nv 4 0 a), .agg (nv 4 0 b)] w fun e w' => e = .returned (.tuple #[.int .i64 (ordI o), .bool true]) ∧ Below w.heap.size w w' := by
  have h1 := fun W => ordered_float a W false (by rw [ha]; rfl)
  have h2 := fun W => ordered_float b W false (by rw [hb]; rfl)
  have h3 := fun W => cmpF_any a b o W ha hb ho
  have H1 := Lib.hid h1
  have H2 := Lib.hid h2
  have H3 := Lib.hid h3
  clear h1 h2 h3 ha hb ho
  go_enter Tryd.func13, Tryd.ntmps13
  go_wp2_with fail
  refine (H1.out _).mono ?_
  rintro e w' ⟨rfl, rfl⟩
  go_wp2_with fail
  refine (H2.out _).mono ?_
  rintro e w' ⟨rfl, rfl⟩
  go_wp2_with fail
  refine (H3.out _).mono ?_
  rintro e w' ⟨rfl, rfl⟩
  go_wp2
  go_ret2
  refine ⟨rfl, ?_⟩
  go_grown

set_option maxRecDepth 100000 in
set_option maxHeartbeats 1000000 in
/-- two floats, one of them a NaN -/
theorem cmp_nan (a b : Nat) (w : World) (h : (FloatKind.f64.format.order a a != some .eq) = true ∨ (FloatKind.f64.format.order a a != some .eq) = false ∧ (FloatKind.f64.format.order b b != some .eq) = true) :
    Calls Tryd.prog 13 #[.agg (nv 4 0 a), .agg (nv 4 0 b)] w fun e w' => e = .returned (.tuple #[.int .i64 0, .bool false]) ∧ Below w.heap.size w w' := by
  rcases h with h | ⟨h, h'⟩
  · have h1 := fun W => ordered_float a W true h
    have H1 := Lib.hid h1
    clear h1 h
    go_enter Tryd.func13, Tryd.ntmps13
    go_wp2_with fail
    refine (H1.out _).mono ?_
    rintro e w' ⟨rfl, rfl⟩
    go_wp2
    go_ret2
    refine ⟨rfl, ?_⟩
    go_grown
  · have h1 := fun W => ordered_float a W false h
    have h2 := fun W => ordered_float b W true h'
    have H1 := Lib.hid h1
    have H2 := Lib.hid h2
    clear h1 h2 h h'
    go_enter Tryd.func13, Tryd.ntmps13
    go_wp2_with fail
    refine (H1.out _).mono ?_
    rintro e w' ⟨rfl, rfl⟩
    go_wp2_with fail
    refine (H2.out _).mono ?_
    rintro e w' ⟨rfl, rfl⟩
    go_wp2
    go_ret2
    refine ⟨rfl, ?_⟩
    go_grown

/-- the two numbers of lives -/
theorem mixed_live (w : World) : Calls Tryd.prog 45 #[.int .i64 9007199254740993, .float .f64 4845873199050653696] w fun e w' => e = .returned (.int .i64 1) ∧ w = w' := by
  have hcv : ∀ W, (convert 23 2 (.float .f64 4845873199050653696)).run Tryd.prog W = .ok (.int .i64 9007199254740992) W := fun W => by kernel_rfl
  have ho1 : FloatKind.f64.format.order 4845873199050653696 4890909195324358656 = some .lt := by kernel_rfl
  have ho2 : FloatKind.f64.format.order 4845873199050653696 14114281232179134464 = some .gt := by kernel_rfl
  go_enter Tryd.func45, Tryd.ntmps45
  go_wp2
  go_ret
  exact ⟨rfl, rfl⟩
set_option maxRecDepth 100000 in
set_option maxHeartbeats 1000000 in
theorem cmp_live (w : World) : Calls Tryd.prog 13 #[.agg (nv 3 9007199254740993 0), .agg (nv 4 0 4845873199050653696)] w fun e w' => e = .returned (.tuple #[.int .i64 1, .bool true]) ∧ Below w.heap.size w w' := by
  have h2 := fun W => ordered_float 4845873199050653696 W false (by kernel_rfl)
  have H2 := Lib.hid h2
  clear h2
  go_enter Tryd.func13, Tryd.ntmps13
  go_wp2_with fail
  refine (ordered_int _ _).mono ?_
  rintro e w' ⟨rfl, rfl⟩
  go_wp2_with fail
  refine (H2.out _).mono ?_
  rintro e w' ⟨rfl, rfl⟩
  go_wp2_with fail
  refine (mixed_live _).mono ?_
  rintro e w' ⟨rfl, rfl⟩
  go_wp2
  go_ret2
  refine ⟨rfl, ?_⟩
  go_grown

theorem part_any (f : Nat) (w : World) : Calls Tryd.prog 37 #[.float .f64 f] w fun e w' => e = .returned (.agg (nv 4 0 f)) ∧ Below w.heap.size w w' := by
  go_enter Tryd.func37, Tryd.ntmps37
  go_wp2
  refine bodyPost_ret (v := .agg (nv 4 0 f)) (by simp [results, Tryd.results37, go_sem]) rfl ⟨rfl, ?_⟩
  go_grown
theorem whole_any (n : Int) (w : World) : Calls Tryd.prog 48 #[.int .i64 n] w fun e w' => e = .returned (.agg (nv 3 n 0)) ∧ Below w.heap.size w w' := by
  go_enter Tryd.func48, Tryd.ntmps48
  go_wp2
  refine bodyPost_ret (v := .agg (nv 3 n 0)) (by simp [results, Tryd.results48, go_sem]) rfl ⟨rfl, ?_⟩
  go_grown
theorem nan_any (w : World) : Calls Tryd.prog 50 #[] w fun e w' => e = .returned (.float .f64 9221120237041090561) ∧ w = w' := by
  have h38 := Tryd.from38
  go_enter Tryd.func50, Tryd.ntmps50
  go_wp2
  go_ret
  exact ⟨rfl, rfl⟩
theorem copysign_live (w : World) : Calls Tryd.prog 49 #[.float .f64 0, .float .f64 13830554455654793216] w fun e w' => e = .returned (.float .f64 9223372036854775808) ∧ w = w' := by
  have h38 := Tryd.from38
  have h58 := Tryd.bits58
  go_enter Tryd.func49, Tryd.ntmps49
  go_wp2
  go_ret
  exact ⟨rfl, rfl⟩
end Go.Proofs.YtnnnnlcpmocnfaaDoor
