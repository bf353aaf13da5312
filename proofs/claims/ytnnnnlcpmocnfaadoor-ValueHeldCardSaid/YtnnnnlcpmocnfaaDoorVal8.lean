/- value.Compare AT ANY TWO VALUES: ITS ANSWER AS A FUNCTION OF THEIR CELLS. -/
import Derived.Test.YtnnnnlcpmocnfaaDoorVal7
namespace Go.Proofs.YtnnnnlcpmocnfaaDoor
open Go.RowKit
set_option linter.unusedVariables false
set_option linter.unusedSimpArgs false
attribute [local go_sem] run_store_float

/-- a value that is a number with an order: where it stands -/
def num (k n : Int) (f : Nat) : Option Int := if k == 3 then some (n * (F.P : Int)) else if k == 4 then (if (dec f).isNaN then none else some (F.val (dec f))) else none
def cmpN : Option Int → Option Int → Int × Bool
  | some x, some y => (ordI (compare x y), true)
  | _, _ => (0, false)
def cmpV (ka : Int) (sa : ByteArray) (na : Int) (fa : Nat) (kb : Int) (sb : ByteArray) (nb : Int) (fb : Nat) : Int × Bool :=
  if (ka == 1 && kb == 1) = true then (ordS sa sb, true) else cmpN (num ka na fa) (num kb nb fb)

theorem wsw (o : Ordering) : wrap64 (-ordI o) = ordI o.swap := by cases o <;> kernel_rfl

section
variable (ka : Int) (sa : ByteArray) (ba : Bool) (na : Int) (fa : Nat) (pa qa : Value) (kb : Int) (sb : ByteArray) (bb : Bool) (nb : Int) (fb : Nat) (pb qb : Value) (w : World)
set_option maxRecDepth 100000 in
set_option maxHeartbeats 1000000 in
/-- two texts -/
theorem v_text  :
    Calls Tryd.prog 13 #[.agg (gv 1 sa ba na fa pa qa), .agg (gv 1 sb bb nb fb pb qb)] w fun e w' => e = .returned (.tuple #[.int .i64 (ordS sa sb), .bool true]) ∧ Below w.heap.size w w' := by
  have h1 := fun W => cmpS_any sa sb W
  have H1 := Lib.hid h1
  clear h1
  go_enter Tryd.func13, Tryd.ntmps13
  go_wp2_with fail
  refine (H1.out _).mono ?_
  rintro e w' ⟨rfl, rfl⟩
  go_wp2
  go_ret2
  refine ⟨rfl, ?_⟩
  go_grown
set_option maxRecDepth 100000 in
set_option maxHeartbeats 1000000 in
/-- the first has no order -/
theorem v_none (h0 : (ka == 1) = false ∨ (ka == 1) = true ∧ (kb == 1) = false) (h1 : ∀ W, Calls Tryd.prog 43 #[.agg (gv ka sa ba na fa pa qa)] W fun e w' => e = .returned (.bool false) ∧ W.alloc (.cells (gv ka sa ba na fa pa qa) 27) = w') :
    Calls Tryd.prog 13 #[.agg (gv ka sa ba na fa pa qa), .agg (gv kb sb bb nb fb pb qb)] w fun e w' => e = .returned (.tuple #[.int .i64 (0), .bool false]) ∧ Below w.heap.size w w' := by
  have H1 := Lib.hid h1
  clear h1
  rcases h0 with h0 | ⟨h0, h0'⟩
  all_goals
    go_enter Tryd.func13, Tryd.ntmps13
    go_wp2_with fail
    refine (H1.out _).mono ?_
    rintro e w' ⟨rfl, rfl⟩
    go_wp2
    go_ret2
    refine ⟨rfl, ?_⟩
    go_grown
set_option maxRecDepth 100000 in
set_option maxHeartbeats 1000000 in
/-- the second has no order -/
theorem v_none3 (h1 : ∀ W, Calls Tryd.prog 43 #[.agg (gv 3 sa ba na fa pa qa)] W fun e w' => e = .returned (.bool true) ∧ W.alloc (.cells (gv 3 sa ba na fa pa qa) 27) = w') (h2 : ∀ W, Calls Tryd.prog 43 #[.agg (gv kb sb bb nb fb pb qb)] W fun e w' => e = .returned (.bool false) ∧ W.alloc (.cells (gv kb sb bb nb fb pb qb) 27) = w') :
    Calls Tryd.prog 13 #[.agg (gv 3 sa ba na fa pa qa), .agg (gv kb sb bb nb fb pb qb)] w fun e w' => e = .returned (.tuple #[.int .i64 (0), .bool false]) ∧ Below w.heap.size w w' := by
  have H1 := Lib.hid h1
  have H2 := Lib.hid h2
  clear h1 h2
  go_enter Tryd.func13, Tryd.ntmps13
  go_wp2_with fail
  refine (H1.out _).mono ?_
  rintro e w' ⟨rfl, rfl⟩
  go_wp2_with fail
  refine (H2.out _).mono ?_
  rintro e w' ⟨rfl, rfl⟩
  go_wp2
  go_ret2
  refine ⟨rfl, ?_⟩
  go_grown
set_option maxRecDepth 100000 in
set_option maxHeartbeats 1000000 in
/-- the second has no order -/
theorem v_none4 (h1 : ∀ W, Calls Tryd.prog 43 #[.agg (gv 4 sa ba na fa pa qa)] W fun e w' => e = .returned (.bool true) ∧ W.alloc (.cells (gv 4 sa ba na fa pa qa) 27) = w') (h2 : ∀ W, Calls Tryd.prog 43 #[.agg (gv kb sb bb nb fb pb qb)] W fun e w' => e = .returned (.bool false) ∧ W.alloc (.cells (gv kb sb bb nb fb pb qb) 27) = w') :
    Calls Tryd.prog 13 #[.agg (gv 4 sa ba na fa pa qa), .agg (gv kb sb bb nb fb pb qb)] w fun e w' => e = .returned (.tuple #[.int .i64 (0), .bool false]) ∧ Below w.heap.size w w' := by
  have H1 := Lib.hid h1
  have H2 := Lib.hid h2
  clear h1 h2
  go_enter Tryd.func13, Tryd.ntmps13
  go_wp2_with fail
  refine (H1.out _).mono ?_
  rintro e w' ⟨rfl, rfl⟩
  go_wp2_with fail
  refine (H2.out _).mono ?_
  rintro e w' ⟨rfl, rfl⟩
  go_wp2
  go_ret2
  refine ⟨rfl, ?_⟩
  go_grown
set_option maxRecDepth 100000 in
set_option maxHeartbeats 1000000 in
/-- two floats -/
theorem v_ff (o : Ordering) (h1 : ∀ W, Calls Tryd.prog 43 #[.agg (gv 4 sa ba na fa pa qa)] W fun e w' => e = .returned (.bool true) ∧ W.alloc (.cells (gv 4 sa ba na fa pa qa) 27) = w') (h2 : ∀ W, Calls Tryd.prog 43 #[.agg (gv 4 sb bb nb fb pb qb)] W fun e w' => e = .returned (.bool true) ∧ W.alloc (.cells (gv 4 sb bb nb fb pb qb) 27) = w') (h3 : ∀ W, Calls Tryd.prog 44 #[.float .f64 fa, .float .f64 fb] W fun e w' => e = .returned (.int .i64 (ordI o)) ∧ W = w') :
    Calls Tryd.prog 13 #[.agg (gv 4 sa ba na fa pa qa), .agg (gv 4 sb bb nb fb pb qb)] w fun e w' => e = .returned (.tuple #[.int .i64 (ordI o), .bool true]) ∧ Below w.heap.size w w' := by
  have H1 := Lib.hid h1
  have H2 := Lib.hid h2
  have H3 := Lib.hid h3
  clear h1 h2 h3
  go_enter Tryd.func13, Tryd.ntmps13
  go_wp2_with fail
  refine (H1.out _).mono ?_
  rintro e w' ⟨rfl, rfl⟩
  go_wp2_with fail
  refine (H2.out _).mono ?_
  rintro e w' ⟨rfl, rfl⟩
  go_wp2_with fail
  refine (H3.out _).mono ?_
  rintro e w' ⟨rfl, rfl⟩
  go_wp2
  go_ret2
  refine ⟨rfl, ?_⟩
  go_grown
set_option maxRecDepth 100000 in
set_option maxHeartbeats 1000000 in
/-- a float and an int -/
theorem v_fi (o : Ordering) (h1 : ∀ W, Calls Tryd.prog 43 #[.agg (gv 4 sa ba na fa pa qa)] W fun e w' => e = .returned (.bool true) ∧ W.alloc (.cells (gv 4 sa ba na fa pa qa) 27) = w') (h2 : ∀ W, Calls Tryd.prog 43 #[.agg (gv 3 sb bb nb fb pb qb)] W fun e w' => e = .returned (.bool true) ∧ W.alloc (.cells (gv 3 sb bb nb fb pb qb) 27) = w') (h3 : ∀ W, Calls Tryd.prog 45 #[.int .i64 nb, .float .f64 fa] W fun e w' => e = .returned (.int .i64 (ordI o)) ∧ W = w') :
    Calls Tryd.prog 13 #[.agg (gv 4 sa ba na fa pa qa), .agg (gv 3 sb bb nb fb pb qb)] w fun e w' => e = .returned (.tuple #[.int .i64 (ordI o.swap), .bool true]) ∧ Below w.heap.size w w' := by
  have H1 := Lib.hid h1
  have H2 := Lib.hid h2
  have H3 := Lib.hid h3
  clear h1 h2 h3
  go_enter Tryd.func13, Tryd.ntmps13
  go_wp2_with fail
  refine (H1.out _).mono ?_
  rintro e w' ⟨rfl, rfl⟩
  go_wp2_with fail
  refine (H2.out _).mono ?_
  rintro e w' ⟨rfl, rfl⟩
  go_wp2_with fail
  refine (H3.out _).mono ?_
  rintro e w' ⟨rfl, rfl⟩
  go_wp2
  go_ret2
  refine ⟨congrArg (fun z => Ending.returned (Value.tuple #[Value.int .i64 z, Value.bool true])) (wsw o), ?_⟩
  go_grown
set_option maxRecDepth 100000 in
set_option maxHeartbeats 1000000 in
/-- an int and a float -/
theorem v_if (o : Ordering) (h1 : ∀ W, Calls Tryd.prog 43 #[.agg (gv 3 sa ba na fa pa qa)] W fun e w' => e = .returned (.bool true) ∧ W.alloc (.cells (gv 3 sa ba na fa pa qa) 27) = w') (h2 : ∀ W, Calls Tryd.prog 43 #[.agg (gv 4 sb bb nb fb pb qb)] W fun e w' => e = .returned (.bool true) ∧ W.alloc (.cells (gv 4 sb bb nb fb pb qb) 27) = w') (h3 : ∀ W, Calls Tryd.prog 45 #[.int .i64 na, .float .f64 fb] W fun e w' => e = .returned (.int .i64 (ordI o)) ∧ W = w') :
    Calls Tryd.prog 13 #[.agg (gv 3 sa ba na fa pa qa), .agg (gv 4 sb bb nb fb pb qb)] w fun e w' => e = .returned (.tuple #[.int .i64 (ordI o), .bool true]) ∧ Below w.heap.size w w' := by
  have H1 := Lib.hid h1
  have H2 := Lib.hid h2
  have H3 := Lib.hid h3
  clear h1 h2 h3
  go_enter Tryd.func13, Tryd.ntmps13
  go_wp2_with fail
  refine (H1.out _).mono ?_
  rintro e w' ⟨rfl, rfl⟩
  go_wp2_with fail
  refine (H2.out _).mono ?_
  rintro e w' ⟨rfl, rfl⟩
  go_wp2_with fail
  refine (H3.out _).mono ?_
  rintro e w' ⟨rfl, rfl⟩
  go_wp2
  go_ret2
  refine ⟨rfl, ?_⟩
  go_grown
set_option maxRecDepth 100000 in
set_option maxHeartbeats 1000000 in
/-- two ints -/
theorem v_ii (o : Ordering) (h1 : ∀ W, Calls Tryd.prog 43 #[.agg (gv 3 sa ba na fa pa qa)] W fun e w' => e = .returned (.bool true) ∧ W.alloc (.cells (gv 3 sa ba na fa pa qa) 27) = w') (h2 : ∀ W, Calls Tryd.prog 43 #[.agg (gv 3 sb bb nb fb pb qb)] W fun e w' => e = .returned (.bool true) ∧ W.alloc (.cells (gv 3 sb bb nb fb pb qb) 27) = w') (h3 : ∀ W, Calls Tryd.prog 46 #[.int .i64 na, .int .i64 nb] W fun e w' => e = .returned (.int .i64 (ordI o)) ∧ W = w') :
    Calls Tryd.prog 13 #[.agg (gv 3 sa ba na fa pa qa), .agg (gv 3 sb bb nb fb pb qb)] w fun e w' => e = .returned (.tuple #[.int .i64 (ordI o), .bool true]) ∧ Below w.heap.size w w' := by
  have H1 := Lib.hid h1
  have H2 := Lib.hid h2
  have H3 := Lib.hid h3
  clear h1 h2 h3
  go_enter Tryd.func13, Tryd.ntmps13
  go_wp2_with fail
  refine (H1.out _).mono ?_
  rintro e w' ⟨rfl, rfl⟩
  go_wp2_with fail
  refine (H2.out _).mono ?_
  rintro e w' ⟨rfl, rfl⟩
  go_wp2_with fail
  refine (H3.out _).mono ?_
  rintro e w' ⟨rfl, rfl⟩
  go_wp2
  go_ret2
  refine ⟨rfl, ?_⟩
  go_grown
end

theorem ord_of (k : Int) (s : ByteArray) (b : Bool) (n : Int) (f : Nat) (p q : Value) (W : World) :
    Calls Tryd.prog 43 #[.agg (gv k s b n f p q)] W fun e w' => e = .returned (.bool (num k n f).isSome) ∧ W.alloc (.cells (gv k s b n f p q) 27) = w' := by
  refine ordered_any k s b n f p q _ W ?_
  unfold num
  cases h3 : (k == 3)
  · cases h4 : (k == 4)
    · exact .inr (.inl ⟨rfl, rfl, rfl⟩)
    · refine .inr (.inr ⟨rfl, rfl, ?_⟩)
      cases hn : (dec f).isNaN
      · rw [fo_refl f hn]; rfl
      · rw [fo_nan f hn]; rfl
  · exact .inl ⟨rfl, rfl⟩
theorem swap_compare (x y : Int) : (compare x y).swap = compare y x := by
  rcases Int.lt_trichotomy x y with h | h | h
  · rw [F.cmp_lt h, F.cmp_gt h]; rfl
  · subst h; rw [F.cmp_eq]; rfl
  · rw [F.cmp_gt h, F.cmp_lt h]; rfl

theorem compare_any (ka : Int) (sa : ByteArray) (ba : Bool) (na : Int) (fa : Nat) (pa qa : Value) (kb : Int) (sb : ByteArray) (bb : Bool) (nb : Int) (fb : Nat) (pb qb : Value)
    (hna : -9223372036854775808 ≤ na ∧ na ≤ 9223372036854775807) (hnb : -9223372036854775808 ≤ nb ∧ nb ≤ 9223372036854775807) (w : World) :
    Calls Tryd.prog 13 #[.agg (gv ka sa ba na fa pa qa), .agg (gv kb sb bb nb fb pb qb)] w fun e w' =>
      e = .returned (.tuple #[.int .i64 (cmpV ka sa na fa kb sb nb fb).1, .bool (cmpV ka sa na fa kb sb nb fb).2]) ∧ Below w.heap.size w w' := by
  have Ha := fun W => ord_of ka sa ba na fa pa qa W
  have Hb := fun W => ord_of kb sb bb nb fb pb qb W
  by_cases ht : (ka == 1 && kb == 1) = true
  · have hv : cmpV ka sa na fa kb sb nb fb = (ordS sa sb, true) := by unfold cmpV; rw [if_pos ht]
    rw [hv]
    obtain ⟨e1, e2⟩ := Bool.and_eq_true_iff.1 ht
    obtain rfl := eq_of_beq e1
    obtain rfl := eq_of_beq e2
    exact v_text sa ba na fa pa qa sb bb nb fb pb qb w
  · have hv : cmpV ka sa na fa kb sb nb fb = cmpN (num ka na fa) (num kb nb fb) := by unfold cmpV; rw [if_neg ht]
    rw [hv]
    cases xa : num ka na fa with
    | none =>
      rw [xa] at Ha
      refine v_none ka sa ba na fa pa qa kb sb bb nb fb pb qb w ?_ Ha
      cases h1 : (ka == 1)
      · exact .inl rfl
      · refine .inr ⟨rfl, ?_⟩
        cases h2 : (kb == 1)
        · rfl
        · rw [h1, h2] at ht; exact absurd rfl ht
    | some x =>
      rw [xa] at Ha
      -- which number the first is
      have ca : (ka = 3 ∧ x = na * (F.P : Int)) ∨ (ka = 4 ∧ (dec fa).isNaN = false ∧ x = F.val (dec fa)) := by
        unfold num at xa
        by_cases h3 : (ka == 3) = true
        · rw [if_pos h3] at xa; exact .inl ⟨eq_of_beq h3, (Option.some.inj xa).symm⟩
        · rw [if_neg h3] at xa
          by_cases h4 : (ka == 4) = true
          · rw [if_pos h4] at xa
            by_cases hn : (dec fa).isNaN = true
            · rw [if_pos hn] at xa; cases xa
            · rw [if_neg hn] at xa; exact .inr ⟨eq_of_beq h4, by simpa using hn, (Option.some.inj xa).symm⟩
          · rw [if_neg h4] at xa; cases xa
      cases xb : num kb nb fb with
      | none =>
        rw [xb] at Hb
        rcases ca with ⟨rfl, _⟩ | ⟨rfl, _⟩
        · exact v_none3 sa ba na fa pa qa kb sb bb nb fb pb qb w Ha Hb
        · exact v_none4 sa ba na fa pa qa kb sb bb nb fb pb qb w Ha Hb
      | some y =>
        rw [xb] at Hb
        have cb : (kb = 3 ∧ y = nb * (F.P : Int)) ∨ (kb = 4 ∧ (dec fb).isNaN = false ∧ y = F.val (dec fb)) := by
          unfold num at xb
          by_cases h3 : (kb == 3) = true
          · rw [if_pos h3] at xb; exact .inl ⟨eq_of_beq h3, (Option.some.inj xb).symm⟩
          · rw [if_neg h3] at xb
            by_cases h4 : (kb == 4) = true
            · rw [if_pos h4] at xb
              by_cases hn : (dec fb).isNaN = true
              · rw [if_pos hn] at xb; cases xb
              · rw [if_neg hn] at xb; exact .inr ⟨eq_of_beq h4, by simpa using hn, (Option.some.inj xb).symm⟩
            · rw [if_neg h4] at xb; cases xb
        show Calls _ _ _ w fun e w' => e = .returned (.tuple #[.int .i64 (ordI (compare x y)), .bool true]) ∧ _
        rcases ca with ⟨rfl, rfl⟩ | ⟨rfl, fa1, rfl⟩
        · rcases cb with ⟨rfl, rfl⟩ | ⟨rfl, fb1, rfl⟩
          · exact v_ii sa ba na fa pa qa sb bb nb fb pb qb w _ Ha Hb fun W => cmpI_any na nb _ (F.cmp_mul F.P_pos na nb).symm W
          · exact v_if sa ba na fa pa qa sb bb nb fb pb qb w _ Ha Hb fun W => mixed_any na fb _ hna fb1 rfl W
        · rcases cb with ⟨rfl, rfl⟩ | ⟨rfl, fb1, rfl⟩
          · rw [← swap_compare]
            exact v_fi sa ba na fa pa qa sb bb nb fb pb qb w _ Ha Hb fun W => mixed_any nb fa _ hnb fa1 rfl W
          · exact v_ff sa ba na fa pa qa sb bb nb fb pb qb w _ Ha Hb fun W => cmpF_any fa fb _ W (fo_refl fa fa1) (fo_refl fb fb1) (fo_val fa fb fa1 fb1)
end Go.Proofs.YtnnnnlcpmocnfaaDoor
