/- CONF: THE WALKS OVER the document's Millis, Bytes. -/
import Derived.Test.YtegobomfhdfodaaGreatDoorDm
namespace Go.Proofs.YtegobomfhdfodaaGreatDoor
open Go.RowKit
set_option maxRecDepth 100000
set_option linter.unusedVariables false
set_option linter.unusedSimpArgs false

namespace K
theorem meas_num (f : T → Nat) (l : T) : meas f l = if (num l).2.2 = false ∨ f (num l).2.1 = 0 then (0, 15) else ((num l).1 * f (num l).2.1, 0) := by
  unfold meas num
  by_cases h9 : 9 < size l
  · rw [if_pos h9, if_pos (.inr (.inl h9)), if_pos (.inl rfl)]
  · rw [if_neg h9]
    by_cases h1 : size l < 1
    · rw [if_pos (.inl h1), if_pos (.inl (decide_eq_false (by omega)))]
    · by_cases hf : f (unit l) = 0
      · rw [if_pos (.inr (.inr hf)), if_pos (.inr hf)]
      · rw [if_neg (by rintro (h | h | h) <;> omega), if_neg]
        rintro (h | h)
        · simp at h; omega
        · exact hf h
theorem num_lt (l : T) : (num l).1 < 1000000000 := by
  unfold num
  by_cases h9 : 9 < size l
  · rw [if_pos h9]; decide
  · rw [if_neg h9]
    exact dec_lt _ (by rw [List.length_take]; omega) (take_digits l)
end K
theorem dmillis_any (l : K.T) (hl : l.length ≤ 140737488355328) (w : World) : Calls Tryz.prog 11 #[S l] w fun e w' => e = .returned (.tuple #[.int .u64 ((K.meas K.mil l).1 : Int), .int .i64 (K.meas K.mil l).2]) ∧ Below w.heap.size w w' := by
  have hnum := number_any l (by omega) w
  have hlt := K.num_lt l
  rw [K.meas_num]
  obtain ⟨R, hR⟩ : ∃ R, K.num l = R := ⟨_, rfl⟩
  rw [hR] at hnum hlt ⊢
  obtain ⟨n, u, ok⟩ := R
  simp only at hnum hlt ⊢
  clear hR
  have HN := Lib.hid hnum
  clear hnum
  cases ok with
  | false =>
    rw [if_pos (.inl rfl)]
    go_enter Tryz.func11, Tryz.ntmps11
    go_wp2_with fail
    refine (HN.out).mono ?_
    rintro e w1 ⟨rfl, hb1⟩
    go_wp2
    refine bodyPost_ret (v := .tuple #[.int .u64 0, .int .i64 15]) (by simp [results, Tryz.results11, go_sem]) rfl ?_
    exact ⟨rfl, hb1⟩
  | true =>
    by_cases h0 : u = [109, 115]
    · subst h0
      rw [(show K.mil [109, 115] = 1 from by decide), if_neg (by rintro (h | h); cases h; exact absurd h (by decide))]
      go_enter Tryz.func11, Tryz.ntmps11
      go_wp2_with fail
      refine (HN.out).mono ?_
      rintro e w1 ⟨rfl, hb1⟩
      go_wp2
      refine bodyPost_ret (v := .tuple #[.int .u64 ((n * 1 : Nat) : Int), .int .i64 0]) (by simp [results, Tryz.results11, go_sem]; try omega) rfl ?_
      exact ⟨rfl, hb1⟩
    · skip
      by_cases h1 : u = [115]
      · subst h1
        rw [(show K.mil [115] = 1000 from by decide), if_neg (by rintro (h | h); cases h; exact absurd h (by decide))]
        go_enter Tryz.func11, Tryz.ntmps11
        go_wp2_with fail
        refine (HN.out).mono ?_
        rintro e w1 ⟨rfl, hb1⟩
        go_wp2
        refine bodyPost_ret (v := .tuple #[.int .u64 ((n * 1000 : Nat) : Int), .int .i64 0]) (by simp [results, Tryz.results11, go_sem]; try omega) rfl ?_
        exact ⟨rfl, hb1⟩
      · skip
        by_cases h2 : u = [109]
        · subst h2
          rw [(show K.mil [109] = 60000 from by decide), if_neg (by rintro (h | h); cases h; exact absurd h (by decide))]
          go_enter Tryz.func11, Tryz.ntmps11
          go_wp2_with fail
          refine (HN.out).mono ?_
          rintro e w1 ⟨rfl, hb1⟩
          go_wp2
          refine bodyPost_ret (v := .tuple #[.int .u64 ((n * 60000 : Nat) : Int), .int .i64 0]) (by simp [results, Tryz.results11, go_sem]; try omega) rfl ?_
          exact ⟨rfl, hb1⟩
        · skip
          by_cases h3 : u = [104]
          · subst h3
            rw [(show K.mil [104] = 3600000 from by decide), if_neg (by rintro (h | h); cases h; exact absurd h (by decide))]
            go_enter Tryz.func11, Tryz.ntmps11
            go_wp2_with fail
            refine (HN.out).mono ?_
            rintro e w1 ⟨rfl, hb1⟩
            go_wp2
            refine bodyPost_ret (v := .tuple #[.int .u64 ((n * 3600000 : Nat) : Int), .int .i64 0]) (by simp [results, Tryz.results11, go_sem]; try omega) rfl ?_
            exact ⟨rfl, hb1⟩
          · skip
            rw [show K.mil u = 0 from by unfold K.mil; rw [if_neg h0, if_neg h1, if_neg h2, if_neg h3], if_pos (.inr rfl)]
            have e0 : (u == [109, 115]) = false := beq_eq_false_iff_ne.2 h0
            have e1 : (u == [115]) = false := beq_eq_false_iff_ne.2 h1
            have e2 : (u == [109]) = false := beq_eq_false_iff_ne.2 h2
            have e3 : (u == [104]) = false := beq_eq_false_iff_ne.2 h3
            go_enter Tryz.func11, Tryz.ntmps11
            go_wp2_with fail
            refine (HN.out).mono ?_
            rintro e w1 ⟨rfl, hb1⟩
            go_wp2
            refine bodyPost_ret (v := .tuple #[.int .u64 0, .int .i64 15]) (by simp [results, Tryz.results11, go_sem]) rfl ?_
            exact ⟨rfl, hb1⟩
theorem dbytes_any (l : K.T) (hl : l.length ≤ 140737488355328) (w : World) : Calls Tryz.prog 13 #[S l] w fun e w' => e = .returned (.tuple #[.int .u64 ((K.meas K.byt l).1 : Int), .int .i64 (K.meas K.byt l).2]) ∧ Below w.heap.size w w' := by
  have hnum := number_any l (by omega) w
  have hlt := K.num_lt l
  rw [K.meas_num]
  obtain ⟨R, hR⟩ : ∃ R, K.num l = R := ⟨_, rfl⟩
  rw [hR] at hnum hlt ⊢
  obtain ⟨n, u, ok⟩ := R
  simp only at hnum hlt ⊢
  clear hR
  have HN := Lib.hid hnum
  clear hnum
  cases ok with
  | false =>
    rw [if_pos (.inl rfl)]
    go_enter Tryz.func13, Tryz.ntmps13
    go_wp2_with fail
    refine (HN.out).mono ?_
    rintro e w1 ⟨rfl, hb1⟩
    go_wp2
    refine bodyPost_ret (v := .tuple #[.int .u64 0, .int .i64 15]) (by simp [results, Tryz.results13, go_sem]) rfl ?_
    exact ⟨rfl, hb1⟩
  | true =>
    by_cases h0 : u = []
    · subst h0
      rw [(show K.byt [] = 1 from by decide), if_neg (by rintro (h | h); cases h; exact absurd h (by decide))]
      go_enter Tryz.func13, Tryz.ntmps13
      go_wp2_with fail
      refine (HN.out).mono ?_
      rintro e w1 ⟨rfl, hb1⟩
      go_wp2
      refine bodyPost_ret (v := .tuple #[.int .u64 ((n * 1 : Nat) : Int), .int .i64 0]) (by simp [results, Tryz.results13, go_sem]; try omega) rfl ?_
      exact ⟨rfl, hb1⟩
    · skip
      by_cases h1 : u = [66]
      · subst h1
        rw [(show K.byt [66] = 1 from by decide), if_neg (by rintro (h | h); cases h; exact absurd h (by decide))]
        go_enter Tryz.func13, Tryz.ntmps13
        go_wp2_with fail
        refine (HN.out).mono ?_
        rintro e w1 ⟨rfl, hb1⟩
        go_wp2
        refine bodyPost_ret (v := .tuple #[.int .u64 ((n * 1 : Nat) : Int), .int .i64 0]) (by simp [results, Tryz.results13, go_sem]; try omega) rfl ?_
        exact ⟨rfl, hb1⟩
      · skip
        by_cases h2 : u = [75, 105, 66]
        · subst h2
          rw [(show K.byt [75, 105, 66] = 1024 from by decide), if_neg (by rintro (h | h); cases h; exact absurd h (by decide))]
          go_enter Tryz.func13, Tryz.ntmps13
          go_wp2_with fail
          refine (HN.out).mono ?_
          rintro e w1 ⟨rfl, hb1⟩
          go_wp2
          refine bodyPost_ret (v := .tuple #[.int .u64 ((n * 1024 : Nat) : Int), .int .i64 0]) (by simp [results, Tryz.results13, go_sem]; try omega) rfl ?_
          exact ⟨rfl, hb1⟩
        · skip
          by_cases h3 : u = [77, 105, 66]
          · subst h3
            rw [(show K.byt [77, 105, 66] = 1048576 from by decide), if_neg (by rintro (h | h); cases h; exact absurd h (by decide))]
            go_enter Tryz.func13, Tryz.ntmps13
            go_wp2_with fail
            refine (HN.out).mono ?_
            rintro e w1 ⟨rfl, hb1⟩
            go_wp2
            refine bodyPost_ret (v := .tuple #[.int .u64 ((n * 1048576 : Nat) : Int), .int .i64 0]) (by simp [results, Tryz.results13, go_sem]; try omega) rfl ?_
            exact ⟨rfl, hb1⟩
          · skip
            by_cases h4 : u = [71, 105, 66]
            · subst h4
              rw [(show K.byt [71, 105, 66] = 1073741824 from by decide), if_neg (by rintro (h | h); cases h; exact absurd h (by decide))]
              go_enter Tryz.func13, Tryz.ntmps13
              go_wp2_with fail
              refine (HN.out).mono ?_
              rintro e w1 ⟨rfl, hb1⟩
              go_wp2
              refine bodyPost_ret (v := .tuple #[.int .u64 ((n * 1073741824 : Nat) : Int), .int .i64 0]) (by simp [results, Tryz.results13, go_sem]; try omega) rfl ?_
              exact ⟨rfl, hb1⟩
            · skip
              rw [show K.byt u = 0 from by unfold K.byt; rw [if_neg h0, if_neg h1, if_neg h2, if_neg h3, if_neg h4], if_pos (.inr rfl)]
              have e0 : (u == []) = false := beq_eq_false_iff_ne.2 h0
              have e1 : (u == [66]) = false := beq_eq_false_iff_ne.2 h1
              have e2 : (u == [75, 105, 66]) = false := beq_eq_false_iff_ne.2 h2
              have e3 : (u == [77, 105, 66]) = false := beq_eq_false_iff_ne.2 h3
              have e4 : (u == [71, 105, 66]) = false := beq_eq_false_iff_ne.2 h4
              go_enter Tryz.func13, Tryz.ntmps13
              go_wp2_with fail
              refine (HN.out).mono ?_
              rintro e w1 ⟨rfl, hb1⟩
              go_wp2
              refine bodyPost_ret (v := .tuple #[.int .u64 0, .int .i64 15]) (by simp [results, Tryz.results13, go_sem]) rfl ?_
              exact ⟨rfl, hb1⟩
end Go.Proofs.YtegobomfhdfodaaGreatDoor
