/- THE LAW ValueHeld's checkValue at any value, WALKED. -/
import Derived.Test.YtnnnnlcpmocnfaaGreatDoorCk8
import Derived.Test.YtnnnnlcpmocnfaaGreatDoorCk9
import Derived.Outline
import Derived.WalkLawsBesides
import Derived.Deep.RegionLaw
import Derived.Deep.RegionHeld3
namespace Go.Proofs.YtnnnnlcpmocnfaaGreatDoor
open Go.RowKit
set_option linter.unusedVariables false
set_option linter.unusedSimpArgs false
attribute [local go_sem] run_store_float


theorem chk_eq (x : V) (d : Int) : chk x d = if bareB x = false then 5 else if ¬ x.s.size ≤ 4096 then 4 else if x.k = 1 ∧ utf x.s = false then 12 else if ¬ x.l.length ≤ 256 then 3 else if ¬ x.p.length ≤ 256 then 3
    else if (x.k = 5 ∨ x.k = 6) ∧ ¬ d < 8 then 11 else if chkL x.l (d + 1) = 0 then (if chkP x.p (d + 1) = 0 then onceErr x.p else chkP x.p (d + 1)) else chkL x.l (d + 1) := by
  cases x
  rw [chk]
  rfl
theorem bare_parts {x : V} (h : bareB x = true) : (x.l ≠ [] → x.k = 5) ∧ (x.p ≠ [] → x.k = 6) := by
  unfold bareB at h
  simp only [Bool.and_eq_true, Bool.or_eq_true, beq_iff_eq] at h
  refine ⟨fun hne => ?_, fun hne => ?_⟩
  · rcases h.1.2 with h | h
    · exact h
    · exact absurd (List.isEmpty_iff.1 h) hne
  · rcases h.2 with h | h
    · exact h
    · exact absurd (List.isEmpty_iff.1 h) hne
theorem cval_step (x : V) (ihl : ∀ a, a ∈ x.l → CheckC a) (ihp : CheckPC x.p) : CheckC x := by
  intro w q1 q2 d hT hx hd0 hd8
  have hfit := hx.parts.1
  rw [chk_eq]
  cases hb : bareB x
  · rw [if_pos rfl]; exact cval_bare_o x d hb w q1 q2 hT hx hd0 hd8
  rw [if_neg (by simp)]
  by_cases hl : ¬ x.s.size ≤ 4096
  · rw [if_pos hl]; exact cval_long_o x d hb (show 4096 < x.s.size by omega) w q1 q2 hT hx hd0 hd8
  rw [if_neg hl]
  have hl' : x.s.size ≤ 4096 := by omega
  obtain ⟨hbl, hbp⟩ := bare_parts hb
  by_cases k1 : x.k = 1
  · have f1 : (x.k != 1) = false := by rw [k1]; rfl
    have f5 : (x.k == 5) = false := by rw [k1]; rfl
    have f6 : (x.k == 6) = false := by rw [k1]; rfl
    cases hu : utf x.s
    · rw [if_pos ⟨k1, rfl⟩]; exact cval_utf_1 x d hb hl' f1 f5 f6 hu w q1 q2 hT hx hd0 hd8
    rw [if_neg (by simp)]
    by_cases m1 : ¬ x.l.length ≤ 256
    · rw [if_pos m1]; exact cval_many1_1 x d hb hl' f1 f5 f6 hu (show 256 < x.l.length by omega) w q1 q2 hT hx hd0 hd8
    rw [if_neg m1]
    by_cases m2 : ¬ x.p.length ≤ 256
    · rw [if_pos m2]; exact cval_many2_1 x d hb hl' f1 f5 f6 hu (show x.l.length ≤ 256 by omega) (show 256 < x.p.length by omega) w q1 q2 hT hx hd0 hd8
    rw [if_neg m2, if_neg (by rw [k1]; simp)]
    exact cval_main_1 x d hb hl' f1 f5 f6 hu (show x.l.length ≤ 256 by omega) (show x.p.length ≤ 256 by omega) ihl ihp (fun h => by have := hbl h; omega) (fun h => by have := hbp h; omega) hfit.p1 _ (by unfold pairsErr; rw [if_neg m2]; exact rfl) w q1 q2 hT hx hd0 hd8
  · have f1 : (x.k != 1) = true := by simp [k1]
    rw [if_neg (fun h => k1 h.1)]
    by_cases k5 : x.k = 5
    · have f5 : (x.k == 5) = true := by rw [k5]; rfl
      by_cases m1 : ¬ x.l.length ≤ 256
      · rw [if_pos m1]; exact cval_many1_5 x d hb hl' f1 f5 (show 256 < x.l.length by omega) w q1 q2 hT hx hd0 hd8
      rw [if_neg m1]
      by_cases m2 : ¬ x.p.length ≤ 256
      · rw [if_pos m2]; exact cval_many2_5 x d hb hl' f1 f5 (show x.l.length ≤ 256 by omega) (show 256 < x.p.length by omega) w q1 q2 hT hx hd0 hd8
      rw [if_neg m2]
      by_cases hd : d < 8
      · rw [if_neg (fun h => h.2 hd)]
        exact cval_main_5 x d hb hl' f1 f5 (show x.l.length ≤ 256 by omega) (show x.p.length ≤ 256 by omega) hd ihl ihp (fun h => by omega) (fun h => by omega) hfit.p1 _ (by unfold pairsErr; rw [if_neg m2]; exact rfl) w q1 q2 hT hx hd0 hd8
      · rw [if_pos ⟨.inl k5, hd⟩]
        exact cval_depth_5 x d hb hl' f1 f5 (show x.l.length ≤ 256 by omega) (show x.p.length ≤ 256 by omega) (show 8 ≤ d by omega) w q1 q2 hT hx hd0 hd8
    · have f5 : (x.k == 5) = false := by simp [k5]
      by_cases k6 : x.k = 6
      · have f6 : (x.k == 6) = true := by rw [k6]; rfl
        by_cases m1 : ¬ x.l.length ≤ 256
        · rw [if_pos m1]; exact cval_many1_6 x d hb hl' f1 f5 f6 (show 256 < x.l.length by omega) w q1 q2 hT hx hd0 hd8
        rw [if_neg m1]
        by_cases m2 : ¬ x.p.length ≤ 256
        · rw [if_pos m2]; exact cval_many2_6 x d hb hl' f1 f5 f6 (show x.l.length ≤ 256 by omega) (show 256 < x.p.length by omega) w q1 q2 hT hx hd0 hd8
        rw [if_neg m2]
        by_cases hd : d < 8
        · rw [if_neg (fun h => h.2 hd)]
          exact cval_main_6 x d hb hl' f1 f5 f6 (show x.l.length ≤ 256 by omega) (show x.p.length ≤ 256 by omega) hd ihl ihp (fun h => by omega) (fun h => by omega) hfit.p1 _ (by unfold pairsErr; rw [if_neg m2]; exact rfl) w q1 q2 hT hx hd0 hd8
        · rw [if_pos ⟨.inr k6, hd⟩]
          exact cval_depth_6 x d hb hl' f1 f5 f6 (show x.l.length ≤ 256 by omega) (show x.p.length ≤ 256 by omega) (show 8 ≤ d by omega) w q1 q2 hT hx hd0 hd8
      · have f6 : (x.k == 6) = false := by simp [k6]
        by_cases m1 : ¬ x.l.length ≤ 256
        · rw [if_pos m1]; exact cval_many1_o x d hb hl' f1 f5 f6 (show 256 < x.l.length by omega) w q1 q2 hT hx hd0 hd8
        rw [if_neg m1]
        by_cases m2 : ¬ x.p.length ≤ 256
        · rw [if_pos m2]; exact cval_many2_o x d hb hl' f1 f5 f6 (show x.l.length ≤ 256 by omega) (show 256 < x.p.length by omega) w q1 q2 hT hx hd0 hd8
        rw [if_neg m2, if_neg (fun h => h.1.elim k5 k6)]
        exact cval_main_o x d hb hl' f1 f5 f6 (show x.l.length ≤ 256 by omega) (show x.p.length ≤ 256 by omega) ihl ihp (fun h => by have := hbl h; omega) (fun h => by have := hbp h; omega) hfit.p1 _ (by unfold pairsErr; rw [if_neg m2]; exact rfl) w q1 q2 hT hx hd0 hd8
theorem cval_sized : ∀ (n : Nat) (x : V), SizeOf.sizeOf x ≤ n → CheckC x := by
  intro n
  induction n with
  | zero => intro x hx; cases x; simp only [V.mk.sizeOf_spec] at hx; omega
  | succ n ih =>
    intro x hx
    exact cval_step x (fun a ha => ih a (by have := V.size_l ha; omega)) (cpairs_of _ fun e he => ih e.2 (by have := V.size_p he; omega))
theorem cval_any (x : V) : CheckC x := cval_sized _ x (Nat.le_refl _)
theorem cpairs_any (l : List (ByteArray × V)) : CheckPC l := cpairs_of l fun e _ => cval_any e.2
theorem cpair_any (key : ByteArray) (x : V) (w : World) (q1 q2 : Value) (d : Int) (hT : Tabs w) (hx : Rep Any w q1 q2 x) (hk : key.size ≤ 140737488353000) (hd0 : 0 ≤ d) (hd8 : d ≤ 8) : Calls Tryz.prog 26 #[.agg (pv key x q1 q2), .int .i64 d] w (Chk (pairErr key x d) w) := cpair_of key x (cval_any x) w q1 q2 d hT hx hk hd0 hd8
end Go.Proofs.YtnnnnlcpmocnfaaGreatDoor
