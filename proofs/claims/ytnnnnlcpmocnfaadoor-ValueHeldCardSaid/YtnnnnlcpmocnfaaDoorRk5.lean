/- THE LAW ValueHeld: the document's check at any value, WALKED. -/
import Derived.Test.YtnnnnlcpmocnfaaDoorRk4
import Derived.Test.YtnnnnlcpmocnfaaDoorCk10
import Derived.Outline
import Derived.WalkLawsBesides
import Derived.Deep.RegionLaw
import Derived.Deep.RegionHeld3
namespace Go.Proofs.YtnnnnlcpmocnfaaDoor
open Go.RowKit
set_option linter.unusedVariables false
set_option linter.unusedSimpArgs false
attribute [local go_sem] run_store_float

theorem rval_step (x : V) (ihl : ∀ a, a ∈ x.l → RCheckC a) (ihp : RCheckPC x.p) : RCheckC x := by
  intro w q1 q2 d hx hd0 hd8
  have hfit := hx.parts.1
  rw [chk_eq]
  cases hb : bareB x
  · rw [if_pos rfl]; exact rval_bare_o x d hb w q1 q2 hx hd0 hd8
  rw [if_neg (by simp)]
  by_cases hl : ¬ x.s.size ≤ 4096
  · rw [if_pos hl]; exact rval_long_o x d hb (show (4096 : Int) < (x.s.size : Int) by omega) w q1 q2 hx hd0 hd8
  rw [if_neg hl]
  have hl' : x.s.size ≤ 4096 := by omega
  obtain ⟨hbl, hbp⟩ := bare_parts hb
  by_cases k1 : x.k = 1
  · have f1 : (x.k == 1) = true := by rw [k1]; rfl
    have f5 : (x.k == 5) = false := by rw [k1]; rfl
    have f6 : (x.k == 6) = false := by rw [k1]; rfl
    cases hu : utf x.s
    · rw [if_pos ⟨k1, rfl⟩]; exact rval_utf_1 x d hb (show (x.s.size : Int) ≤ 4096 by omega) f1 f5 f6 hu w q1 q2 hx hd0 hd8
    rw [if_neg (by simp)]
    by_cases m1 : ¬ x.l.length ≤ 256
    · rw [if_pos m1]; exact rval_many1_1 x d hb (show (x.s.size : Int) ≤ 4096 by omega) f1 f5 f6 hu (show 256 < (x.l.length : Int) by omega) w q1 q2 hx hd0 hd8
    rw [if_neg m1]
    by_cases m2 : ¬ x.p.length ≤ 256
    · rw [if_pos m2]; exact rval_many2_1 x d hb (show (x.s.size : Int) ≤ 4096 by omega) f1 f5 f6 hu (show (x.l.length : Int) ≤ 256 by omega) (show 256 < (x.p.length : Int) by omega) w q1 q2 hx hd0 hd8
    rw [if_neg m2, if_neg (by rw [k1]; simp)]
    exact rval_main_1 x d hb (show (x.s.size : Int) ≤ 4096 by omega) f1 f5 f6 hu (show (x.l.length : Int) ≤ 256 by omega) (show (x.p.length : Int) ≤ 256 by omega) ihl ihp (fun h => by have := hbl h; omega) (fun h => by have := hbp h; omega) hfit.p1 _ (by exact rfl) w q1 q2 hx hd0 hd8
  · have f1 : (x.k == 1) = false := by simp [k1]
    rw [if_neg (fun h => k1 h.1)]
    by_cases k5 : x.k = 5
    · have f5 : (x.k == 5) = true := by rw [k5]; rfl
      by_cases m1 : ¬ x.l.length ≤ 256
      · rw [if_pos m1]; exact rval_many1_5 x d hb (show (x.s.size : Int) ≤ 4096 by omega) f1 f5 (show 256 < (x.l.length : Int) by omega) w q1 q2 hx hd0 hd8
      rw [if_neg m1]
      by_cases m2 : ¬ x.p.length ≤ 256
      · rw [if_pos m2]; exact rval_many2_5 x d hb (show (x.s.size : Int) ≤ 4096 by omega) f1 f5 (show (x.l.length : Int) ≤ 256 by omega) (show 256 < (x.p.length : Int) by omega) w q1 q2 hx hd0 hd8
      rw [if_neg m2]
      by_cases hd : d < 8
      · rw [if_neg (fun h => h.2 hd)]
        exact rval_main_5 x d hb (show (x.s.size : Int) ≤ 4096 by omega) f1 f5 (show (x.l.length : Int) ≤ 256 by omega) (show (x.p.length : Int) ≤ 256 by omega) hd ihl ihp (fun h => by omega) (fun h => by omega) hfit.p1 _ (by exact rfl) w q1 q2 hx hd0 hd8
      · rw [if_pos ⟨.inl k5, hd⟩]
        exact rval_depth_5 x d hb (show (x.s.size : Int) ≤ 4096 by omega) f1 f5 (show (x.l.length : Int) ≤ 256 by omega) (show (x.p.length : Int) ≤ 256 by omega) (show 8 ≤ d by omega) w q1 q2 hx hd0 hd8
    · have f5 : (x.k == 5) = false := by simp [k5]
      by_cases k6 : x.k = 6
      · have f6 : (x.k == 6) = true := by rw [k6]; rfl
        by_cases m1 : ¬ x.l.length ≤ 256
        · rw [if_pos m1]; exact rval_many1_6 x d hb (show (x.s.size : Int) ≤ 4096 by omega) f1 f5 f6 (show 256 < (x.l.length : Int) by omega) w q1 q2 hx hd0 hd8
        rw [if_neg m1]
        by_cases m2 : ¬ x.p.length ≤ 256
        · rw [if_pos m2]; exact rval_many2_6 x d hb (show (x.s.size : Int) ≤ 4096 by omega) f1 f5 f6 (show (x.l.length : Int) ≤ 256 by omega) (show 256 < (x.p.length : Int) by omega) w q1 q2 hx hd0 hd8
        rw [if_neg m2]
        by_cases hd : d < 8
        · rw [if_neg (fun h => h.2 hd)]
          exact rval_main_6 x d hb (show (x.s.size : Int) ≤ 4096 by omega) f1 f5 f6 (show (x.l.length : Int) ≤ 256 by omega) (show (x.p.length : Int) ≤ 256 by omega) hd ihl ihp (fun h => by omega) (fun h => by omega) hfit.p1 _ (by exact rfl) w q1 q2 hx hd0 hd8
        · rw [if_pos ⟨.inr k6, hd⟩]
          exact rval_depth_6 x d hb (show (x.s.size : Int) ≤ 4096 by omega) f1 f5 f6 (show (x.l.length : Int) ≤ 256 by omega) (show (x.p.length : Int) ≤ 256 by omega) (show 8 ≤ d by omega) w q1 q2 hx hd0 hd8
      · have f6 : (x.k == 6) = false := by simp [k6]
        by_cases m1 : ¬ x.l.length ≤ 256
        · rw [if_pos m1]; exact rval_many1_o x d hb (show (x.s.size : Int) ≤ 4096 by omega) f1 f5 f6 (show 256 < (x.l.length : Int) by omega) w q1 q2 hx hd0 hd8
        rw [if_neg m1]
        by_cases m2 : ¬ x.p.length ≤ 256
        · rw [if_pos m2]; exact rval_many2_o x d hb (show (x.s.size : Int) ≤ 4096 by omega) f1 f5 f6 (show (x.l.length : Int) ≤ 256 by omega) (show 256 < (x.p.length : Int) by omega) w q1 q2 hx hd0 hd8
        rw [if_neg m2, if_neg (fun h => h.1.elim k5 k6)]
        exact rval_main_o x d hb (show (x.s.size : Int) ≤ 4096 by omega) f1 f5 f6 (show (x.l.length : Int) ≤ 256 by omega) (show (x.p.length : Int) ≤ 256 by omega) ihl ihp (fun h => by have := hbl h; omega) (fun h => by have := hbp h; omega) hfit.p1 _ (by exact rfl) w q1 q2 hx hd0 hd8
theorem rval_sized : ∀ (n : Nat) (x : V), SizeOf.sizeOf x ≤ n → RCheckC x := by
  intro n
  induction n with
  | zero => intro x hx; cases x; simp only [V.mk.sizeOf_spec] at hx; omega
  | succ n ih =>
    intro x hx
    exact rval_step x (fun a ha => ih a (by have := V.size_l ha; omega)) (rpairs_of _ fun e he => ih e.2 (by have := V.size_p he; omega))
theorem rval_any (x : V) : RCheckC x := rval_sized _ x (Nat.le_refl _)
theorem rpairs_any (l : List (ByteArray × V)) : RCheckPC l := rpairs_of l fun e _ => rval_any e.2
end Go.Proofs.YtnnnnlcpmocnfaaDoor
