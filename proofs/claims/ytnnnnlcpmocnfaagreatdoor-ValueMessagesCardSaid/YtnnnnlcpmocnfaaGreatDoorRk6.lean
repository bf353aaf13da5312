/- THE LAW ValueHeld: the document's check at any value, WALKED. -/
import Derived.Test.YtnnnnlcpmocnfaaGreatDoorRk4
import Derived.Test.YtnnnnlcpmocnfaaGreatDoorCk10
import Derived.Outline
import Derived.WalkLawsBesides
import Derived.Deep.RegionLaw
import Derived.Deep.RegionHeld3
namespace Go.Proofs.YtnnnnlcpmocnfaaGreatDoor
open Go.RowKit
set_option linter.unusedVariables false
set_option linter.unusedSimpArgs false
attribute [local go_sem] run_store_float

theorem rval_step (x : V) (ihl : ∀ a, a ∈ x.l → RCheckC a) (ihp : RCheckPC x.p) : RCheckC x := by
  intro w q1 q2 d hx hd0 hd8
  have hfit := hx.parts.1
  rw [chk_eq]
  cases hb : bareB x
  · rw [if_pos rfl]; exact rval_bare_o x d hb w q1 q2 hx hd0 hd8
  rw [if_neg (by simp)]
  by_cases hl : ¬ x.s.size ≤ 4096
  · rw [if_pos hl]; exact rval_long_o x d hb (show (4096 : Int) < (x.s.size : Int) by omega) w q1 q2 hx hd0 hd8
  rw [if_neg hl]
  have hl' : x.s.size ≤ 4096 := by omega
  obtain ⟨hbl, hbp⟩ := bare_parts hb
  by_cases k1 : x.k = 1
  · have f1 : (x.k == 1) = true := by rw [k1]; rfl
    have f5 : (x.k == 5) = false := by rw [k1]; rfl
    have f6 : (x.k == 6) = false := by rw [k1]; rfl
    cases hu : utf x.s
    · rw [if_pos ⟨k1, rfl⟩]; exact rval_utf_1 x d hb (show (x.s.size : Int) ≤ 4096 by omega) f1 f5 f6 hu w q1 q2 hx hd0 hd8
    rw [if_neg (by simp)]
    by_cases m1 : ¬ x.l.length ≤ 256
    · rw [if_pos m1]; exact rval_many1_1 x d hb (show (x.s.size : Int) ≤ 4096 by omega) f1 f5 f6 hu (show 256 < (x.l.length : Int) by omega) w q1 q2 hx hd0 hd8
    rw [if_neg m1]
    by_cases m2 : ¬ x.p.length ≤ 256
    · rw [if_pos m2]; exact rval_many2_1 x d hb (show (x.s.size : Int) ≤ 4096 by omega) f1 f5 f6 hu (show (x.l.length : Int) ≤ 256 by omega) (show 256 < (x.p.length : Int) by omega) w q1 q2 hx hd0 hd8
    rw [if_neg m2, if_neg (by rw [k1]; simp)]
    exact rval_main_1 x d hb (show (x.s.size : Int) ≤ 4096 by omega) f1 f5 f6 hu (show (x.l.length : Int) ≤ 256 by omega) (show (x.p.length : Int) ≤ 256 by omega) ihl ihp (fun h => by have := hbl h; omega) (fun h => by have := hbp h; omega) hfit.p1 _ (by exact rfl) w q1 q2 hx hd0 hd8
  · have f1 : (x.k == 1) = false := by simp [k1]
    rw [if_neg (fun h => k1 h.1)]
    by_cases k5 : x.k = 5
    · have f5 : (x.k == 5) = true := by rw [k5]; rfl
      by_cases m1 : ¬ x.l.length ≤ 256
      · rw [if_pos m1]; exact rval_many1_5 x d hb (show (x.s.size : Int) ≤ 4096 by omega) f1 f5 (show 256 < (x.l.length : Int) by omega) w q1 q2 hx hd0 hd8
      rw [if_neg m1]
      by_cases m2 : ¬ x.p.length ≤ 256
      · rw [if_pos m2]; exact rval_many2_5 x d hb (show (x.s.size : Int) ≤ 4096 by omega) f1 f5 (show (x.l.length : Int) ≤ 256 by omega) (show 256 < (x.p.length : Int) by omega) w q1 q2 hx hd0 hd8
      rw [if_neg m2]
      by_cases hd : d < 8
      · rw [if_neg (fun h => h.2 hd)]
        exact rval_main_5 x d hb (show (x.s.size : Int) ≤ 4096 by omega) f1 f5 (show (x.l.length : Int) ≤ 256 by omega) (show (x.p.length : Int) ≤ 256 by omega) hd ihl ihp (fun h => by omega) (fun h => by omega) hfit.p1 _ (by exact rfl) w q1 q2 hx hd0 hd8
      · rw [if_pos ⟨.inl k5, hd⟩]
        exact rval_depth_5 x d hb (show (x.s.size : Int) ≤ 4096 by omega) f1 f5 (show (x.l.length : Int) ≤ 256 by omega) (show (x.p.length : Int) ≤ 256 by omega) (show 8 ≤ d by omega) w q1 q2 hx hd0 hd8
    · have f5 : (x.k == 5) = false := by simp [k5]
      by_cases k6 : x.k = 6
      · have f6 : (x.k == 6) = true := by rw [k6]; rfl
        by_cases m1 : ¬ x.l.length ≤ 256
        · rw [if_pos m1]; exact rval_many1_6 x d hb (show (x.s.size : Int) ≤ 4096 by omega) f1 f5 f6 (show 256 < (x.l.length : Int) by omega) w q1 q2 hx hd0 hd8
        rw [if_neg m1]
        by_cases m2 : ¬ x.p.length ≤ 256
        · rw [if_pos m2]; exact rval_many2_6 x d hb (show (x.s.size : Int) ≤ 4096 by omega) f1 f5 f6 (show (x.l.length : Int) ≤ 256 by omega) (show 256 < (x.p.length : Int) by omega) w q1 q2 hx hd0 hd8
        rw [if_neg m2]
        by_cases hd : d < 8
        · rw [if_neg (fun h => h.2 hd)]
          exact rval_main_6 x d hb (show (x.s.size : Int) ≤ 4096 by omega) f1 f5 f6 (show (x.l.length : Int) ≤ 256 by omega) (show (x.p.length : Int) ≤ 256 by omega) hd ihl ihp (fun h => by omega) (fun h => by omega) hfit.p1 _ (by exact rfl) w q1 q2 hx hd0 hd8
        · rw [if_pos ⟨.inr k6, hd⟩]
          exact rval_depth_6 x d hb (show (x.s.size : Int) ≤ 4096 by omega) f1 f5 f6 (show (x.l.length : Int) ≤ 256 by omega) (show (x.p.length : Int) ≤ 256 by omega) (show 8 ≤ d by omega) w q1 q2 hx hd0 hd8
      · have f6 : (x.k == 6) = false := by simp [k6]
        by_cases m1 : ¬ x.l.length ≤ 256
        · rw [if_pos m1]; exact rval_many1_o x d hb (show (x.s.size : Int) ≤ 4096 by omega) f1 f5 f6 (show 256 < (x.l.length : Int) by omega) w q1 q2 hx hd0 hd8
        rw [if_neg m1]
        by_cases m2 : ¬ x.p.length ≤ 256
        · rw [if_pos m2]; exact rval_many2_o x d hb (show (x.s.size : Int) ≤ 4096 by omega) f1 f5 f6 (show (x.l.length : Int) ≤ 256 by omega) (show 256 < (x.p.length : Int) by omega) w q1 q2 hx hd0 hd8
        rw [if_neg m2, if_neg (fun h => h.1.elim k5 k6)]
        exact rval_main_o x d hb (show (x.s.size : Int) ≤ 4096 by omega) f1 f5 f6 (show (x.l.length : Int) ≤ 256 by omega) (show (x.p.length : Int) ≤ 256 by omega) ihl ihp (fun h => by have := hbl h; omega) (fun h => by have := hbp h; omega) hfit.p1 _ (by exact rfl) w q1 q2 hx hd0 hd8
theorem rval_sized : ∀ (n : Nat) (x : V), SizeOf.sizeOf x ≤ n → RCheckC x := by
  intro n
  induction n with
  | zero => intro x hx; cases x; simp only [V.mk.sizeOf_spec] at hx; omega
  | succ n ih =>
    intro x hx
    exact rval_step x (fun a ha => ih a (by have := V.size_l ha; omega)) (rpairs_of _ fun e he => ih e.2 (by have := V.size_p he; omega))
theorem rval_any (x : V) : RCheckC x := rval_sized _ x (Nat.le_refl _)
theorem rpairs_any (l : List (ByteArray × V)) : RCheckPC l := rpairs_of l fun e _ => rval_any e.2
end Go.Proofs.YtnnnnlcpmocnfaaGreatDoor

/- THE LAW ValueHeld: THE DOCUMENT'S Check AND CheckPairs. -/
namespace Go.Proofs.YtnnnnlcpmocnfaaGreatDoor
open Go.RowKit
set_option linter.unusedVariables false
set_option maxRecDepth 100000 in
theorem rcheck_any (x : V) (w : World) (q1 q2 : Value) (hx : Rep Any w q1 q2 x) : Calls Tryz.prog 20 #[.agg (cv x q1 q2)] w (RChk (chk x 0) w) := by
  obtain ⟨a1, c1, rfl, _⟩ := hx.parts.2.1.form
  obtain ⟨a2, c2, rfl, _⟩ := hx.parts.2.2.form
  obtain ⟨W0, hW0⟩ : ∃ W0, W0 = w.alloc (.cells (cv x (.slice a1 x.l.length c1) (.slice a2 x.p.length c2)) 27) := ⟨_, rfl⟩
  have hb0 : Below w.heap.size w W0 := by rw [hW0]; exact al w _
  have Hc := Lib.hid (rval_any x W0 _ _ 0 (hx.under hb0) (by omega) (by omega))
  have Bx0 := Lib.hid (show Box W0 w.heap.size x _ _ by rw [hW0]; exact Box.new w x (.slice a1 x.l.length c1) (.slice a2 x.p.length c2))
  have HW0 := Lib.hid hW0
  have Hb0 := Lib.hid hb0
  clear hW0 hb0 hx
  obtain ⟨k0, k1, k2, k3, k4, k5, k6⟩ := Bx0.out.at
  go_enter Tryz.func20, Tryz.ntmps20
  go_wp2_with fail
  rw [← HW0.out]
  refine (Hc.out).mono ?_
  rintro e w1 ⟨rfl, hb1⟩
  go_wp2
  go_ret
  exact ⟨rfl, Hb0.out.trans (hb1.mono Hb0.out.size)⟩
set_option maxRecDepth 100000 in
theorem rcheckp_any (l : List (ByteArray × V)) (w : World) (q : Value) (hq : RepP Any w q l) (h112 : l.length * 112 ≤ 140737488353000) : Calls Tryz.prog 28 #[q] w (RChk (pairsErr l 0) w) := by
  obtain ⟨a, c, rfl, _⟩ := hq.form
  unfold pairsErr
  by_cases hm : l.length ≤ 256
  · rw [if_neg (by omega)]
    have Hc := Lib.hid (rpairs_any l w _ 0 hq h112 (by omega) (by omega) (fun _ => by omega))
    unfold prsErr at Hc
    generalize (if chkP l 0 = 0 then onceErr l else chkP l 0) = R at Hc ⊢
    have hm' : (l.length : Int) ≤ 256 := by omega
    clear hq
    go_enter Tryz.func28, Tryz.ntmps28
    go_wp2_with fail
    refine (Hc.out).mono ?_
    rintro e w1 ⟨rfl, hb1⟩
    go_wp2
    go_ret
    exact ⟨rfl, hb1⟩
  · rw [if_pos hm]
    have hm' : 256 < (l.length : Int) := by omega
    clear hq
    go_enter Tryz.func28, Tryz.ntmps28
    go_wp2
    go_ret
    exact ⟨rfl, Below.refl _ _⟩
end Go.Proofs.YtnnnnlcpmocnfaaGreatDoor
