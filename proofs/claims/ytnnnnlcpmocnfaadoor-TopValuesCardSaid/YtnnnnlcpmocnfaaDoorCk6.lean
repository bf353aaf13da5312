/- THE LAW ValueHeld's checks, as data, WALKED. -/
import Derived.Test.YtnnnnlcpmocnfaaDoorCk4
import Derived.Test.YtnnnnlcpmocnfaaDoorCk5
import Derived.Outline
import Derived.WalkLawsBesides
import Derived.Deep.RegionLaw
import Derived.Deep.RegionHeld3
namespace Go.Proofs.YtnnnnlcpmocnfaaDoor
open Go.RowKit
set_option linter.unusedVariables false
set_option linter.unusedSimpArgs false
attribute [local go_sem] run_store_float


mutual
/-- why a value is not right that has so many lists and maps around it -/
noncomputable def chk : V → Int → Int
  | .mk k s b n f l p, d =>
    if bareB (.mk k s b n f l p) = false then 5 else if ¬ s.size ≤ 4096 then 4 else if k = 1 ∧ utf s = false then 12 else if ¬ l.length ≤ 256 then 3 else if ¬ p.length ≤ 256 then 3
    else if (k = 5 ∨ k = 6) ∧ ¬ d < 8 then 11 else if chkL l (d + 1) = 0 then (if chkP p (d + 1) = 0 then onceErr p else chkP p (d + 1)) else chkL l (d + 1)
noncomputable def chkL : List V → Int → Int
  | [], _ => 0
  | x :: l, d => if chk x d = 0 then chkL l d else chk x d
noncomputable def chkP : List (ByteArray × V) → Int → Int
  | [], _ => 0
  | (key, x) :: l, d => if keyErr key = 0 then (if chk x d = 0 then chkP l d else chk x d) else keyErr key
end
/-- of pairs -/
noncomputable def pairsErr (l : List (ByteArray × V)) (d : Int) : Int := if ¬ l.length ≤ 256 then 3 else if chkP l d = 0 then onceErr l else chkP l d
/-- of one pair -/
noncomputable def pairErr (key : ByteArray) (x : V) (d : Int) : Int := if keyErr key = 0 then chk x d else keyErr key
theorem chkL_cut : ∀ {l : List V} {d : Int} {k : Nat} {x : V}, l[k]? = some x → (∀ j y, j < k → l[j]? = some y → chk y d = 0) → chk x d ≠ 0 → chkL l d = chk x d := by
  intro l
  induction l with
  | nil => intro d k x h; simp at h
  | cons y l ih =>
    intro d k x h hall hx
    cases k with
    | zero => simp at h; subst h; rw [chkL, if_neg hx]
    | succ k =>
      rw [chkL, if_pos (hall 0 y (by omega) rfl)]
      exact ih (by simpa using h) (fun j z hj hz => hall (j + 1) z (by omega) (by simpa using hz)) hx
theorem chkL_ok {l : List V} {d : Int} (h : ∀ (j : Nat) y, l[j]? = some y → chk y d = 0) : chkL l d = 0 := by
  induction l with
  | nil => rw [chkL]
  | cons y l ih => rw [chkL, if_pos (h 0 y rfl)]; exact ih fun j z hz => h (j + 1) z (by simpa using hz)
theorem chkP_cut : ∀ {l : List (ByteArray × V)} {d : Int} {k : Nat} {x : ByteArray × V}, l[k]? = some x → (∀ j y, j < k → l[j]? = some y → pairErr y.1 y.2 d = 0) → pairErr x.1 x.2 d ≠ 0 → chkP l d = pairErr x.1 x.2 d := by
  intro l
  induction l with
  | nil => intro d k x h; simp at h
  | cons y l ih =>
    intro d k x h hall hx
    obtain ⟨ky, v⟩ := y
    cases k with
    | zero =>
      simp at h; subst h
      unfold pairErr at hx ⊢
      dsimp only at hx ⊢
      rw [chkP]
      by_cases hk : keyErr ky = 0
      · rw [if_pos hk] at hx ⊢
        rw [if_neg hx, if_pos hk]
      · rw [if_neg hk, if_neg hk]
    | succ k =>
      have h0 := hall 0 (ky, v) (by omega) rfl
      unfold pairErr at h0
      dsimp only at h0
      by_cases hk : keyErr ky = 0
      · rw [if_pos hk] at h0
        rw [chkP, if_pos hk, if_pos h0]
        exact ih (by simpa using h) (fun j z hj hz => hall (j + 1) z (by omega) (by simpa using hz)) hx
      · rw [if_neg hk] at h0; exact absurd h0 hk
theorem chkP_ok {l : List (ByteArray × V)} {d : Int} (h : ∀ (j : Nat) y, l[j]? = some y → pairErr y.1 y.2 d = 0) : chkP l d = 0 := by
  induction l with
  | nil => rw [chkP]
  | cons y l ih =>
    obtain ⟨ky, v⟩ := y
    have h0 := h 0 (ky, v) rfl
    unfold pairErr at h0
    dsimp only at h0
    by_cases hk : keyErr ky = 0
    · rw [if_pos hk] at h0
      rw [chkP, if_pos hk, if_pos h0]
      exact ih fun j z hz => h (j + 1) z (by simpa using hz)
    · rw [if_neg hk] at h0; exact absurd h0 hk

def CheckC (x : V) : Prop := ∀ (w : World) (q1 q2 : Value) (d : Int), Tabs w → Rep Any w q1 q2 x → 0 ≤ d → d ≤ 8 → Calls Tryd.prog 53 #[.agg (cv x q1 q2), .int .i64 d] w (Chk (chk x d) w)
def CheckPC (l : List (ByteArray × V)) : Prop := ∀ (w : World) (q : Value) (d : Int), Tabs w → RepP Any w q l → l.length * 112 ≤ 140737488353000 → 0 ≤ d → d ≤ 9 → (l ≠ [] → d ≤ 8) → Calls Tryd.prog 56 #[q, .int .i64 d] w (Chk (pairsErr l d) w)
end Go.Proofs.YtnnnnlcpmocnfaaDoor
