/- THE LAW ValueHeld: THE DOCUMENT'S Check AND CheckPairs. -/
import Derived.Test.YtnnnnlcpmocnfaaDoorRk5
import Derived.Outline
import Derived.WalkLawsBesides
namespace Go.Proofs.YtnnnnlcpmocnfaaDoor
open Go.RowKit
set_option linter.unusedVariables false
set_option maxRecDepth 100000 in
theorem rcheck_any (x : V) (w : World) (q1 q2 : Value) (hx : Rep Any w q1 q2 x) : Calls Tryd.prog 17 #[.agg (cv x q1 q2)] w (RChk (chk x 0) w) := by
  obtain ⟨a1, c1, rfl, _⟩ := hx.parts.2.1.form
  obtain ⟨a2, c2, rfl, _⟩ := hx.parts.2.2.form
  obtain ⟨W0, hW0⟩ : ∃ W0, W0 = w.alloc (.cells (cv x (.slice a1 x.l.length c1) (.slice a2 x.p.length c2)) 27) := ⟨_, rfl⟩
  have hb0 : Below w.heap.size w W0 := by rw [hW0]; exact al w _
  have Hc := Lib.hid (rval_any x W0 _ _ 0 (hx.under hb0) (by omega) (by omega))
  have Bx0 := Lib.hid (show Box W0 w.heap.size x _ _ by rw [hW0]; exact Box.new w x (.slice a1 x.l.length c1) (.slice a2 x.p.length c2))
  have HW0 := Lib.hid hW0
  have Hb0 := Lib.hid hb0
  clear hW0 hb0 hx
  obtain ⟨k0, k1, k2, k3, k4, k5, k6⟩ := Bx0.out.at
  go_enter Tryd.func17, Tryd.ntmps17
  go_wp2_with fail
  rw [← HW0.out]
  refine (Hc.out).mono ?_
  rintro e w1 ⟨rfl, hb1⟩
  go_wp2
  go_ret
  exact ⟨rfl, Hb0.out.trans (hb1.mono Hb0.out.size)⟩
set_option maxRecDepth 100000 in
theorem rcheckp_any (l : List (ByteArray × V)) (w : World) (q : Value) (hq : RepP Any w q l) (h112 : l.length * 112 ≤ 140737488353000) : Calls Tryd.prog 19 #[q] w (RChk (pairsErr l 0) w) := by
  obtain ⟨a, c, rfl, _⟩ := hq.form
  unfold pairsErr
  by_cases hm : l.length ≤ 256
  · rw [if_neg (by omega)]
    have Hc := Lib.hid (rpairs_any l w _ 0 hq h112 (by omega) (by omega) (fun _ => by omega))
    unfold prsErr at Hc
    generalize (if chkP l 0 = 0 then onceErr l else chkP l 0) = R at Hc ⊢
    have hm' : (l.length : Int) ≤ 256 := by omega
    clear hq
    go_enter Tryd.func19, Tryd.ntmps19
    go_wp2_with fail
    refine (Hc.out).mono ?_
    rintro e w1 ⟨rfl, hb1⟩
    go_wp2
    go_ret
    exact ⟨rfl, hb1⟩
  · rw [if_pos hm]
    have hm' : 256 < (l.length : Int) := by omega
    clear hq
    go_enter Tryd.func19, Tryd.ntmps19
    go_wp2
    go_ret
    exact ⟨rfl, Below.refl _ _⟩
end Go.Proofs.YtnnnnlcpmocnfaaDoor
