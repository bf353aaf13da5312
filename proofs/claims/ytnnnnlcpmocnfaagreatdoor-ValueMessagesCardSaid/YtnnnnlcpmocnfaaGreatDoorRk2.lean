/- THE LAW ValueHeld: the document's check, its early ends, WALKED. -/
import Derived.Test.YtnnnnlcpmocnfaaGreatDoorLaw0
import Derived.Test.YtnnnnlcpmocnfaaGreatDoorUt2
import Derived.Test.YtnnnnlcpmocnfaaGreatDoorCk6
import Derived.Outline
import Derived.WalkLawsBesides
import Derived.Deep.RegionLaw
import Derived.Deep.RegionHeld3
namespace Go.Proofs.YtnnnnlcpmocnfaaGreatDoor
open Go.RowKit
set_option linter.unusedVariables false
set_option linter.unusedSimpArgs false
attribute [local go_sem] run_store_float


/-- what the document's check answers -/
def RChk (c : Int) (w : World) (e : Ending) (w' : World) : Prop := e = .returned (.int .i64 c) ∧ Below w.heap.size w w'
set_option maxRecDepth 100000 in
theorem rval_bare_o (x : V) (d : Int) (hbare : bareB x = false) (w : World) (q1 q2 : Value) (hx : Rep Any w q1 q2 x) (hd0 : 0 ≤ d) (hd8 : d ≤ 8) :
    Calls Tryz.prog 54 #[.agg (cv x q1 q2), .int .i64 d] w (RChk 5 w) := by
  obtain ⟨a1, c1, rfl, _⟩ := hx.parts.2.1.form
  obtain ⟨a2, c2, rfl, _⟩ := hx.parts.2.2.form
  have hfit := hx.parts.1
  obtain ⟨W0, hW0⟩ : ∃ W0, W0 = w.alloc (.cells (cv x (.slice a1 x.l.length c1) (.slice a2 x.p.length c2)) 27) := ⟨_, rfl⟩
  have hb0 : Below w.heap.size w W0 := by rw [hW0]; exact al w _
  have Hbare := Lib.hid (zero_any x hfit c1 c2 a1 a2 W0)
  rw [hbare] at Hbare
  have Hs := Lib.hid hfit.s1
  have Bx0 := Lib.hid (show Box W0 w.heap.size x _ _ by rw [hW0]; exact Box.new w x (.slice a1 x.l.length c1) (.slice a2 x.p.length c2))
  have HW0 := Lib.hid hW0
  have Hbel0 := Lib.hid hb0
  clear hW0 hb0 hx hbare hfit
  obtain ⟨k0, k1, k2, k3, k4, k5, k6⟩ := Bx0.out.at
  go_enter Tryz.func54, Tryz.ntmps54
  go_wp2_with fail
  rw [← HW0.out]
  refine (Hbare.out).mono ?_
  rintro e W1 ⟨rfl, hw1⟩
  have hb1 : Below W0.heap.size W0 W1 := by rw [← hw1]; exact al _ _
  clear k0 k1 k2 k3 k4 k5 k6 hw1
  have Bx1 := Lib.hid (Bx0.out.under hb1)
  have Hbel1 := Lib.hid (Hbel0.out.trans (hb1.mono Hbel0.out.size))
  clear Bx0 Hbel0 hb1
  obtain ⟨k0, k1, k2, k3, k4, k5, k6⟩ := Bx1.out.at
  go_wp2
  all_goals (go_ret; exact ⟨rfl, Hbel1.out⟩)
set_option maxRecDepth 100000 in
theorem rval_long_o (x : V) (d : Int) (hbare : bareB x = true) (Hlong : Go.RowKit.Hid ((4096 : Int) < (x.s.size : Int))) (w : World) (q1 q2 : Value) (hx : Rep Any w q1 q2 x) (hd0 : 0 ≤ d) (hd8 : d ≤ 8) :
    Calls Tryz.prog 54 #[.agg (cv x q1 q2), .int .i64 d] w (RChk 4 w) := by
  obtain ⟨a1, c1, rfl, _⟩ := hx.parts.2.1.form
  obtain ⟨a2, c2, rfl, _⟩ := hx.parts.2.2.form
  have hfit := hx.parts.1
  obtain ⟨W0, hW0⟩ : ∃ W0, W0 = w.alloc (.cells (cv x (.slice a1 x.l.length c1) (.slice a2 x.p.length c2)) 27) := ⟨_, rfl⟩
  have hb0 : Below w.heap.size w W0 := by rw [hW0]; exact al w _
  have Hbare := Lib.hid (zero_any x hfit c1 c2 a1 a2 W0)
  rw [hbare] at Hbare
  have Hs := Lib.hid hfit.s1
  have Bx0 := Lib.hid (show Box W0 w.heap.size x _ _ by rw [hW0]; exact Box.new w x (.slice a1 x.l.length c1) (.slice a2 x.p.length c2))
  have HW0 := Lib.hid hW0
  have Hbel0 := Lib.hid hb0
  clear hW0 hb0 hx hbare hfit
  obtain ⟨k0, k1, k2, k3, k4, k5, k6⟩ := Bx0.out.at
  go_enter Tryz.func54, Tryz.ntmps54
  go_wp2_with fail
  rw [← HW0.out]
  refine (Hbare.out).mono ?_
  rintro e W1 ⟨rfl, hw1⟩
  have hb1 : Below W0.heap.size W0 W1 := by rw [← hw1]; exact al _ _
  clear k0 k1 k2 k3 k4 k5 k6 hw1
  have Bx1 := Lib.hid (Bx0.out.under hb1)
  have Hbel1 := Lib.hid (Hbel0.out.trans (hb1.mono Hbel0.out.size))
  clear Bx0 Hbel0 hb1
  obtain ⟨k0, k1, k2, k3, k4, k5, k6⟩ := Bx1.out.at
  have hlong := Hlong.out
  go_wp2
  all_goals (go_ret; exact ⟨rfl, Hbel1.out⟩)
set_option maxRecDepth 100000 in
theorem rval_utf_1 (x : V) (d : Int) (hbare : bareB x = true) (Hlong : Go.RowKit.Hid ((x.s.size : Int) ≤ 4096)) (hk1 : (x.k == 1) = true) (hk5 : (x.k == 5) = false) (hk6 : (x.k == 6) = false) (Hutf : Go.RowKit.Hid (utf x.s = false)) (w : World) (q1 q2 : Value) (hx : Rep Any w q1 q2 x) (hd0 : 0 ≤ d) (hd8 : d ≤ 8) :
    Calls Tryz.prog 54 #[.agg (cv x q1 q2), .int .i64 d] w (RChk 12 w) := by
  obtain ⟨a1, c1, rfl, _⟩ := hx.parts.2.1.form
  obtain ⟨a2, c2, rfl, _⟩ := hx.parts.2.2.form
  have hfit := hx.parts.1
  obtain ⟨W0, hW0⟩ : ∃ W0, W0 = w.alloc (.cells (cv x (.slice a1 x.l.length c1) (.slice a2 x.p.length c2)) 27) := ⟨_, rfl⟩
  have hb0 : Below w.heap.size w W0 := by rw [hW0]; exact al w _
  have Hbare := Lib.hid (zero_any x hfit c1 c2 a1 a2 W0)
  rw [hbare] at Hbare
  have Hs := Lib.hid hfit.s1
  have Bx0 := Lib.hid (show Box W0 w.heap.size x _ _ by rw [hW0]; exact Box.new w x (.slice a1 x.l.length c1) (.slice a2 x.p.length c2))
  have HW0 := Lib.hid hW0
  have Hbel0 := Lib.hid hb0
  clear hW0 hb0 hx hbare hfit
  obtain ⟨k0, k1, k2, k3, k4, k5, k6⟩ := Bx0.out.at
  go_enter Tryz.func54, Tryz.ntmps54
  go_wp2_with fail
  rw [← HW0.out]
  refine (Hbare.out).mono ?_
  rintro e W1 ⟨rfl, hw1⟩
  have hb1 : Below W0.heap.size W0 W1 := by rw [← hw1]; exact al _ _
  clear k0 k1 k2 k3 k4 k5 k6 hw1
  have Bx1 := Lib.hid (Bx0.out.under hb1)
  have Hbel1 := Lib.hid (Hbel0.out.trans (hb1.mono Hbel0.out.size))
  clear Bx0 Hbel0 hb1
  obtain ⟨k0, k1, k2, k3, k4, k5, k6⟩ := Bx1.out.at
  have hlong := Hlong.out
  go_wp2_with fail
  refine (utf_is x.s W1 Hs.out).mono ?_
  rw [Hutf.out]
  rintro e W2 ⟨rfl, hb2⟩
  clear k0 k1 k2 k3 k4 k5 k6
  have Bx2 := Lib.hid (Bx1.out.under hb2)
  have Hbel2 := Lib.hid (Hbel1.out.trans (hb2.mono Hbel1.out.size))
  clear Bx1 Hbel1 hb2
  obtain ⟨k0, k1, k2, k3, k4, k5, k6⟩ := Bx2.out.at
  go_wp2
  all_goals (go_ret; exact ⟨rfl, Hbel2.out⟩)
set_option maxRecDepth 100000 in
theorem rval_many1_1 (x : V) (d : Int) (hbare : bareB x = true) (Hlong : Go.RowKit.Hid ((x.s.size : Int) ≤ 4096)) (hk1 : (x.k == 1) = true) (hk5 : (x.k == 5) = false) (hk6 : (x.k == 6) = false) (Hutf : Go.RowKit.Hid (utf x.s = true)) (Hm1 : Go.RowKit.Hid (256 < (x.l.length : Int))) (w : World) (q1 q2 : Value) (hx : Rep Any w q1 q2 x) (hd0 : 0 ≤ d) (hd8 : d ≤ 8) :
    Calls Tryz.prog 54 #[.agg (cv x q1 q2), .int .i64 d] w (RChk 3 w) := by
  obtain ⟨a1, c1, rfl, _⟩ := hx.parts.2.1.form
  obtain ⟨a2, c2, rfl, _⟩ := hx.parts.2.2.form
  have hfit := hx.parts.1
  obtain ⟨W0, hW0⟩ : ∃ W0, W0 = w.alloc (.cells (cv x (.slice a1 x.l.length c1) (.slice a2 x.p.length c2)) 27) := ⟨_, rfl⟩
  have hb0 : Below w.heap.size w W0 := by rw [hW0]; exact al w _
  have Hbare := Lib.hid (zero_any x hfit c1 c2 a1 a2 W0)
  rw [hbare] at Hbare
  have Hs := Lib.hid hfit.s1
  have Bx0 := Lib.hid (show Box W0 w.heap.size x _ _ by rw [hW0]; exact Box.new w x (.slice a1 x.l.length c1) (.slice a2 x.p.length c2))
  have HW0 := Lib.hid hW0
  have Hbel0 := Lib.hid hb0
  clear hW0 hb0 hx hbare hfit
  obtain ⟨k0, k1, k2, k3, k4, k5, k6⟩ := Bx0.out.at
  go_enter Tryz.func54, Tryz.ntmps54
  go_wp2_with fail
  rw [← HW0.out]
  refine (Hbare.out).mono ?_
  rintro e W1 ⟨rfl, hw1⟩
  have hb1 : Below W0.heap.size W0 W1 := by rw [← hw1]; exact al _ _
  clear k0 k1 k2 k3 k4 k5 k6 hw1
  have Bx1 := Lib.hid (Bx0.out.under hb1)
  have Hbel1 := Lib.hid (Hbel0.out.trans (hb1.mono Hbel0.out.size))
  clear Bx0 Hbel0 hb1
  obtain ⟨k0, k1, k2, k3, k4, k5, k6⟩ := Bx1.out.at
  have hlong := Hlong.out
  go_wp2_with fail
  refine (utf_is x.s W1 Hs.out).mono ?_
  rw [Hutf.out]
  rintro e W2 ⟨rfl, hb2⟩
  clear k0 k1 k2 k3 k4 k5 k6
  have Bx2 := Lib.hid (Bx1.out.under hb2)
  have Hbel2 := Lib.hid (Hbel1.out.trans (hb2.mono Hbel1.out.size))
  clear Bx1 Hbel1 hb2
  obtain ⟨k0, k1, k2, k3, k4, k5, k6⟩ := Bx2.out.at
  have hm1 := Hm1.out
  go_wp2
  all_goals (go_ret; exact ⟨rfl, Hbel2.out⟩)
set_option maxRecDepth 100000 in
theorem rval_many1_5 (x : V) (d : Int) (hbare : bareB x = true) (Hlong : Go.RowKit.Hid ((x.s.size : Int) ≤ 4096)) (hk1 : (x.k == 1) = false) (hk5 : (x.k == 5) = true) (Hm1 : Go.RowKit.Hid (256 < (x.l.length : Int))) (w : World) (q1 q2 : Value) (hx : Rep Any w q1 q2 x) (hd0 : 0 ≤ d) (hd8 : d ≤ 8) :
    Calls Tryz.prog 54 #[.agg (cv x q1 q2), .int .i64 d] w (RChk 3 w) := by
  obtain ⟨a1, c1, rfl, _⟩ := hx.parts.2.1.form
  obtain ⟨a2, c2, rfl, _⟩ := hx.parts.2.2.form
  have hfit := hx.parts.1
  obtain ⟨W0, hW0⟩ : ∃ W0, W0 = w.alloc (.cells (cv x (.slice a1 x.l.length c1) (.slice a2 x.p.length c2)) 27) := ⟨_, rfl⟩
  have hb0 : Below w.heap.size w W0 := by rw [hW0]; exact al w _
  have Hbare := Lib.hid (zero_any x hfit c1 c2 a1 a2 W0)
  rw [hbare] at Hbare
  have Hs := Lib.hid hfit.s1
  have Bx0 := Lib.hid (show Box W0 w.heap.size x _ _ by rw [hW0]; exact Box.new w x (.slice a1 x.l.length c1) (.slice a2 x.p.length c2))
  have HW0 := Lib.hid hW0
  have Hbel0 := Lib.hid hb0
  clear hW0 hb0 hx hbare hfit
  obtain ⟨k0, k1, k2, k3, k4, k5, k6⟩ := Bx0.out.at
  go_enter Tryz.func54, Tryz.ntmps54
  go_wp2_with fail
  rw [← HW0.out]
  refine (Hbare.out).mono ?_
  rintro e W1 ⟨rfl, hw1⟩
  have hb1 : Below W0.heap.size W0 W1 := by rw [← hw1]; exact al _ _
  clear k0 k1 k2 k3 k4 k5 k6 hw1
  have Bx1 := Lib.hid (Bx0.out.under hb1)
  have Hbel1 := Lib.hid (Hbel0.out.trans (hb1.mono Hbel0.out.size))
  clear Bx0 Hbel0 hb1
  obtain ⟨k0, k1, k2, k3, k4, k5, k6⟩ := Bx1.out.at
  have hlong := Hlong.out
  have hm1 := Hm1.out
  go_wp2
  all_goals (go_ret; exact ⟨rfl, Hbel1.out⟩)
set_option maxRecDepth 100000 in
theorem rval_many1_6 (x : V) (d : Int) (hbare : bareB x = true) (Hlong : Go.RowKit.Hid ((x.s.size : Int) ≤ 4096)) (hk1 : (x.k == 1) = false) (hk5 : (x.k == 5) = false) (hk6 : (x.k == 6) = true) (Hm1 : Go.RowKit.Hid (256 < (x.l.length : Int))) (w : World) (q1 q2 : Value) (hx : Rep Any w q1 q2 x) (hd0 : 0 ≤ d) (hd8 : d ≤ 8) :
    Calls Tryz.prog 54 #[.agg (cv x q1 q2), .int .i64 d] w (RChk 3 w) := by
  obtain ⟨a1, c1, rfl, _⟩ := hx.parts.2.1.form
  obtain ⟨a2, c2, rfl, _⟩ := hx.parts.2.2.form
  have hfit := hx.parts.1
  obtain ⟨W0, hW0⟩ : ∃ W0, W0 = w.alloc (.cells (cv x (.slice a1 x.l.length c1) (.slice a2 x.p.length c2)) 27) := ⟨_, rfl⟩
  have hb0 : Below w.heap.size w W0 := by rw [hW0]; exact al w _
  have Hbare := Lib.hid (zero_any x hfit c1 c2 a1 a2 W0)
  rw [hbare] at Hbare
  have Hs := Lib.hid hfit.s1
  have Bx0 := Lib.hid (show Box W0 w.heap.size x _ _ by rw [hW0]; exact Box.new w x (.slice a1 x.l.length c1) (.slice a2 x.p.length c2))
  have HW0 := Lib.hid hW0
  have Hbel0 := Lib.hid hb0
  clear hW0 hb0 hx hbare hfit
  obtain ⟨k0, k1, k2, k3, k4, k5, k6⟩ := Bx0.out.at
  go_enter Tryz.func54, Tryz.ntmps54
  go_wp2_with fail
  rw [← HW0.out]
  refine (Hbare.out).mono ?_
  rintro e W1 ⟨rfl, hw1⟩
  have hb1 : Below W0.heap.size W0 W1 := by rw [← hw1]; exact al _ _
  clear k0 k1 k2 k3 k4 k5 k6 hw1
  have Bx1 := Lib.hid (Bx0.out.under hb1)
  have Hbel1 := Lib.hid (Hbel0.out.trans (hb1.mono Hbel0.out.size))
  clear Bx0 Hbel0 hb1
  obtain ⟨k0, k1, k2, k3, k4, k5, k6⟩ := Bx1.out.at
  have hlong := Hlong.out
  have hm1 := Hm1.out
  go_wp2
  all_goals (go_ret; exact ⟨rfl, Hbel1.out⟩)
set_option maxRecDepth 100000 in
theorem rval_many1_o (x : V) (d : Int) (hbare : bareB x = true) (Hlong : Go.RowKit.Hid ((x.s.size : Int) ≤ 4096)) (hk1 : (x.k == 1) = false) (hk5 : (x.k == 5) = false) (hk6 : (x.k == 6) = false) (Hm1 : Go.RowKit.Hid (256 < (x.l.length : Int))) (w : World) (q1 q2 : Value) (hx : Rep Any w q1 q2 x) (hd0 : 0 ≤ d) (hd8 : d ≤ 8) :
    Calls Tryz.prog 54 #[.agg (cv x q1 q2), .int .i64 d] w (RChk 3 w) := by
  obtain ⟨a1, c1, rfl, _⟩ := hx.parts.2.1.form
  obtain ⟨a2, c2, rfl, _⟩ := hx.parts.2.2.form
  have hfit := hx.parts.1
  obtain ⟨W0, hW0⟩ : ∃ W0, W0 = w.alloc (.cells (cv x (.slice a1 x.l.length c1) (.slice a2 x.p.length c2)) 27) := ⟨_, rfl⟩
  have hb0 : Below w.heap.size w W0 := by rw [hW0]; exact al w _
  have Hbare := Lib.hid (zero_any x hfit c1 c2 a1 a2 W0)
  rw [hbare] at Hbare
  have Hs := Lib.hid hfit.s1
  have Bx0 := Lib.hid (show Box W0 w.heap.size x _ _ by rw [hW0]; exact Box.new w x (.slice a1 x.l.length c1) (.slice a2 x.p.length c2))
  have HW0 := Lib.hid hW0
  have Hbel0 := Lib.hid hb0
  clear hW0 hb0 hx hbare hfit
  obtain ⟨k0, k1, k2, k3, k4, k5, k6⟩ := Bx0.out.at
  go_enter Tryz.func54, Tryz.ntmps54
  go_wp2_with fail
  rw [← HW0.out]
  refine (Hbare.out).mono ?_
  rintro e W1 ⟨rfl, hw1⟩
  have hb1 : Below W0.heap.size W0 W1 := by rw [← hw1]; exact al _ _
  clear k0 k1 k2 k3 k4 k5 k6 hw1
  have Bx1 := Lib.hid (Bx0.out.under hb1)
  have Hbel1 := Lib.hid (Hbel0.out.trans (hb1.mono Hbel0.out.size))
  clear Bx0 Hbel0 hb1
  obtain ⟨k0, k1, k2, k3, k4, k5, k6⟩ := Bx1.out.at
  have hlong := Hlong.out
  have hm1 := Hm1.out
  go_wp2
  all_goals (go_ret; exact ⟨rfl, Hbel1.out⟩)
set_option maxRecDepth 100000 in
theorem rval_many2_1 (x : V) (d : Int) (hbare : bareB x = true) (Hlong : Go.RowKit.Hid ((x.s.size : Int) ≤ 4096)) (hk1 : (x.k == 1) = true) (hk5 : (x.k == 5) = false) (hk6 : (x.k == 6) = false) (Hutf : Go.RowKit.Hid (utf x.s = true)) (Hm1 : Go.RowKit.Hid ((x.l.length : Int) ≤ 256)) (Hm2 : Go.RowKit.Hid (256 < (x.p.length : Int))) (w : World) (q1 q2 : Value) (hx : Rep Any w q1 q2 x) (hd0 : 0 ≤ d) (hd8 : d ≤ 8) :
    Calls Tryz.prog 54 #[.agg (cv x q1 q2), .int .i64 d] w (RChk 3 w) := by
  obtain ⟨a1, c1, rfl, _⟩ := hx.parts.2.1.form
  obtain ⟨a2, c2, rfl, _⟩ := hx.parts.2.2.form
  have hfit := hx.parts.1
  obtain ⟨W0, hW0⟩ : ∃ W0, W0 = w.alloc (.cells (cv x (.slice a1 x.l.length c1) (.slice a2 x.p.length c2)) 27) := ⟨_, rfl⟩
  have hb0 : Below w.heap.size w W0 := by rw [hW0]; exact al w _
  have Hbare := Lib.hid (zero_any x hfit c1 c2 a1 a2 W0)
  rw [hbare] at Hbare
  have Hs := Lib.hid hfit.s1
  have Bx0 := Lib.hid (show Box W0 w.heap.size x _ _ by rw [hW0]; exact Box.new w x (.slice a1 x.l.length c1) (.slice a2 x.p.length c2))
  have HW0 := Lib.hid hW0
  have Hbel0 := Lib.hid hb0
  clear hW0 hb0 hx hbare hfit
  obtain ⟨k0, k1, k2, k3, k4, k5, k6⟩ := Bx0.out.at
  go_enter Tryz.func54, Tryz.ntmps54
  go_wp2_with fail
  rw [← HW0.out]
  refine (Hbare.out).mono ?_
  rintro e W1 ⟨rfl, hw1⟩
  have hb1 : Below W0.heap.size W0 W1 := by rw [← hw1]; exact al _ _
  clear k0 k1 k2 k3 k4 k5 k6 hw1
  have Bx1 := Lib.hid (Bx0.out.under hb1)
  have Hbel1 := Lib.hid (Hbel0.out.trans (hb1.mono Hbel0.out.size))
  clear Bx0 Hbel0 hb1
  obtain ⟨k0, k1, k2, k3, k4, k5, k6⟩ := Bx1.out.at
  have hlong := Hlong.out
  go_wp2_with fail
  refine (utf_is x.s W1 Hs.out).mono ?_
  rw [Hutf.out]
  rintro e W2 ⟨rfl, hb2⟩
  clear k0 k1 k2 k3 k4 k5 k6
  have Bx2 := Lib.hid (Bx1.out.under hb2)
  have Hbel2 := Lib.hid (Hbel1.out.trans (hb2.mono Hbel1.out.size))
  clear Bx1 Hbel1 hb2
  obtain ⟨k0, k1, k2, k3, k4, k5, k6⟩ := Bx2.out.at
  have hm1 := Hm1.out
  have hm2 := Hm2.out
  go_wp2
  all_goals (go_ret; exact ⟨rfl, Hbel2.out⟩)
set_option maxRecDepth 100000 in
theorem rval_many2_5 (x : V) (d : Int) (hbare : bareB x = true) (Hlong : Go.RowKit.Hid ((x.s.size : Int) ≤ 4096)) (hk1 : (x.k == 1) = false) (hk5 : (x.k == 5) = true) (Hm1 : Go.RowKit.Hid ((x.l.length : Int) ≤ 256)) (Hm2 : Go.RowKit.Hid (256 < (x.p.length : Int))) (w : World) (q1 q2 : Value) (hx : Rep Any w q1 q2 x) (hd0 : 0 ≤ d) (hd8 : d ≤ 8) :
    Calls Tryz.prog 54 #[.agg (cv x q1 q2), .int .i64 d] w (RChk 3 w) := by
  obtain ⟨a1, c1, rfl, _⟩ := hx.parts.2.1.form
  obtain ⟨a2, c2, rfl, _⟩ := hx.parts.2.2.form
  have hfit := hx.parts.1
  obtain ⟨W0, hW0⟩ : ∃ W0, W0 = w.alloc (.cells (cv x (.slice a1 x.l.length c1) (.slice a2 x.p.length c2)) 27) := ⟨_, rfl⟩
  have hb0 : Below w.heap.size w W0 := by rw [hW0]; exact al w _
  have Hbare := Lib.hid (zero_any x hfit c1 c2 a1 a2 W0)
  rw [hbare] at Hbare
  have Hs := Lib.hid hfit.s1
  have Bx0 := Lib.hid (show Box W0 w.heap.size x _ _ by rw [hW0]; exact Box.new w x (.slice a1 x.l.length c1) (.slice a2 x.p.length c2))
  have HW0 := Lib.hid hW0
  have Hbel0 := Lib.hid hb0
  clear hW0 hb0 hx hbare hfit
  obtain ⟨k0, k1, k2, k3, k4, k5, k6⟩ := Bx0.out.at
  go_enter Tryz.func54, Tryz.ntmps54
  go_wp2_with fail
  rw [← HW0.out]
  refine (Hbare.out).mono ?_
  rintro e W1 ⟨rfl, hw1⟩
  have hb1 : Below W0.heap.size W0 W1 := by rw [← hw1]; exact al _ _
  clear k0 k1 k2 k3 k4 k5 k6 hw1
  have Bx1 := Lib.hid (Bx0.out.under hb1)
  have Hbel1 := Lib.hid (Hbel0.out.trans (hb1.mono Hbel0.out.size))
  clear Bx0 Hbel0 hb1
  obtain ⟨k0, k1, k2, k3, k4, k5, k6⟩ := Bx1.out.at
  have hlong := Hlong.out
  have hm1 := Hm1.out
  have hm2 := Hm2.out
  go_wp2
  all_goals (go_ret; exact ⟨rfl, Hbel1.out⟩)
set_option maxRecDepth 100000 in
theorem rval_many2_6 (x : V) (d : Int) (hbare : bareB x = true) (Hlong : Go.RowKit.Hid ((x.s.size : Int) ≤ 4096)) (hk1 : (x.k == 1) = false) (hk5 : (x.k == 5) = false) (hk6 : (x.k == 6) = true) (Hm1 : Go.RowKit.Hid ((x.l.length : Int) ≤ 256)) (Hm2 : Go.RowKit.Hid (256 < (x.p.length : Int))) (w : World) (q1 q2 : Value) (hx : Rep Any w q1 q2 x) (hd0 : 0 ≤ d) (hd8 : d ≤ 8) :
    Calls Tryz.prog 54 #[.agg (cv x q1 q2), .int .i64 d] w (RChk 3 w) := by
  obtain ⟨a1, c1, rfl, _⟩ := hx.parts.2.1.form
  obtain ⟨a2, c2, rfl, _⟩ := hx.parts.2.2.form
  have hfit := hx.parts.1
  obtain ⟨W0, hW0⟩ : ∃ W0, W0 = w.alloc (.cells (cv x (.slice a1 x.l.length c1) (.slice a2 x.p.length c2)) 27) := ⟨_, rfl⟩
  have hb0 : Below w.heap.size w W0 := by rw [hW0]; exact al w _
  have Hbare := Lib.hid (zero_any x hfit c1 c2 a1 a2 W0)
  rw [hbare] at Hbare
  have Hs := Lib.hid hfit.s1
  have Bx0 := Lib.hid (show Box W0 w.heap.size x _ _ by rw [hW0]; exact Box.new w x (.slice a1 x.l.length c1) (.slice a2 x.p.length c2))
  have HW0 := Lib.hid hW0
  have Hbel0 := Lib.hid hb0
  clear hW0 hb0 hx hbare hfit
  obtain ⟨k0, k1, k2, k3, k4, k5, k6⟩ := Bx0.out.at
  go_enter Tryz.func54, Tryz.ntmps54
  go_wp2_with fail
  rw [← HW0.out]
  refine (Hbare.out).mono ?_
  rintro e W1 ⟨rfl, hw1⟩
  have hb1 : Below W0.heap.size W0 W1 := by rw [← hw1]; exact al _ _
  clear k0 k1 k2 k3 k4 k5 k6 hw1
  have Bx1 := Lib.hid (Bx0.out.under hb1)
  have Hbel1 := Lib.hid (Hbel0.out.trans (hb1.mono Hbel0.out.size))
  clear Bx0 Hbel0 hb1
  obtain ⟨k0, k1, k2, k3, k4, k5, k6⟩ := Bx1.out.at
  have hlong := Hlong.out
  have hm1 := Hm1.out
  have hm2 := Hm2.out
  go_wp2
  all_goals (go_ret; exact ⟨rfl, Hbel1.out⟩)
set_option maxRecDepth 100000 in
theorem rval_many2_o (x : V) (d : Int) (hbare : bareB x = true) (Hlong : Go.RowKit.Hid ((x.s.size : Int) ≤ 4096)) (hk1 : (x.k == 1) = false) (hk5 : (x.k == 5) = false) (hk6 : (x.k == 6) = false) (Hm1 : Go.RowKit.Hid ((x.l.length : Int) ≤ 256)) (Hm2 : Go.RowKit.Hid (256 < (x.p.length : Int))) (w : World) (q1 q2 : Value) (hx : Rep Any w q1 q2 x) (hd0 : 0 ≤ d) (hd8 : d ≤ 8) :
    Calls Tryz.prog 54 #[.agg (cv x q1 q2), .int .i64 d] w (RChk 3 w) := by
  obtain ⟨a1, c1, rfl, _⟩ := hx.parts.2.1.form
  obtain ⟨a2, c2, rfl, _⟩ := hx.parts.2.2.form
  have hfit := hx.parts.1
  obtain ⟨W0, hW0⟩ : ∃ W0, W0 = w.alloc (.cells (cv x (.slice a1 x.l.length c1) (.slice a2 x.p.length c2)) 27) := ⟨_, rfl⟩
  have hb0 : Below w.heap.size w W0 := by rw [hW0]; exact al w _
  have Hbare := Lib.hid (zero_any x hfit c1 c2 a1 a2 W0)
  rw [hbare] at Hbare
  have Hs := Lib.hid hfit.s1
  have Bx0 := Lib.hid (show Box W0 w.heap.size x _ _ by rw [hW0]; exact Box.new w x (.slice a1 x.l.length c1) (.slice a2 x.p.length c2))
  have HW0 := Lib.hid hW0
  have Hbel0 := Lib.hid hb0
  clear hW0 hb0 hx hbare hfit
  obtain ⟨k0, k1, k2, k3, k4, k5, k6⟩ := Bx0.out.at
  go_enter Tryz.func54, Tryz.ntmps54
  go_wp2_with fail
  rw [← HW0.out]
  refine (Hbare.out).mono ?_
  rintro e W1 ⟨rfl, hw1⟩
  have hb1 : Below W0.heap.size W0 W1 := by rw [← hw1]; exact al _ _
  clear k0 k1 k2 k3 k4 k5 k6 hw1
  have Bx1 := Lib.hid (Bx0.out.under hb1)
  have Hbel1 := Lib.hid (Hbel0.out.trans (hb1.mono Hbel0.out.size))
  clear Bx0 Hbel0 hb1
  obtain ⟨k0, k1, k2, k3, k4, k5, k6⟩ := Bx1.out.at
  have hlong := Hlong.out
  have hm1 := Hm1.out
  have hm2 := Hm2.out
  go_wp2
  all_goals (go_ret; exact ⟨rfl, Hbel1.out⟩)
set_option maxRecDepth 100000 in
theorem rval_depth_5 (x : V) (d : Int) (hbare : bareB x = true) (Hlong : Go.RowKit.Hid ((x.s.size : Int) ≤ 4096)) (hk1 : (x.k == 1) = false) (hk5 : (x.k == 5) = true) (Hm1 : Go.RowKit.Hid ((x.l.length : Int) ≤ 256)) (Hm2 : Go.RowKit.Hid ((x.p.length : Int) ≤ 256)) (Hdp : Go.RowKit.Hid (8 ≤ d)) (w : World) (q1 q2 : Value) (hx : Rep Any w q1 q2 x) (hd0 : 0 ≤ d) (hd8 : d ≤ 8) :
    Calls Tryz.prog 54 #[.agg (cv x q1 q2), .int .i64 d] w (RChk 11 w) := by
  obtain ⟨a1, c1, rfl, _⟩ := hx.parts.2.1.form
  obtain ⟨a2, c2, rfl, _⟩ := hx.parts.2.2.form
  have hfit := hx.parts.1
  obtain ⟨W0, hW0⟩ : ∃ W0, W0 = w.alloc (.cells (cv x (.slice a1 x.l.length c1) (.slice a2 x.p.length c2)) 27) := ⟨_, rfl⟩
  have hb0 : Below w.heap.size w W0 := by rw [hW0]; exact al w _
  have Hbare := Lib.hid (zero_any x hfit c1 c2 a1 a2 W0)
  rw [hbare] at Hbare
  have Hs := Lib.hid hfit.s1
  have Bx0 := Lib.hid (show Box W0 w.heap.size x _ _ by rw [hW0]; exact Box.new w x (.slice a1 x.l.length c1) (.slice a2 x.p.length c2))
  have HW0 := Lib.hid hW0
  have Hbel0 := Lib.hid hb0
  clear hW0 hb0 hx hbare hfit
  obtain ⟨k0, k1, k2, k3, k4, k5, k6⟩ := Bx0.out.at
  go_enter Tryz.func54, Tryz.ntmps54
  go_wp2_with fail
  rw [← HW0.out]
  refine (Hbare.out).mono ?_
  rintro e W1 ⟨rfl, hw1⟩
  have hb1 : Below W0.heap.size W0 W1 := by rw [← hw1]; exact al _ _
  clear k0 k1 k2 k3 k4 k5 k6 hw1
  have Bx1 := Lib.hid (Bx0.out.under hb1)
  have Hbel1 := Lib.hid (Hbel0.out.trans (hb1.mono Hbel0.out.size))
  clear Bx0 Hbel0 hb1
  obtain ⟨k0, k1, k2, k3, k4, k5, k6⟩ := Bx1.out.at
  have hlong := Hlong.out
  have hm1 := Hm1.out
  have hm2 := Hm2.out
  have hdp := Hdp.out
  go_wp2
  all_goals (go_ret; exact ⟨rfl, Hbel1.out⟩)
set_option maxRecDepth 100000 in
theorem rval_depth_6 (x : V) (d : Int) (hbare : bareB x = true) (Hlong : Go.RowKit.Hid ((x.s.size : Int) ≤ 4096)) (hk1 : (x.k == 1) = false) (hk5 : (x.k == 5) = false) (hk6 : (x.k == 6) = true) (Hm1 : Go.RowKit.Hid ((x.l.length : Int) ≤ 256)) (Hm2 : Go.RowKit.Hid ((x.p.length : Int) ≤ 256)) (Hdp : Go.RowKit.Hid (8 ≤ d)) (w : World) (q1 q2 : Value) (hx : Rep Any w q1 q2 x) (hd0 : 0 ≤ d) (hd8 : d ≤ 8) :
    Calls Tryz.prog 54 #[.agg (cv x q1 q2), .int .i64 d] w (RChk 11 w) := by
  obtain ⟨a1, c1, rfl, _⟩ := hx.parts.2.1.form
  obtain ⟨a2, c2, rfl, _⟩ := hx.parts.2.2.form
  have hfit := hx.parts.1
  obtain ⟨W0, hW0⟩ : ∃ W0, W0 = w.alloc (.cells (cv x (.slice a1 x.l.length c1) (.slice a2 x.p.length c2)) 27) := ⟨_, rfl⟩
  have hb0 : Below w.heap.size w W0 := by rw [hW0]; exact al w _
  have Hbare := Lib.hid (zero_any x hfit c1 c2 a1 a2 W0)
  rw [hbare] at Hbare
  have Hs := Lib.hid hfit.s1
  have Bx0 := Lib.hid (show Box W0 w.heap.size x _ _ by rw [hW0]; exact Box.new w x (.slice a1 x.l.length c1) (.slice a2 x.p.length c2))
  have HW0 := Lib.hid hW0
  have Hbel0 := Lib.hid hb0
  clear hW0 hb0 hx hbare hfit
  obtain ⟨k0, k1, k2, k3, k4, k5, k6⟩ := Bx0.out.at
  go_enter Tryz.func54, Tryz.ntmps54
  go_wp2_with fail
  rw [← HW0.out]
  refine (Hbare.out).mono ?_
  rintro e W1 ⟨rfl, hw1⟩
  have hb1 : Below W0.heap.size W0 W1 := by rw [← hw1]; exact al _ _
  clear k0 k1 k2 k3 k4 k5 k6 hw1
  have Bx1 := Lib.hid (Bx0.out.under hb1)
  have Hbel1 := Lib.hid (Hbel0.out.trans (hb1.mono Hbel0.out.size))
  clear Bx0 Hbel0 hb1
  obtain ⟨k0, k1, k2, k3, k4, k5, k6⟩ := Bx1.out.at
  have hlong := Hlong.out
  have hm1 := Hm1.out
  have hm2 := Hm2.out
  have hdp := Hdp.out
  go_wp2
  all_goals (go_ret; exact ⟨rfl, Hbel1.out⟩)
end Go.Proofs.YtnnnnlcpmocnfaaGreatDoor
