/- THE LAW ValueHeld's checkValue, where it fails, WALKED. -/
import Derived.Test.YtnnnnlcpmocnfaaGreatDoorCk7
import Derived.Outline
import Derived.WalkLawsBesides
import Derived.Deep.RegionLaw
import Derived.Deep.RegionHeld3
namespace Go.Proofs.YtnnnnlcpmocnfaaGreatDoor
open Go.RowKit
set_option linter.unusedVariables false
set_option linter.unusedSimpArgs false
attribute [local go_sem] run_store_float


set_option maxRecDepth 100000 in
set_option maxHeartbeats 8000000 in
theorem cval_bare_o (x : V) (d : Int) (hbare : bareB x = false) (w : World) (q1 q2 : Value) (hT : Tabs w) (hx : Rep Any w q1 q2 x) (hd0 : 0 ≤ d) (hd8 : d ≤ 8) : Calls Tryz.prog 18 #[.agg (cv x q1 q2), .int .i64 d] w (Chk 5 w) := by
  obtain ⟨a1, c1, rfl, _⟩ := hx.parts.2.1.form
  obtain ⟨a2, c2, rfl, _⟩ := hx.parts.2.2.form
  have hfit := hx.parts.1
  obtain ⟨W0, hW0⟩ : ∃ W0, W0 = w.alloc (.cells (cv x (.slice a1 x.l.length c1) (.slice a2 x.p.length c2)) 27) := ⟨_, rfl⟩
  have hb0 : Below w.heap.size w W0 := by rw [hW0]; exact al w _
  have Hbare := Lib.hid (bare_any x hfit c1 c2 a1 a2 W0)
  rw [hbare] at Hbare
  have Hs := Lib.hid hfit.s1
  have Hx0 := Lib.hid (hx.under hb0)
  have Bx0 := Lib.hid (show Box W0 w.heap.size x _ _ by rw [hW0]; exact Box.new w x (.slice a1 x.l.length c1) (.slice a2 x.p.length c2))
  have HT0 := Lib.hid (hT.under hb0)
  have HW0 := Lib.hid hW0
  have Hbel0 := Lib.hid hb0
  clear hW0 hb0 hx hT hbare hfit
  obtain ⟨k0, k1, k2, k3, k4, k5, k6⟩ := Bx0.out.at
  go_enter Tryz.func18, Tryz.ntmps18
  go_wp2_with fail
  rw [← HW0.out]
  refine (Hbare.out).mono ?_
  rintro e W1 ⟨rfl, hw1⟩
  have hb1 : Below W0.heap.size W0 W1 := by rw [← hw1]; exact al _ _
  clear k0 k1 k2 k3 k4 k5 k6
  clear hw1
  have Hx1 := Lib.hid (Hx0.out.under hb1)
  have Bx1 := Lib.hid (Bx0.out.under hb1)
  have HT1 := Lib.hid (HT0.out.under hb1)
  have Hbel1 := Lib.hid (Hbel0.out.trans (hb1.mono Hbel0.out.size))
  clear Hx0 Bx0 HT0 Hbel0 hb1
  go_wp2_with fail
  refine (unless_no _ _).mono ?_
  rintro e w' ⟨rfl, rfl⟩
  exact ⟨rfl, by exact ⟨Ends.mkn (by decide), Hbel1.out⟩⟩

set_option maxRecDepth 100000 in
set_option maxHeartbeats 8000000 in
theorem cval_long_o (x : V) (d : Int) (hbare : bareB x = true) (Hlong : Go.RowKit.Hid (4096 < x.s.size)) (w : World) (q1 q2 : Value) (hT : Tabs w) (hx : Rep Any w q1 q2 x) (hd0 : 0 ≤ d) (hd8 : d ≤ 8) : Calls Tryz.prog 18 #[.agg (cv x q1 q2), .int .i64 d] w (Chk 4 w) := by
  obtain ⟨a1, c1, rfl, _⟩ := hx.parts.2.1.form
  obtain ⟨a2, c2, rfl, _⟩ := hx.parts.2.2.form
  have hfit := hx.parts.1
  obtain ⟨W0, hW0⟩ : ∃ W0, W0 = w.alloc (.cells (cv x (.slice a1 x.l.length c1) (.slice a2 x.p.length c2)) 27) := ⟨_, rfl⟩
  have hb0 : Below w.heap.size w W0 := by rw [hW0]; exact al w _
  have Hbare := Lib.hid (bare_any x hfit c1 c2 a1 a2 W0)
  rw [hbare] at Hbare
  have Hs := Lib.hid hfit.s1
  have Hx0 := Lib.hid (hx.under hb0)
  have Bx0 := Lib.hid (show Box W0 w.heap.size x _ _ by rw [hW0]; exact Box.new w x (.slice a1 x.l.length c1) (.slice a2 x.p.length c2))
  have HT0 := Lib.hid (hT.under hb0)
  have HW0 := Lib.hid hW0
  have Hbel0 := Lib.hid hb0
  clear hW0 hb0 hx hT hbare hfit
  obtain ⟨k0, k1, k2, k3, k4, k5, k6⟩ := Bx0.out.at
  go_enter Tryz.func18, Tryz.ntmps18
  go_wp2_with fail
  rw [← HW0.out]
  refine (Hbare.out).mono ?_
  rintro e W1 ⟨rfl, hw1⟩
  have hb1 : Below W0.heap.size W0 W1 := by rw [← hw1]; exact al _ _
  clear k0 k1 k2 k3 k4 k5 k6
  clear hw1
  have Hx1 := Lib.hid (Hx0.out.under hb1)
  have Bx1 := Lib.hid (Bx0.out.under hb1)
  have HT1 := Lib.hid (HT0.out.under hb1)
  have Hbel1 := Lib.hid (Hbel0.out.trans (hb1.mono Hbel0.out.size))
  clear Hx0 Bx0 HT0 Hbel0 hb1
  go_wp2_with fail
  refine (unless_yes _ _).mono ?_
  rintro e w' ⟨rfl, rfl⟩
  obtain ⟨k0, k1, k2, k3, k4, k5, k6⟩ := Bx1.out.at
  go_wp2_with fail
  refine (long_no _ _ (by have := Hlong.out; omega)).mono ?_
  rintro e w' ⟨rfl, rfl⟩
  exact ⟨rfl, by exact ⟨Ends.mkn (by decide), Hbel1.out⟩⟩

set_option maxRecDepth 100000 in
set_option maxHeartbeats 8000000 in
theorem cval_utf_1 (x : V) (d : Int) (hbare : bareB x = true) (Hlong : Go.RowKit.Hid (x.s.size ≤ 4096)) (hk1 : (x.k != 1) = false) (hk5 : (x.k == 5) = false) (hk6 : (x.k == 6) = false) (Hutf : Go.RowKit.Hid (utf x.s = false)) (w : World) (q1 q2 : Value) (hT : Tabs w) (hx : Rep Any w q1 q2 x) (hd0 : 0 ≤ d) (hd8 : d ≤ 8) : Calls Tryz.prog 18 #[.agg (cv x q1 q2), .int .i64 d] w (Chk 12 w) := by
  obtain ⟨a1, c1, rfl, _⟩ := hx.parts.2.1.form
  obtain ⟨a2, c2, rfl, _⟩ := hx.parts.2.2.form
  have hfit := hx.parts.1
  obtain ⟨W0, hW0⟩ : ∃ W0, W0 = w.alloc (.cells (cv x (.slice a1 x.l.length c1) (.slice a2 x.p.length c2)) 27) := ⟨_, rfl⟩
  have hb0 : Below w.heap.size w W0 := by rw [hW0]; exact al w _
  have Hbare := Lib.hid (bare_any x hfit c1 c2 a1 a2 W0)
  rw [hbare] at Hbare
  have Hs := Lib.hid hfit.s1
  have Hx0 := Lib.hid (hx.under hb0)
  have Bx0 := Lib.hid (show Box W0 w.heap.size x _ _ by rw [hW0]; exact Box.new w x (.slice a1 x.l.length c1) (.slice a2 x.p.length c2))
  have HT0 := Lib.hid (hT.under hb0)
  have HW0 := Lib.hid hW0
  have Hbel0 := Lib.hid hb0
  clear hW0 hb0 hx hT hbare hfit
  obtain ⟨k0, k1, k2, k3, k4, k5, k6⟩ := Bx0.out.at
  go_enter Tryz.func18, Tryz.ntmps18
  go_wp2_with fail
  rw [← HW0.out]
  refine (Hbare.out).mono ?_
  rintro e W1 ⟨rfl, hw1⟩
  have hb1 : Below W0.heap.size W0 W1 := by rw [← hw1]; exact al _ _
  clear k0 k1 k2 k3 k4 k5 k6
  clear hw1
  have Hx1 := Lib.hid (Hx0.out.under hb1)
  have Bx1 := Lib.hid (Bx0.out.under hb1)
  have HT1 := Lib.hid (HT0.out.under hb1)
  have Hbel1 := Lib.hid (Hbel0.out.trans (hb1.mono Hbel0.out.size))
  clear Hx0 Bx0 HT0 Hbel0 hb1
  go_wp2_with fail
  refine (unless_yes _ _).mono ?_
  rintro e w' ⟨rfl, rfl⟩
  obtain ⟨k0, k1, k2, k3, k4, k5, k6⟩ := Bx1.out.at
  go_wp2_with fail
  refine (long_ok _ _ (by have := Hlong.out; omega)).mono ?_
  rintro e w' ⟨rfl, rfl⟩
  go_wp2_with fail
  refine (HT1.out _ (Below.refl _ _) _ Hs.out).mono ?_
  rw [Hutf.out]
  rintro e W2 ⟨rfl, hb2⟩
  clear k0 k1 k2 k3 k4 k5 k6
  have Hx2 := Lib.hid (Hx1.out.under hb2)
  have Bx2 := Lib.hid (Bx1.out.under hb2)
  have HT2 := Lib.hid (HT1.out.under hb2)
  have Hbel2 := Lib.hid (Hbel1.out.trans (hb2.mono Hbel1.out.size))
  clear Hx1 Bx1 HT1 Hbel1 hb2
  go_wp2_with fail
  refine (unless_no _ _).mono ?_
  rintro e w' ⟨rfl, rfl⟩
  exact ⟨rfl, by exact ⟨Ends.mkn (by decide), Hbel2.out⟩⟩

set_option maxRecDepth 100000 in
set_option maxHeartbeats 8000000 in
theorem cval_many1_1 (x : V) (d : Int) (hbare : bareB x = true) (Hlong : Go.RowKit.Hid (x.s.size ≤ 4096)) (hk1 : (x.k != 1) = false) (hk5 : (x.k == 5) = false) (hk6 : (x.k == 6) = false) (Hutf : Go.RowKit.Hid (utf x.s = true)) (Hm1 : Go.RowKit.Hid (256 < x.l.length)) (w : World) (q1 q2 : Value) (hT : Tabs w) (hx : Rep Any w q1 q2 x) (hd0 : 0 ≤ d) (hd8 : d ≤ 8) : Calls Tryz.prog 18 #[.agg (cv x q1 q2), .int .i64 d] w (Chk 3 w) := by
  obtain ⟨a1, c1, rfl, _⟩ := hx.parts.2.1.form
  obtain ⟨a2, c2, rfl, _⟩ := hx.parts.2.2.form
  have hfit := hx.parts.1
  obtain ⟨W0, hW0⟩ : ∃ W0, W0 = w.alloc (.cells (cv x (.slice a1 x.l.length c1) (.slice a2 x.p.length c2)) 27) := ⟨_, rfl⟩
  have hb0 : Below w.heap.size w W0 := by rw [hW0]; exact al w _
  have Hbare := Lib.hid (bare_any x hfit c1 c2 a1 a2 W0)
  rw [hbare] at Hbare
  have Hs := Lib.hid hfit.s1
  have Hx0 := Lib.hid (hx.under hb0)
  have Bx0 := Lib.hid (show Box W0 w.heap.size x _ _ by rw [hW0]; exact Box.new w x (.slice a1 x.l.length c1) (.slice a2 x.p.length c2))
  have HT0 := Lib.hid (hT.under hb0)
  have HW0 := Lib.hid hW0
  have Hbel0 := Lib.hid hb0
  clear hW0 hb0 hx hT hbare hfit
  obtain ⟨k0, k1, k2, k3, k4, k5, k6⟩ := Bx0.out.at
  go_enter Tryz.func18, Tryz.ntmps18
  go_wp2_with fail
  rw [← HW0.out]
  refine (Hbare.out).mono ?_
  rintro e W1 ⟨rfl, hw1⟩
  have hb1 : Below W0.heap.size W0 W1 := by rw [← hw1]; exact al _ _
  clear k0 k1 k2 k3 k4 k5 k6
  clear hw1
  have Hx1 := Lib.hid (Hx0.out.under hb1)
  have Bx1 := Lib.hid (Bx0.out.under hb1)
  have HT1 := Lib.hid (HT0.out.under hb1)
  have Hbel1 := Lib.hid (Hbel0.out.trans (hb1.mono Hbel0.out.size))
  clear Hx0 Bx0 HT0 Hbel0 hb1
  go_wp2_with fail
  refine (unless_yes _ _).mono ?_
  rintro e w' ⟨rfl, rfl⟩
  obtain ⟨k0, k1, k2, k3, k4, k5, k6⟩ := Bx1.out.at
  go_wp2_with fail
  refine (long_ok _ _ (by have := Hlong.out; omega)).mono ?_
  rintro e w' ⟨rfl, rfl⟩
  go_wp2_with fail
  refine (HT1.out _ (Below.refl _ _) _ Hs.out).mono ?_
  rw [Hutf.out]
  rintro e W2 ⟨rfl, hb2⟩
  clear k0 k1 k2 k3 k4 k5 k6
  have Hx2 := Lib.hid (Hx1.out.under hb2)
  have Bx2 := Lib.hid (Bx1.out.under hb2)
  have HT2 := Lib.hid (HT1.out.under hb2)
  have Hbel2 := Lib.hid (Hbel1.out.trans (hb2.mono Hbel1.out.size))
  clear Hx1 Bx1 HT1 Hbel1 hb2
  go_wp2_with fail
  refine (unless_yes _ _).mono ?_
  rintro e w' ⟨rfl, rfl⟩
  obtain ⟨k0, k1, k2, k3, k4, k5, k6⟩ := Bx2.out.at
  go_wp2_with fail
  refine (many_no _ _ (by have := Hm1.out; omega)).mono ?_
  rintro e w' ⟨rfl, rfl⟩
  exact ⟨rfl, by exact ⟨Ends.mkn (by decide), Hbel2.out⟩⟩

set_option maxRecDepth 100000 in
set_option maxHeartbeats 8000000 in
theorem cval_many1_5 (x : V) (d : Int) (hbare : bareB x = true) (Hlong : Go.RowKit.Hid (x.s.size ≤ 4096)) (hk1 : (x.k != 1) = true) (hk5 : (x.k == 5) = true) (Hm1 : Go.RowKit.Hid (256 < x.l.length)) (w : World) (q1 q2 : Value) (hT : Tabs w) (hx : Rep Any w q1 q2 x) (hd0 : 0 ≤ d) (hd8 : d ≤ 8) : Calls Tryz.prog 18 #[.agg (cv x q1 q2), .int .i64 d] w (Chk 3 w) := by
  obtain ⟨a1, c1, rfl, _⟩ := hx.parts.2.1.form
  obtain ⟨a2, c2, rfl, _⟩ := hx.parts.2.2.form
  have hfit := hx.parts.1
  obtain ⟨W0, hW0⟩ : ∃ W0, W0 = w.alloc (.cells (cv x (.slice a1 x.l.length c1) (.slice a2 x.p.length c2)) 27) := ⟨_, rfl⟩
  have hb0 : Below w.heap.size w W0 := by rw [hW0]; exact al w _
  have Hbare := Lib.hid (bare_any x hfit c1 c2 a1 a2 W0)
  rw [hbare] at Hbare
  have Hs := Lib.hid hfit.s1
  have Hx0 := Lib.hid (hx.under hb0)
  have Bx0 := Lib.hid (show Box W0 w.heap.size x _ _ by rw [hW0]; exact Box.new w x (.slice a1 x.l.length c1) (.slice a2 x.p.length c2))
  have HT0 := Lib.hid (hT.under hb0)
  have HW0 := Lib.hid hW0
  have Hbel0 := Lib.hid hb0
  clear hW0 hb0 hx hT hbare hfit
  obtain ⟨k0, k1, k2, k3, k4, k5, k6⟩ := Bx0.out.at
  go_enter Tryz.func18, Tryz.ntmps18
  go_wp2_with fail
  rw [← HW0.out]
  refine (Hbare.out).mono ?_
  rintro e W1 ⟨rfl, hw1⟩
  have hb1 : Below W0.heap.size W0 W1 := by rw [← hw1]; exact al _ _
  clear k0 k1 k2 k3 k4 k5 k6
  clear hw1
  have Hx1 := Lib.hid (Hx0.out.under hb1)
  have Bx1 := Lib.hid (Bx0.out.under hb1)
  have HT1 := Lib.hid (HT0.out.under hb1)
  have Hbel1 := Lib.hid (Hbel0.out.trans (hb1.mono Hbel0.out.size))
  clear Hx0 Bx0 HT0 Hbel0 hb1
  go_wp2_with fail
  refine (unless_yes _ _).mono ?_
  rintro e w' ⟨rfl, rfl⟩
  obtain ⟨k0, k1, k2, k3, k4, k5, k6⟩ := Bx1.out.at
  go_wp2_with fail
  refine (long_ok _ _ (by have := Hlong.out; omega)).mono ?_
  rintro e w' ⟨rfl, rfl⟩
  go_wp2_with fail
  refine (unless_yes _ _).mono ?_
  rintro e w' ⟨rfl, rfl⟩
  go_wp2_with fail
  refine (many_no _ _ (by have := Hm1.out; omega)).mono ?_
  rintro e w' ⟨rfl, rfl⟩
  exact ⟨rfl, by exact ⟨Ends.mkn (by decide), Hbel1.out⟩⟩

set_option maxRecDepth 100000 in
set_option maxHeartbeats 8000000 in
theorem cval_many1_6 (x : V) (d : Int) (hbare : bareB x = true) (Hlong : Go.RowKit.Hid (x.s.size ≤ 4096)) (hk1 : (x.k != 1) = true) (hk5 : (x.k == 5) = false) (hk6 : (x.k == 6) = true) (Hm1 : Go.RowKit.Hid (256 < x.l.length)) (w : World) (q1 q2 : Value) (hT : Tabs w) (hx : Rep Any w q1 q2 x) (hd0 : 0 ≤ d) (hd8 : d ≤ 8) : Calls Tryz.prog 18 #[.agg (cv x q1 q2), .int .i64 d] w (Chk 3 w) := by
  obtain ⟨a1, c1, rfl, _⟩ := hx.parts.2.1.form
  obtain ⟨a2, c2, rfl, _⟩ := hx.parts.2.2.form
  have hfit := hx.parts.1
  obtain ⟨W0, hW0⟩ : ∃ W0, W0 = w.alloc (.cells (cv x (.slice a1 x.l.length c1) (.slice a2 x.p.length c2)) 27) := ⟨_, rfl⟩
  have hb0 : Below w.heap.size w W0 := by rw [hW0]; exact al w _
  have Hbare := Lib.hid (bare_any x hfit c1 c2 a1 a2 W0)
  rw [hbare] at Hbare
  have Hs := Lib.hid hfit.s1
  have Hx0 := Lib.hid (hx.under hb0)
  have Bx0 := Lib.hid (show Box W0 w.heap.size x _ _ by rw [hW0]; exact Box.new w x (.slice a1 x.l.length c1) (.slice a2 x.p.length c2))
  have HT0 := Lib.hid (hT.under hb0)
  have HW0 := Lib.hid hW0
  have Hbel0 := Lib.hid hb0
  clear hW0 hb0 hx hT hbare hfit
  obtain ⟨k0, k1, k2, k3, k4, k5, k6⟩ := Bx0.out.at
  go_enter Tryz.func18, Tryz.ntmps18
  go_wp2_with fail
  rw [← HW0.out]
  refine (Hbare.out).mono ?_
  rintro e W1 ⟨rfl, hw1⟩
  have hb1 : Below W0.heap.size W0 W1 := by rw [← hw1]; exact al _ _
  clear k0 k1 k2 k3 k4 k5 k6
  clear hw1
  have Hx1 := Lib.hid (Hx0.out.under hb1)
  have Bx1 := Lib.hid (Bx0.out.under hb1)
  have HT1 := Lib.hid (HT0.out.under hb1)
  have Hbel1 := Lib.hid (Hbel0.out.trans (hb1.mono Hbel0.out.size))
  clear Hx0 Bx0 HT0 Hbel0 hb1
  go_wp2_with fail
  refine (unless_yes _ _).mono ?_
  rintro e w' ⟨rfl, rfl⟩
  obtain ⟨k0, k1, k2, k3, k4, k5, k6⟩ := Bx1.out.at
  go_wp2_with fail
  refine (long_ok _ _ (by have := Hlong.out; omega)).mono ?_
  rintro e w' ⟨rfl, rfl⟩
  go_wp2_with fail
  refine (unless_yes _ _).mono ?_
  rintro e w' ⟨rfl, rfl⟩
  go_wp2_with fail
  refine (many_no _ _ (by have := Hm1.out; omega)).mono ?_
  rintro e w' ⟨rfl, rfl⟩
  exact ⟨rfl, by exact ⟨Ends.mkn (by decide), Hbel1.out⟩⟩

set_option maxRecDepth 100000 in
set_option maxHeartbeats 8000000 in
theorem cval_many1_o (x : V) (d : Int) (hbare : bareB x = true) (Hlong : Go.RowKit.Hid (x.s.size ≤ 4096)) (hk1 : (x.k != 1) = true) (hk5 : (x.k == 5) = false) (hk6 : (x.k == 6) = false) (Hm1 : Go.RowKit.Hid (256 < x.l.length)) (w : World) (q1 q2 : Value) (hT : Tabs w) (hx : Rep Any w q1 q2 x) (hd0 : 0 ≤ d) (hd8 : d ≤ 8) : Calls Tryz.prog 18 #[.agg (cv x q1 q2), .int .i64 d] w (Chk 3 w) := by
  obtain ⟨a1, c1, rfl, _⟩ := hx.parts.2.1.form
  obtain ⟨a2, c2, rfl, _⟩ := hx.parts.2.2.form
  have hfit := hx.parts.1
  obtain ⟨W0, hW0⟩ : ∃ W0, W0 = w.alloc (.cells (cv x (.slice a1 x.l.length c1) (.slice a2 x.p.length c2)) 27) := ⟨_, rfl⟩
  have hb0 : Below w.heap.size w W0 := by rw [hW0]; exact al w _
  have Hbare := Lib.hid (bare_any x hfit c1 c2 a1 a2 W0)
  rw [hbare] at Hbare
  have Hs := Lib.hid hfit.s1
  have Hx0 := Lib.hid (hx.under hb0)
  have Bx0 := Lib.hid (show Box W0 w.heap.size x _ _ by rw [hW0]; exact Box.new w x (.slice a1 x.l.length c1) (.slice a2 x.p.length c2))
  have HT0 := Lib.hid (hT.under hb0)
  have HW0 := Lib.hid hW0
  have Hbel0 := Lib.hid hb0
  clear hW0 hb0 hx hT hbare hfit
  obtain ⟨k0, k1, k2, k3, k4, k5, k6⟩ := Bx0.out.at
  go_enter Tryz.func18, Tryz.ntmps18
  go_wp2_with fail
  rw [← HW0.out]
  refine (Hbare.out).mono ?_
  rintro e W1 ⟨rfl, hw1⟩
  have hb1 : Below W0.heap.size W0 W1 := by rw [← hw1]; exact al _ _
  clear k0 k1 k2 k3 k4 k5 k6
  clear hw1
  have Hx1 := Lib.hid (Hx0.out.under hb1)
  have Bx1 := Lib.hid (Bx0.out.under hb1)
  have HT1 := Lib.hid (HT0.out.under hb1)
  have Hbel1 := Lib.hid (Hbel0.out.trans (hb1.mono Hbel0.out.size))
  clear Hx0 Bx0 HT0 Hbel0 hb1
  go_wp2_with fail
  refine (unless_yes _ _).mono ?_
  rintro e w' ⟨rfl, rfl⟩
  obtain ⟨k0, k1, k2, k3, k4, k5, k6⟩ := Bx1.out.at
  go_wp2_with fail
  refine (long_ok _ _ (by have := Hlong.out; omega)).mono ?_
  rintro e w' ⟨rfl, rfl⟩
  go_wp2_with fail
  refine (unless_yes _ _).mono ?_
  rintro e w' ⟨rfl, rfl⟩
  go_wp2_with fail
  refine (many_no _ _ (by have := Hm1.out; omega)).mono ?_
  rintro e w' ⟨rfl, rfl⟩
  exact ⟨rfl, by exact ⟨Ends.mkn (by decide), Hbel1.out⟩⟩

set_option maxRecDepth 100000 in
set_option maxHeartbeats 8000000 in
theorem cval_many2_1 (x : V) (d : Int) (hbare : bareB x = true) (Hlong : Go.RowKit.Hid (x.s.size ≤ 4096)) (hk1 : (x.k != 1) = false) (hk5 : (x.k == 5) = false) (hk6 : (x.k == 6) = false) (Hutf : Go.RowKit.Hid (utf x.s = true)) (Hm1 : Go.RowKit.Hid (x.l.length ≤ 256)) (Hm2 : Go.RowKit.Hid (256 < x.p.length)) (w : World) (q1 q2 : Value) (hT : Tabs w) (hx : Rep Any w q1 q2 x) (hd0 : 0 ≤ d) (hd8 : d ≤ 8) : Calls Tryz.prog 18 #[.agg (cv x q1 q2), .int .i64 d] w (Chk 3 w) := by
  obtain ⟨a1, c1, rfl, _⟩ := hx.parts.2.1.form
  obtain ⟨a2, c2, rfl, _⟩ := hx.parts.2.2.form
  have hfit := hx.parts.1
  obtain ⟨W0, hW0⟩ : ∃ W0, W0 = w.alloc (.cells (cv x (.slice a1 x.l.length c1) (.slice a2 x.p.length c2)) 27) := ⟨_, rfl⟩
  have hb0 : Below w.heap.size w W0 := by rw [hW0]; exact al w _
  have Hbare := Lib.hid (bare_any x hfit c1 c2 a1 a2 W0)
  rw [hbare] at Hbare
  have Hs := Lib.hid hfit.s1
  have Hx0 := Lib.hid (hx.under hb0)
  have Bx0 := Lib.hid (show Box W0 w.heap.size x _ _ by rw [hW0]; exact Box.new w x (.slice a1 x.l.length c1) (.slice a2 x.p.length c2))
  have HT0 := Lib.hid (hT.under hb0)
  have HW0 := Lib.hid hW0
  have Hbel0 := Lib.hid hb0
  clear hW0 hb0 hx hT hbare hfit
  obtain ⟨k0, k1, k2, k3, k4, k5, k6⟩ := Bx0.out.at
  go_enter Tryz.func18, Tryz.ntmps18
  go_wp2_with fail
  rw [← HW0.out]
  refine (Hbare.out).mono ?_
  rintro e W1 ⟨rfl, hw1⟩
  have hb1 : Below W0.heap.size W0 W1 := by rw [← hw1]; exact al _ _
  clear k0 k1 k2 k3 k4 k5 k6
  clear hw1
  have Hx1 := Lib.hid (Hx0.out.under hb1)
  have Bx1 := Lib.hid (Bx0.out.under hb1)
  have HT1 := Lib.hid (HT0.out.under hb1)
  have Hbel1 := Lib.hid (Hbel0.out.trans (hb1.mono Hbel0.out.size))
  clear Hx0 Bx0 HT0 Hbel0 hb1
  go_wp2_with fail
  refine (unless_yes _ _).mono ?_
  rintro e w' ⟨rfl, rfl⟩
  obtain ⟨k0, k1, k2, k3, k4, k5, k6⟩ := Bx1.out.at
  go_wp2_with fail
  refine (long_ok _ _ (by have := Hlong.out; omega)).mono ?_
  rintro e w' ⟨rfl, rfl⟩
  go_wp2_with fail
  refine (HT1.out _ (Below.refl _ _) _ Hs.out).mono ?_
  rw [Hutf.out]
  rintro e W2 ⟨rfl, hb2⟩
  clear k0 k1 k2 k3 k4 k5 k6
  have Hx2 := Lib.hid (Hx1.out.under hb2)
  have Bx2 := Lib.hid (Bx1.out.under hb2)
  have HT2 := Lib.hid (HT1.out.under hb2)
  have Hbel2 := Lib.hid (Hbel1.out.trans (hb2.mono Hbel1.out.size))
  clear Hx1 Bx1 HT1 Hbel1 hb2
  go_wp2_with fail
  refine (unless_yes _ _).mono ?_
  rintro e w' ⟨rfl, rfl⟩
  obtain ⟨k0, k1, k2, k3, k4, k5, k6⟩ := Bx2.out.at
  go_wp2_with fail
  refine (many_ok _ _ (by have := Hm1.out; omega)).mono ?_
  rintro e w' ⟨rfl, rfl⟩
  go_wp2_with fail
  refine (many_no _ _ (by have := Hm2.out; omega)).mono ?_
  rintro e w' ⟨rfl, rfl⟩
  exact ⟨rfl, by exact ⟨Ends.mkn (by decide), Hbel2.out⟩⟩

set_option maxRecDepth 100000 in
set_option maxHeartbeats 8000000 in
theorem cval_many2_5 (x : V) (d : Int) (hbare : bareB x = true) (Hlong : Go.RowKit.Hid (x.s.size ≤ 4096)) (hk1 : (x.k != 1) = true) (hk5 : (x.k == 5) = true) (Hm1 : Go.RowKit.Hid (x.l.length ≤ 256)) (Hm2 : Go.RowKit.Hid (256 < x.p.length)) (w : World) (q1 q2 : Value) (hT : Tabs w) (hx : Rep Any w q1 q2 x) (hd0 : 0 ≤ d) (hd8 : d ≤ 8) : Calls Tryz.prog 18 #[.agg (cv x q1 q2), .int .i64 d] w (Chk 3 w) := by
  obtain ⟨a1, c1, rfl, _⟩ := hx.parts.2.1.form
  obtain ⟨a2, c2, rfl, _⟩ := hx.parts.2.2.form
  have hfit := hx.parts.1
  obtain ⟨W0, hW0⟩ : ∃ W0, W0 = w.alloc (.cells (cv x (.slice a1 x.l.length c1) (.slice a2 x.p.length c2)) 27) := ⟨_, rfl⟩
  have hb0 : Below w.heap.size w W0 := by rw [hW0]; exact al w _
  have Hbare := Lib.hid (bare_any x hfit c1 c2 a1 a2 W0)
  rw [hbare] at Hbare
  have Hs := Lib.hid hfit.s1
  have Hx0 := Lib.hid (hx.under hb0)
  have Bx0 := Lib.hid (show Box W0 w.heap.size x _ _ by rw [hW0]; exact Box.new w x (.slice a1 x.l.length c1) (.slice a2 x.p.length c2))
  have HT0 := Lib.hid (hT.under hb0)
  have HW0 := Lib.hid hW0
  have Hbel0 := Lib.hid hb0
  clear hW0 hb0 hx hT hbare hfit
  obtain ⟨k0, k1, k2, k3, k4, k5, k6⟩ := Bx0.out.at
  go_enter Tryz.func18, Tryz.ntmps18
  go_wp2_with fail
  rw [← HW0.out]
  refine (Hbare.out).mono ?_
  rintro e W1 ⟨rfl, hw1⟩
  have hb1 : Below W0.heap.size W0 W1 := by rw [← hw1]; exact al _ _
  clear k0 k1 k2 k3 k4 k5 k6
  clear hw1
  have Hx1 := Lib.hid (Hx0.out.under hb1)
  have Bx1 := Lib.hid (Bx0.out.under hb1)
  have HT1 := Lib.hid (HT0.out.under hb1)
  have Hbel1 := Lib.hid (Hbel0.out.trans (hb1.mono Hbel0.out.size))
  clear Hx0 Bx0 HT0 Hbel0 hb1
  go_wp2_with fail
  refine (unless_yes _ _).mono ?_
  rintro e w' ⟨rfl, rfl⟩
  obtain ⟨k0, k1, k2, k3, k4, k5, k6⟩ := Bx1.out.at
  go_wp2_with fail
  refine (long_ok _ _ (by have := Hlong.out; omega)).mono ?_
  rintro e w' ⟨rfl, rfl⟩
  go_wp2_with fail
  refine (unless_yes _ _).mono ?_
  rintro e w' ⟨rfl, rfl⟩
  go_wp2_with fail
  refine (many_ok _ _ (by have := Hm1.out; omega)).mono ?_
  rintro e w' ⟨rfl, rfl⟩
  go_wp2_with fail
  refine (many_no _ _ (by have := Hm2.out; omega)).mono ?_
  rintro e w' ⟨rfl, rfl⟩
  exact ⟨rfl, by exact ⟨Ends.mkn (by decide), Hbel1.out⟩⟩

set_option maxRecDepth 100000 in
set_option maxHeartbeats 8000000 in
theorem cval_many2_6 (x : V) (d : Int) (hbare : bareB x = true) (Hlong : Go.RowKit.Hid (x.s.size ≤ 4096)) (hk1 : (x.k != 1) = true) (hk5 : (x.k == 5) = false) (hk6 : (x.k == 6) = true) (Hm1 : Go.RowKit.Hid (x.l.length ≤ 256)) (Hm2 : Go.RowKit.Hid (256 < x.p.length)) (w : World) (q1 q2 : Value) (hT : Tabs w) (hx : Rep Any w q1 q2 x) (hd0 : 0 ≤ d) (hd8 : d ≤ 8) : Calls Tryz.prog 18 #[.agg (cv x q1 q2), .int .i64 d] w (Chk 3 w) := by
  obtain ⟨a1, c1, rfl, _⟩ := hx.parts.2.1.form
  obtain ⟨a2, c2, rfl, _⟩ := hx.parts.2.2.form
  have hfit := hx.parts.1
  obtain ⟨W0, hW0⟩ : ∃ W0, W0 = w.alloc (.cells (cv x (.slice a1 x.l.length c1) (.slice a2 x.p.length c2)) 27) := ⟨_, rfl⟩
  have hb0 : Below w.heap.size w W0 := by rw [hW0]; exact al w _
  have Hbare := Lib.hid (bare_any x hfit c1 c2 a1 a2 W0)
  rw [hbare] at Hbare
  have Hs := Lib.hid hfit.s1
  have Hx0 := Lib.hid (hx.under hb0)
  have Bx0 := Lib.hid (show Box W0 w.heap.size x _ _ by rw [hW0]; exact Box.new w x (.slice a1 x.l.length c1) (.slice a2 x.p.length c2))
  have HT0 := Lib.hid (hT.under hb0)
  have HW0 := Lib.hid hW0
  have Hbel0 := Lib.hid hb0
  clear hW0 hb0 hx hT hbare hfit
  obtain ⟨k0, k1, k2, k3, k4, k5, k6⟩ := Bx0.out.at
  go_enter Tryz.func18, Tryz.ntmps18
  go_wp2_with fail
  rw [← HW0.out]
  refine (Hbare.out).mono ?_
  rintro e W1 ⟨rfl, hw1⟩
  have hb1 : Below W0.heap.size W0 W1 := by rw [← hw1]; exact al _ _
  clear k0 k1 k2 k3 k4 k5 k6
  clear hw1
  have Hx1 := Lib.hid (Hx0.out.under hb1)
  have Bx1 := Lib.hid (Bx0.out.under hb1)
  have HT1 := Lib.hid (HT0.out.under hb1)
  have Hbel1 := Lib.hid (Hbel0.out.trans (hb1.mono Hbel0.out.size))
  clear Hx0 Bx0 HT0 Hbel0 hb1
  go_wp2_with fail
  refine (unless_yes _ _).mono ?_
  rintro e w' ⟨rfl, rfl⟩
  obtain ⟨k0, k1, k2, k3, k4, k5, k6⟩ := Bx1.out.at
  go_wp2_with fail
  refine (long_ok _ _ (by have := Hlong.out; omega)).mono ?_
  rintro e w' ⟨rfl, rfl⟩
  go_wp2_with fail
  refine (unless_yes _ _).mono ?_
  rintro e w' ⟨rfl, rfl⟩
  go_wp2_with fail
  refine (many_ok _ _ (by have := Hm1.out; omega)).mono ?_
  rintro e w' ⟨rfl, rfl⟩
  go_wp2_with fail
  refine (many_no _ _ (by have := Hm2.out; omega)).mono ?_
  rintro e w' ⟨rfl, rfl⟩
  exact ⟨rfl, by exact ⟨Ends.mkn (by decide), Hbel1.out⟩⟩

set_option maxRecDepth 100000 in
set_option maxHeartbeats 8000000 in
theorem cval_many2_o (x : V) (d : Int) (hbare : bareB x = true) (Hlong : Go.RowKit.Hid (x.s.size ≤ 4096)) (hk1 : (x.k != 1) = true) (hk5 : (x.k == 5) = false) (hk6 : (x.k == 6) = false) (Hm1 : Go.RowKit.Hid (x.l.length ≤ 256)) (Hm2 : Go.RowKit.Hid (256 < x.p.length)) (w : World) (q1 q2 : Value) (hT : Tabs w) (hx : Rep Any w q1 q2 x) (hd0 : 0 ≤ d) (hd8 : d ≤ 8) : Calls Tryz.prog 18 #[.agg (cv x q1 q2), .int .i64 d] w (Chk 3 w) := by
  obtain ⟨a1, c1, rfl, _⟩ := hx.parts.2.1.form
  obtain ⟨a2, c2, rfl, _⟩ := hx.parts.2.2.form
  have hfit := hx.parts.1
  obtain ⟨W0, hW0⟩ : ∃ W0, W0 = w.alloc (.cells (cv x (.slice a1 x.l.length c1) (.slice a2 x.p.length c2)) 27) := ⟨_, rfl⟩
  have hb0 : Below w.heap.size w W0 := by rw [hW0]; exact al w _
  have Hbare := Lib.hid (bare_any x hfit c1 c2 a1 a2 W0)
  rw [hbare] at Hbare
  have Hs := Lib.hid hfit.s1
  have Hx0 := Lib.hid (hx.under hb0)
  have Bx0 := Lib.hid (show Box W0 w.heap.size x _ _ by rw [hW0]; exact Box.new w x (.slice a1 x.l.length c1) (.slice a2 x.p.length c2))
  have HT0 := Lib.hid (hT.under hb0)
  have HW0 := Lib.hid hW0
  have Hbel0 := Lib.hid hb0
  clear hW0 hb0 hx hT hbare hfit
  obtain ⟨k0, k1, k2, k3, k4, k5, k6⟩ := Bx0.out.at
  go_enter Tryz.func18, Tryz.ntmps18
  go_wp2_with fail
  rw [← HW0.out]
  refine (Hbare.out).mono ?_
  rintro e W1 ⟨rfl, hw1⟩
  have hb1 : Below W0.heap.size W0 W1 := by rw [← hw1]; exact al _ _
  clear k0 k1 k2 k3 k4 k5 k6
  clear hw1
  have Hx1 := Lib.hid (Hx0.out.under hb1)
  have Bx1 := Lib.hid (Bx0.out.under hb1)
  have HT1 := Lib.hid (HT0.out.under hb1)
  have Hbel1 := Lib.hid (Hbel0.out.trans (hb1.mono Hbel0.out.size))
  clear Hx0 Bx0 HT0 Hbel0 hb1
  go_wp2_with fail
  refine (unless_yes _ _).mono ?_
  rintro e w' ⟨rfl, rfl⟩
  obtain ⟨k0, k1, k2, k3, k4, k5, k6⟩ := Bx1.out.at
  go_wp2_with fail
  refine (long_ok _ _ (by have := Hlong.out; omega)).mono ?_
  rintro e w' ⟨rfl, rfl⟩
  go_wp2_with fail
  refine (unless_yes _ _).mono ?_
  rintro e w' ⟨rfl, rfl⟩
  go_wp2_with fail
  refine (many_ok _ _ (by have := Hm1.out; omega)).mono ?_
  rintro e w' ⟨rfl, rfl⟩
  go_wp2_with fail
  refine (many_no _ _ (by have := Hm2.out; omega)).mono ?_
  rintro e w' ⟨rfl, rfl⟩
  exact ⟨rfl, by exact ⟨Ends.mkn (by decide), Hbel1.out⟩⟩

set_option maxRecDepth 100000 in
set_option maxHeartbeats 8000000 in
theorem cval_depth_5 (x : V) (d : Int) (hbare : bareB x = true) (Hlong : Go.RowKit.Hid (x.s.size ≤ 4096)) (hk1 : (x.k != 1) = true) (hk5 : (x.k == 5) = true) (Hm1 : Go.RowKit.Hid (x.l.length ≤ 256)) (Hm2 : Go.RowKit.Hid (x.p.length ≤ 256)) (Hdp : Go.RowKit.Hid (8 ≤ d)) (w : World) (q1 q2 : Value) (hT : Tabs w) (hx : Rep Any w q1 q2 x) (hd0 : 0 ≤ d) (hd8 : d ≤ 8) : Calls Tryz.prog 18 #[.agg (cv x q1 q2), .int .i64 d] w (Chk 11 w) := by
  obtain ⟨a1, c1, rfl, _⟩ := hx.parts.2.1.form
  obtain ⟨a2, c2, rfl, _⟩ := hx.parts.2.2.form
  have hfit := hx.parts.1
  obtain ⟨W0, hW0⟩ : ∃ W0, W0 = w.alloc (.cells (cv x (.slice a1 x.l.length c1) (.slice a2 x.p.length c2)) 27) := ⟨_, rfl⟩
  have hb0 : Below w.heap.size w W0 := by rw [hW0]; exact al w _
  have Hbare := Lib.hid (bare_any x hfit c1 c2 a1 a2 W0)
  rw [hbare] at Hbare
  have Hs := Lib.hid hfit.s1
  have Hx0 := Lib.hid (hx.under hb0)
  have Bx0 := Lib.hid (show Box W0 w.heap.size x _ _ by rw [hW0]; exact Box.new w x (.slice a1 x.l.length c1) (.slice a2 x.p.length c2))
  have HT0 := Lib.hid (hT.under hb0)
  have HW0 := Lib.hid hW0
  have Hbel0 := Lib.hid hb0
  clear hW0 hb0 hx hT hbare hfit
  obtain ⟨k0, k1, k2, k3, k4, k5, k6⟩ := Bx0.out.at
  go_enter Tryz.func18, Tryz.ntmps18
  go_wp2_with fail
  rw [← HW0.out]
  refine (Hbare.out).mono ?_
  rintro e W1 ⟨rfl, hw1⟩
  have hb1 : Below W0.heap.size W0 W1 := by rw [← hw1]; exact al _ _
  clear k0 k1 k2 k3 k4 k5 k6
  clear hw1
  have Hx1 := Lib.hid (Hx0.out.under hb1)
  have Bx1 := Lib.hid (Bx0.out.under hb1)
  have HT1 := Lib.hid (HT0.out.under hb1)
  have Hbel1 := Lib.hid (Hbel0.out.trans (hb1.mono Hbel0.out.size))
  clear Hx0 Bx0 HT0 Hbel0 hb1
  go_wp2_with fail
  refine (unless_yes _ _).mono ?_
  rintro e w' ⟨rfl, rfl⟩
  obtain ⟨k0, k1, k2, k3, k4, k5, k6⟩ := Bx1.out.at
  go_wp2_with fail
  refine (long_ok _ _ (by have := Hlong.out; omega)).mono ?_
  rintro e w' ⟨rfl, rfl⟩
  go_wp2_with fail
  refine (unless_yes _ _).mono ?_
  rintro e w' ⟨rfl, rfl⟩
  go_wp2_with fail
  refine (many_ok _ _ (by have := Hm1.out; omega)).mono ?_
  rintro e w' ⟨rfl, rfl⟩
  go_wp2_with fail
  refine (many_ok _ _ (by have := Hm2.out; omega)).mono ?_
  rintro e w' ⟨rfl, rfl⟩
  go_wp2_with fail
  refine (depth_no _ _ (by have := Hdp.out; omega)).mono ?_
  rintro e w' ⟨rfl, rfl⟩
  exact ⟨rfl, by exact ⟨Ends.mkn (by decide), Hbel1.out⟩⟩

set_option maxRecDepth 100000 in
set_option maxHeartbeats 8000000 in
theorem cval_depth_6 (x : V) (d : Int) (hbare : bareB x = true) (Hlong : Go.RowKit.Hid (x.s.size ≤ 4096)) (hk1 : (x.k != 1) = true) (hk5 : (x.k == 5) = false) (hk6 : (x.k == 6) = true) (Hm1 : Go.RowKit.Hid (x.l.length ≤ 256)) (Hm2 : Go.RowKit.Hid (x.p.length ≤ 256)) (Hdp : Go.RowKit.Hid (8 ≤ d)) (w : World) (q1 q2 : Value) (hT : Tabs w) (hx : Rep Any w q1 q2 x) (hd0 : 0 ≤ d) (hd8 : d ≤ 8) : Calls Tryz.prog 18 #[.agg (cv x q1 q2), .int .i64 d] w (Chk 11 w) := by
  obtain ⟨a1, c1, rfl, _⟩ := hx.parts.2.1.form
  obtain ⟨a2, c2, rfl, _⟩ := hx.parts.2.2.form
  have hfit := hx.parts.1
  obtain ⟨W0, hW0⟩ : ∃ W0, W0 = w.alloc (.cells (cv x (.slice a1 x.l.length c1) (.slice a2 x.p.length c2)) 27) := ⟨_, rfl⟩
  have hb0 : Below w.heap.size w W0 := by rw [hW0]; exact al w _
  have Hbare := Lib.hid (bare_any x hfit c1 c2 a1 a2 W0)
  rw [hbare] at Hbare
  have Hs := Lib.hid hfit.s1
  have Hx0 := Lib.hid (hx.under hb0)
  have Bx0 := Lib.hid (show Box W0 w.heap.size x _ _ by rw [hW0]; exact Box.new w x (.slice a1 x.l.length c1) (.slice a2 x.p.length c2))
  have HT0 := Lib.hid (hT.under hb0)
  have HW0 := Lib.hid hW0
  have Hbel0 := Lib.hid hb0
  clear hW0 hb0 hx hT hbare hfit
  obtain ⟨k0, k1, k2, k3, k4, k5, k6⟩ := Bx0.out.at
  go_enter Tryz.func18, Tryz.ntmps18
  go_wp2_with fail
  rw [← HW0.out]
  refine (Hbare.out).mono ?_
  rintro e W1 ⟨rfl, hw1⟩
  have hb1 : Below W0.heap.size W0 W1 := by rw [← hw1]; exact al _ _
  clear k0 k1 k2 k3 k4 k5 k6
  clear hw1
  have Hx1 := Lib.hid (Hx0.out.under hb1)
  have Bx1 := Lib.hid (Bx0.out.under hb1)
  have HT1 := Lib.hid (HT0.out.under hb1)
  have Hbel1 := Lib.hid (Hbel0.out.trans (hb1.mono Hbel0.out.size))
  clear Hx0 Bx0 HT0 Hbel0 hb1
  go_wp2_with fail
  refine (unless_yes _ _).mono ?_
  rintro e w' ⟨rfl, rfl⟩
  obtain ⟨k0, k1, k2, k3, k4, k5, k6⟩ := Bx1.out.at
  go_wp2_with fail
  refine (long_ok _ _ (by have := Hlong.out; omega)).mono ?_
  rintro e w' ⟨rfl, rfl⟩
  go_wp2_with fail
  refine (unless_yes _ _).mono ?_
  rintro e w' ⟨rfl, rfl⟩
  go_wp2_with fail
  refine (many_ok _ _ (by have := Hm1.out; omega)).mono ?_
  rintro e w' ⟨rfl, rfl⟩
  go_wp2_with fail
  refine (many_ok _ _ (by have := Hm2.out; omega)).mono ?_
  rintro e w' ⟨rfl, rfl⟩
  go_wp2_with fail
  refine (depth_no _ _ (by have := Hdp.out; omega)).mono ?_
  rintro e w' ⟨rfl, rfl⟩
  exact ⟨rfl, by exact ⟨Ends.mkn (by decide), Hbel1.out⟩⟩
end Go.Proofs.YtnnnnlcpmocnfaaGreatDoor
