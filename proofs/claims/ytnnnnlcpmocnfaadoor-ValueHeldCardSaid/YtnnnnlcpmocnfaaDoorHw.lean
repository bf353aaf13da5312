/- THE LAW ValueHeld: the law, given the document's Compare, WALKED. -/
import Derived.Test.YtnnnnlcpmocnfaaDoorLaw0
import Derived.Test.YtnnnnlcpmocnfaaDoorRk6
import Derived.Test.YtnnnnlcpmocnfaaDoorCk13
import Derived.Test.YtnnnnlcpmocnfaaDoorVal6
import Derived.Test.YtnnnnlcpmocnfaaDoorVal8
import Derived.Outline
import Derived.WalkLawsBesides
import Derived.Deep.RegionLaw
import Derived.Deep.RegionHeld3
namespace Go.Proofs.YtnnnnlcpmocnfaaDoor
open Go.RowKit
set_option linter.unusedVariables false
set_option linter.unusedSimpArgs false
attribute [local go_sem] run_store_float


set_option maxRecDepth 100000 in
set_option maxHeartbeats 16000000 in
theorem held_of (x y : V) (l m : List (ByteArray × V)) (c : Int) (o : Bool) (w : World) (q1 q2 r1 r2 ql qm : Value)
    (hC : ∀ W, Calls Tryd.prog 13 #[.agg (cv x q1 q2), .agg (cv y r1 r2)] W fun e w' => e = .returned (.tuple #[.int .i64 c, .bool o]) ∧ Below W.heap.size W w')
    (hD : ∀ W, Calls Tryd.prog 14 #[.agg (cv x q1 q2), .agg (cv y r1 r2)] W fun e w' => e = .returned (.tuple #[.int .i64 c, .bool o]) ∧ Below W.heap.size W w')
    (hT : Tabs w) (hx : Rep Any w q1 q2 x) (hy : Rep Any w r1 r2 y) (hl : RepP Any w ql l) (hm : RepP Any w qm m) (hl112 : l.length * 112 ≤ 140737488353000) :
    Calls Tryd.prog 3 #[.agg (cv x q1 q2), .agg (cv y r1 r2), ql, qm] w fun e w' => e = .returned (.bool true) ∧ Below w.heap.size w w' := by
  obtain ⟨a1, c1, rfl, _⟩ := hx.parts.2.1.form
  obtain ⟨a2, c2, rfl, _⟩ := hx.parts.2.2.form
  obtain ⟨b1, d1, rfl, _⟩ := hy.parts.2.1.form
  obtain ⟨b2, d2, rfl, _⟩ := hy.parts.2.2.form
  obtain ⟨WX, hWX⟩ : ∃ WX, WX = w.alloc (.cells (cv x (.slice a1 x.l.length c1) (.slice a2 x.p.length c2)) 27) := ⟨_, rfl⟩
  have hbX : Below w.heap.size w WX := by rw [hWX]; exact al w _
  have hsX : WX.heap.size = w.heap.size + 1 := by rw [hWX]; simp
  obtain ⟨W0, hW0⟩ : ∃ W0, W0 = WX.alloc (.cells (cv y (.slice b1 y.l.length d1) (.slice b2 y.p.length d2)) 27) := ⟨_, rfl⟩
  have hbY : Below WX.heap.size WX W0 := by rw [hW0]; exact al WX _
  have hb0 : Below w.heap.size w W0 := hbX.trans (hbY.mono hbX.size)
  have Bx0 := Lib.hid ((show Box WX w.heap.size x _ _ by rw [hWX]; exact Box.new w x (.slice a1 x.l.length c1) (.slice a2 x.p.length c2)).under hbY)
  have By0 := Lib.hid (show Box W0 (w.heap.size + 1) y _ _ by rw [hW0, ← hsX]; exact Box.new WX y (.slice b1 y.l.length d1) (.slice b2 y.p.length d2))
  have Hx0 := Lib.hid (hx.under hb0)
  have Hy0 := Lib.hid (hy.under hb0)
  have Hl0 := Lib.hid (hl.under hb0)
  have Hm0 := Lib.hid (hm.under hb0)
  have HT0 := Lib.hid (hT.under hb0)
  have Hbel0 := Lib.hid hb0
  have HW0 := Lib.hid (show W0 = (w.alloc (.cells (cv x (.slice a1 x.l.length c1) (.slice a2 x.p.length c2)) 27)).alloc (.cells (cv y (.slice b1 y.l.length d1) (.slice b2 y.p.length d2)) 27) by rw [hW0, hWX])
  have HC := Lib.hid hC
  have HD := Lib.hid hD
  have H112 := Lib.hid hl112
  clear hWX hW0 hbX hbY hb0 hx hy hl hm hT hC hD hsX
  obtain ⟨k0, k1, k2, k3, k4, k5, k6⟩ := Bx0.out.at
  obtain ⟨e0, e1, e2, e3, e4, e5, e6⟩ := By0.out.at
  go_enter Tryd.func3, Tryd.ntmps3
  go_wp2_with fail
  rw [← HW0.out]
  refine (HC.out _).mono ?_
  rintro e W1 ⟨rfl, hb1⟩
  clear k0 k1 k2 k3 k4 k5 k6 e0 e1 e2 e3 e4 e5 e6
  have Hx1 := Lib.hid (Hx0.out.under hb1)
  have Bx1 := Lib.hid (Bx0.out.under hb1)
  have Hy1 := Lib.hid (Hy0.out.under hb1)
  have By1 := Lib.hid (By0.out.under hb1)
  have Hl1 := Lib.hid (Hl0.out.under hb1)
  have Hm1 := Lib.hid (Hm0.out.under hb1)
  have HT1 := Lib.hid (HT0.out.under hb1)
  have Hbel1 := Lib.hid (Hbel0.out.trans (hb1.mono Hbel0.out.size))
  clear Hx0 Bx0 Hy0 By0 Hl0 Hm0 HT0 Hbel0 hb1
  obtain ⟨k0, k1, k2, k3, k4, k5, k6⟩ := Bx1.out.at
  obtain ⟨e0, e1, e2, e3, e4, e5, e6⟩ := By1.out.at
  go_wp2_with fail
  refine (HD.out _).mono ?_
  rintro e W2 ⟨rfl, hb2⟩
  clear k0 k1 k2 k3 k4 k5 k6 e0 e1 e2 e3 e4 e5 e6
  have Hx2 := Lib.hid (Hx1.out.under hb2)
  have Bx2 := Lib.hid (Bx1.out.under hb2)
  have Hy2 := Lib.hid (Hy1.out.under hb2)
  have By2 := Lib.hid (By1.out.under hb2)
  have Hl2 := Lib.hid (Hl1.out.under hb2)
  have Hm2 := Lib.hid (Hm1.out.under hb2)
  have HT2 := Lib.hid (HT1.out.under hb2)
  have Hbel2 := Lib.hid (Hbel1.out.trans (hb2.mono Hbel1.out.size))
  clear Hx1 Bx1 Hy1 By1 Hl1 Hm1 HT1 Hbel1 hb2
  obtain ⟨g1, hg1⟩ : ∃ g, g = w.heap.size := ⟨_, rfl⟩
  go_wp2_with fail
  go_region_held3 (fun w' => (w'.cell? ⟨w.heap.size, 0, none⟩ = some (.int .u8 x.k) ∧ w'.cell? ⟨w.heap.size, 1, none⟩ = some (.string x.s) ∧ w'.cell? ⟨w.heap.size, 2, none⟩ = some (.bool x.b) ∧ w'.cell? ⟨w.heap.size, 3, none⟩ = some (.int .i64 x.n) ∧ w'.cell? ⟨w.heap.size, 4, none⟩ = some (.float .f64 x.f) ∧ w'.cell? ⟨w.heap.size, 5, none⟩ = some (.slice a1 x.l.length c1) ∧ w'.cell? ⟨w.heap.size, 6, none⟩ = some (.slice a2 x.p.length c2)) ∧ (w'.cell? ⟨w.heap.size + 1, 0, none⟩ = some (.int .u8 y.k) ∧ w'.cell? ⟨w.heap.size + 1, 1, none⟩ = some (.string y.s) ∧ w'.cell? ⟨w.heap.size + 1, 2, none⟩ = some (.bool y.b) ∧ w'.cell? ⟨w.heap.size + 1, 3, none⟩ = some (.int .i64 y.n) ∧ w'.cell? ⟨w.heap.size + 1, 4, none⟩ = some (.float .f64 y.f) ∧ w'.cell? ⟨w.heap.size + 1, 5, none⟩ = some (.slice b1 y.l.length d1) ∧ w'.cell? ⟨w.heap.size + 1, 6, none⟩ = some (.slice b2 y.p.length d2)))
    (first | exact ⟨Bx11.out.at, By11.out.at⟩ | exact ⟨Bx10.out.at, By10.out.at⟩ | exact ⟨Bx9.out.at, By9.out.at⟩ | exact ⟨Bx8.out.at, By8.out.at⟩ | exact ⟨Bx7.out.at, By7.out.at⟩ | exact ⟨Bx6.out.at, By6.out.at⟩ | exact ⟨Bx5.out.at, By5.out.at⟩ | exact ⟨Bx4.out.at, By4.out.at⟩ | exact ⟨Bx3.out.at, By3.out.at⟩ | exact ⟨Bx2.out.at, By2.out.at⟩)
    (first | (go_at_call 15; refine (lives_any _).mono ?_; rintro e w3 ⟨rfl, hb3'⟩; have hb3 := below_drew hb3'; have Hx3 := Lib.hid (Hx2.out.under hb3); have Bx3 := Lib.hid (Bx2.out.under hb3); have Hy3 := Lib.hid (Hy2.out.under hb3); have By3 := Lib.hid (By2.out.under hb3); have Hl3 := Lib.hid (Hl2.out.under hb3); have Hm3 := Lib.hid (Hm2.out.under hb3); have HT3 := Lib.hid (HT2.out.under hb3); have Hbel3 := Lib.hid (Hbel2.out.trans (hb3.mono Hbel2.out.size))) | (go_at_call 16; refine (check_any x _ _ _ HT3.out Hx3.out).mono ?_; rintro e w4 ⟨rfl, hb4⟩; have Hx4 := Lib.hid (Hx3.out.under hb4); have Bx4 := Lib.hid (Bx3.out.under hb4); have Hy4 := Lib.hid (Hy3.out.under hb4); have By4 := Lib.hid (By3.out.under hb4); have Hl4 := Lib.hid (Hl3.out.under hb4); have Hm4 := Lib.hid (Hm3.out.under hb4); have HT4 := Lib.hid (HT3.out.under hb4); have Hbel4 := Lib.hid (Hbel3.out.trans (hb4.mono Hbel3.out.size))) | (go_at_call 17; refine (rcheck_any x _ _ _ Hx4.out).mono ?_; rintro e w5 ⟨rfl, hb5⟩; have Hx5 := Lib.hid (Hx4.out.under hb5); have Bx5 := Lib.hid (Bx4.out.under hb5); have Hy5 := Lib.hid (Hy4.out.under hb5); have By5 := Lib.hid (By4.out.under hb5); have Hl5 := Lib.hid (Hl4.out.under hb5); have Hm5 := Lib.hid (Hm4.out.under hb5); have HT5 := Lib.hid (HT4.out.under hb5); have Hbel5 := Lib.hid (Hbel4.out.trans (hb5.mono Hbel4.out.size))) | (go_at_call 18; refine (checkp_any l _ _ H112.out HT5.out Hl5.out).mono ?_; rintro e w6 ⟨rfl, hb6⟩; have Hx6 := Lib.hid (Hx5.out.under hb6); have Bx6 := Lib.hid (Bx5.out.under hb6); have Hy6 := Lib.hid (Hy5.out.under hb6); have By6 := Lib.hid (By5.out.under hb6); have Hl6 := Lib.hid (Hl5.out.under hb6); have Hm6 := Lib.hid (Hm5.out.under hb6); have HT6 := Lib.hid (HT5.out.under hb6); have Hbel6 := Lib.hid (Hbel5.out.trans (hb6.mono Hbel5.out.size))) | (go_at_call 19; refine (rcheckp_any l _ _ Hl6.out H112.out).mono ?_; rintro e w7 ⟨rfl, hb7⟩; have Hx7 := Lib.hid (Hx6.out.under hb7); have Bx7 := Lib.hid (Bx6.out.under hb7); have Hy7 := Lib.hid (Hy6.out.under hb7); have By7 := Lib.hid (By6.out.under hb7); have Hl7 := Lib.hid (Hl6.out.under hb7); have Hm7 := Lib.hid (Hm6.out.under hb7); have HT7 := Lib.hid (HT6.out.under hb7); have Hbel7 := Lib.hid (Hbel6.out.trans (hb7.mono Hbel6.out.size))) | (go_at_call 20; refine (vs_any x y _ _ _ _ _ Hx7.out Hy7.out).mono ?_; rintro e w8 ⟨rfl, hb8⟩; have Hx8 := Lib.hid (Hx7.out.under hb8); have Bx8 := Lib.hid (Bx7.out.under hb8); have Hy8 := Lib.hid (Hy7.out.under hb8); have By8 := Lib.hid (By7.out.under hb8); have Hl8 := Lib.hid (Hl7.out.under hb8); have Hm8 := Lib.hid (Hm7.out.under hb8); have HT8 := Lib.hid (HT7.out.under hb8); have Hbel8 := Lib.hid (Hbel7.out.trans (hb8.mono Hbel7.out.size))) | (go_at_call 21; refine (rs_any x y _ _ _ _ _ Hx8.out Hy8.out).mono ?_; rintro e w9 ⟨rfl, hb9⟩; have Hx9 := Lib.hid (Hx8.out.under hb9); have Bx9 := Lib.hid (Bx8.out.under hb9); have Hy9 := Lib.hid (Hy8.out.under hb9); have By9 := Lib.hid (By8.out.under hb9); have Hl9 := Lib.hid (Hl8.out.under hb9); have Hm9 := Lib.hid (Hm8.out.under hb9); have HT9 := Lib.hid (HT8.out.under hb9); have Hbel9 := Lib.hid (Hbel8.out.trans (hb9.mono Hbel8.out.size))) | (go_at_call 22; refine (sp_any l m _ _ _ Hl9.out Hm9.out).mono ?_; rintro e w10 ⟨rfl, hb10⟩; have Hx10 := Lib.hid (Hx9.out.under hb10); have Bx10 := Lib.hid (Bx9.out.under hb10); have Hy10 := Lib.hid (Hy9.out.under hb10); have By10 := Lib.hid (By9.out.under hb10); have Hl10 := Lib.hid (Hl9.out.under hb10); have Hm10 := Lib.hid (Hm9.out.under hb10); have HT10 := Lib.hid (HT9.out.under hb10); have Hbel10 := Lib.hid (Hbel9.out.trans (hb10.mono Hbel9.out.size))) | (go_at_call 23; refine (rsp_any l m _ _ _ Hl10.out Hm10.out).mono ?_; rintro e w11 ⟨rfl, hb11⟩; have Hx11 := Lib.hid (Hx10.out.under hb11); have Bx11 := Lib.hid (Bx10.out.under hb11); have Hy11 := Lib.hid (Hy10.out.under hb11); have By11 := Lib.hid (By10.out.under hb11); have Hl11 := Lib.hid (Hl10.out.under hb11); have Hm11 := Lib.hid (Hm10.out.under hb11); have HT11 := Lib.hid (HT10.out.under hb11); have Hbel11 := Lib.hid (Hbel10.out.trans (hb11.mono Hbel10.out.size))) | fail)
  go_wp2
  go_ret
  exact ⟨rfl, Hbel11.out⟩
end Go.Proofs.YtnnnnlcpmocnfaaDoor
