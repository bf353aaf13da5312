/- ValueBack: the law, WALKED. -/
import Derived.Test.YtnnnnlcpmocnfaaDoorRv8
import Derived.Test.YtnnnnlcpmocnfaaDoorNm
import Derived.Test.YtnnnnlcpmocnfaaDoorSm
import Derived.Test.YtnnnnlcpmocnfaaDoorLaw0
import Derived.Outline
import Derived.WalkLawsBesides
import Derived.Deep.RegionLaw
import Derived.Deep.RegionHeld3
namespace Go.Proofs.YtnnnnlcpmocnfaaDoor
open Go.RowKit
set_option linter.unusedVariables false
set_option linter.unusedSimpArgs false
attribute [local go_sem] run_store_float

set_option maxRecDepth 100000 in
set_option maxHeartbeats 4000000 in
theorem back_of (x : V) (key : ByteArray) (hk : key.size ≤ 140737488353000) (w : World) (q1 q2 : Value) (hT : Tabs w) (hx : Rep Any w q1 q2 x) :
    Calls Tryd.prog 5 #[.agg (cv x q1 q2), .string key] w fun e w' => e = .returned (.bool true) ∧ Below w.heap.size w w' := by
  have hfd := hx.fitD
  obtain ⟨a1, c1, rfl, _⟩ := hx.parts.2.1.form
  obtain ⟨a2, c2, rfl, _⟩ := hx.parts.2.2.form
  obtain ⟨W0, hW0⟩ : ∃ W0, W0 = w.alloc (.cells (cv x (.slice a1 x.l.length c1) (.slice a2 x.p.length c2)) 27) := ⟨_, rfl⟩
  have hb0 : Below w.heap.size w W0 := by rw [hW0]; exact al w _
  have Bx0 := Lib.hid (show Box W0 w.heap.size x _ _ by rw [hW0]; exact Box.new w x (.slice a1 x.l.length c1) (.slice a2 x.p.length c2))
  have Hx0 := Lib.hid (hx.under hb0)
  have HT0 := Lib.hid (hT.under hb0)
  have Hbel0 := Lib.hid hb0
  have HW0 := Lib.hid hW0
  have Hfd := Lib.hid hfd
  have Hk := Lib.hid hk
  clear hW0 hb0 hx hT hfd hk
  go_enter Tryd.func5, Tryd.ntmps5
  go_wp2_with fail
  rw [← HW0.out]
  refine (lives_any _).mono ?_
  rintro e W1 ⟨rfl, hb1⟩
  have Hx1 := Lib.hid (Hx0.out.under hb1)
  have Bx1 := Lib.hid (Bx0.out.under hb1)
  have HT1 := Lib.hid (HT0.out.under hb1)
  have Hbel1 := Lib.hid (Hbel0.out.trans (hb1.mono Hbel0.out.size))
  clear Hx0 Bx0 HT0 Hbel0 hb1
  obtain ⟨k0, k1, k2, k3, k4, k5, k6⟩ := Bx1.out.at
  go_wp2_with fail
  refine (wrt_any2 x _ _ _ HT1.out Hx1.out).mono ?_
  intro e W2 h
  clear k0 k1 k2 k3 k4 k5 k6
  cases hwr : writeR x with
  | error c =>
    rw [hwr] at h
    obtain ⟨rfl, hb2⟩ := wb_no h
    have hc := writeR_zero hwr
    have Hbel2 := Lib.hid (Hbel1.out.trans (hb2.mono Hbel1.out.size))
    clear hwr hb2
    go_wp2
    go_ret
    exact ⟨rfl, Hbel2.out⟩
  | ok t =>
    rw [hwr] at h
    obtain ⟨rfl, hb2⟩ := wb_ok h
    have Hrd := Lib.hid (back_write Hfd.out hwr)
    have Hts := Lib.hid (writeR_short hwr)
    have Hright := Lib.hid (writeR_right hwr)
    have Hx2 := Lib.hid (Hx1.out.under hb2)
    have Bx2 := Lib.hid (Bx1.out.under hb2)
    have HT2 := Lib.hid (HT1.out.under hb2)
    have Hbel2 := Lib.hid (Hbel1.out.trans (hb2.mono Hbel1.out.size))
    clear Hx1 Bx1 HT1 Hbel1 hb2 hwr
    obtain ⟨k0, k1, k2, k3, k4, k5, k6⟩ := Bx2.out.at
    go_wp2_with fail
    refine (rdv_any2 t _ HT2.out (by have := Hts.out; omega)).mono ?_
    intro e W3 h
    rw [show readR t = .ok x from Hrd.out] at h
    obtain ⟨r1, r2, rfl, hv, hb3⟩ := h
    obtain ⟨d1, e1, rfl, _⟩ := hv.parts.2.1.form
    obtain ⟨d2, e2, rfl, _⟩ := hv.parts.2.2.form
    clear k0 k1 k2 k3 k4 k5 k6
    have Hx3 := Lib.hid (Hx2.out.under hb3)
    have Bx3 := Lib.hid (Bx2.out.under hb3)
    have HT3 := Lib.hid (HT2.out.under hb3)
    have Hbel3 := Lib.hid (Hbel2.out.trans (hb3.mono Hbel2.out.size))
    clear Hx2 Bx2 HT2 Hbel2 hb3
    obtain ⟨W4, hW4⟩ : ∃ W4, W4 = W3.alloc (.cells (cv x (.slice d1 x.l.length e1) (.slice d2 x.p.length e2)) 27) := ⟨_, rfl⟩
    have hb4 : Below W3.heap.size W3 W4 := by rw [hW4]; exact al W3 _
    have Bv4 := Lib.hid (show Box W4 W3.heap.size x _ _ by rw [hW4]; exact Box.new W3 x (.slice d1 x.l.length e1) (.slice d2 x.p.length e2))
    have Hv4 := Lib.hid ((hv.keep (Kept.of_below (Below.refl _ _) _) fun _ _ _ => trivial : Rep Any W3 _ _ x).under hb4)
    have HW4 := Lib.hid hW4
    clear hW4 hv
    have Hx4 := Lib.hid (Hx3.out.under hb4)
    have Bx4 := Lib.hid (Bx3.out.under hb4)
    have HT4 := Lib.hid (HT3.out.under hb4)
    have Hbel4 := Lib.hid (Hbel3.out.trans (hb4.mono Hbel3.out.size))
    clear Hx3 Bx3 HT3 Hbel3 hb4
    obtain ⟨k0, k1, k2, k3, k4, k5, k6⟩ := Bx4.out.at
    obtain ⟨v0, v1, v2, v3, v4, v5, v6⟩ := Bv4.out.at
    go_upto_region 7 with (fail)
    rw [← HW4.out]
    go_wp2_with fail
    refine (rs_any x x _ _ _ _ _ Hx4.out Hv4.out).mono ?_
    rintro e W5 ⟨rfl, hb5⟩
    rw [one_refl]
    clear k0 k1 k2 k3 k4 k5 k6 v0 v1 v2 v3 v4 v5 v6
    have Hx5 := Lib.hid (Hx4.out.under hb5)
    have Bx5 := Lib.hid (Bx4.out.under hb5)
    have HT5 := Lib.hid (HT4.out.under hb5)
    have Hbel5 := Lib.hid (Hbel4.out.trans (hb5.mono Hbel4.out.size))
    clear Hx4 Bx4 HT4 Hbel4 hb5
    obtain ⟨k0, k1, k2, k3, k4, k5, k6⟩ := Bx5.out.at
    go_wp2_with fail
    refine (check_any x _ _ _ HT5.out Hx5.out).mono ?_
    rintro e W6 ⟨rfl, hb6⟩
    rw [Hright.out]
    clear k0 k1 k2 k3 k4 k5 k6
    have Hx6 := Lib.hid (Hx5.out.under hb6)
    have Bx6 := Lib.hid (Bx5.out.under hb6)
    have HT6 := Lib.hid (HT5.out.under hb6)
    have Hbel6 := Lib.hid (Hbel5.out.trans (hb6.mono Hbel5.out.size))
    clear Hx5 Bx5 HT5 Hbel5 hb6
    obtain ⟨k0, k1, k2, k3, k4, k5, k6⟩ := Bx6.out.at
    go_wp2_with fail
    refine (wrtp_any2 key Hk.out x _ _ _ HT6.out Hx6.out).mono ?_
    intro e W7 h
    clear k0 k1 k2 k3 k4 k5 k6
    cases hwp : writePR key x with
    | error c =>
      rw [hwp] at h
      obtain ⟨rfl, hb7⟩ := wb_no h
      have hc := writePR_zero hwp
      have Hbel7 := Lib.hid (Hbel6.out.trans (hb7.mono Hbel6.out.size))
      clear hwp hb7
      go_wp2
      go_ret
      exact ⟨rfl, Hbel7.out⟩
    | ok u =>
      rw [hwp] at h
      obtain ⟨rfl, hb7⟩ := wb_ok h
      have Hrp := Lib.hid (back_pair Hfd.out hwp)
      have Hus := Lib.hid (writePR_short hwp)
      have Hx7 := Lib.hid (Hx6.out.under hb7)
      have Bx7 := Lib.hid (Bx6.out.under hb7)
      have HT7 := Lib.hid (HT6.out.under hb7)
      have Hbel7 := Lib.hid (Hbel6.out.trans (hb7.mono Hbel6.out.size))
      clear Hx6 Bx6 HT6 Hbel6 hb7 hwp
      obtain ⟨k0, k1, k2, k3, k4, k5, k6⟩ := Bx7.out.at
      go_wp2_with fail
      refine (rdp_any2 u _ HT7.out (by have := Hus.out; omega)).mono ?_
      intro e W8 h
      rw [show readPR u = .ok (key, x) from Hrp.out] at h
      obtain ⟨r1, r2, _, rfl, hv, hb8⟩ := h
      dsimp only at hv
      obtain ⟨d3, e3, rfl, _⟩ := hv.parts.2.1.form
      obtain ⟨d4, e4, rfl, _⟩ := hv.parts.2.2.form
      clear k0 k1 k2 k3 k4 k5 k6
      have Hx8 := Lib.hid (Hx7.out.under hb8)
      have Bx8 := Lib.hid (Bx7.out.under hb8)
      have HT8 := Lib.hid (HT7.out.under hb8)
      have Hbel8 := Lib.hid (Hbel7.out.trans (hb8.mono Hbel7.out.size))
      clear Hx7 Bx7 HT7 Hbel7 hb8
      obtain ⟨W9, hW9⟩ : ∃ W9, W9 = W8.alloc (.cells (pv key x (.slice d3 x.l.length e3) (.slice d4 x.p.length e4)) 51) := ⟨_, rfl⟩
      have hb9 : Below W8.heap.size W8 W9 := by rw [hW9]; exact al W8 _
      have hp9 : W9.heap[W8.heap.size]? = some (.cells (pv key x (.slice d3 x.l.length e3) (.slice d4 x.p.length e4)) 51 (0, 0)) := by rw [hW9]; exact blk_new W8 _
      have Hv9 := Lib.hid ((hv.keep (Kept.of_below (Below.refl _ _) _) fun _ _ _ => trivial : Rep Any W8 _ _ x).under hb9)
      have HW9 := Lib.hid hW9
      obtain ⟨p0, p1, p2, p3, p4, p5, p6, p7⟩ := At8.box hp9
      simp only [Nat.zero_add] at p0 p1 p2 p3 p4 p5 p6 p7
      clear hW9 hv hp9
      have Hx9 := Lib.hid (Hx8.out.under hb9)
      have Bx9 := Lib.hid (Bx8.out.under hb9)
      have HT9 := Lib.hid (HT8.out.under hb9)
      have Hbel9 := Lib.hid (Hbel8.out.trans (hb9.mono Hbel8.out.size))
      clear Hx8 Bx8 HT8 Hbel8 hb9
      obtain ⟨k0, k1, k2, k3, k4, k5, k6⟩ := Bx9.out.at
      go_upto_region 13 with (fail)
      rw [← HW9.out]
      go_wp2_with fail
      refine (rs_any x x _ _ _ _ _ Hv9.out Hx9.out).mono ?_
      rintro e W10 ⟨rfl, hb10⟩
      rw [one_refl]
      have Hbel10 := Lib.hid (Hbel9.out.trans (hb10.mono Hbel9.out.size))
      clear k0 k1 k2 k3 k4 k5 k6 p0 p1 p2 p3 p4 p5 p6 p7 hb10
      go_wp2
      go_ret
      exact ⟨rfl, Hbel10.out⟩
end Go.Proofs.YtnnnnlcpmocnfaaDoor
