/- THE LAW ValuePuts, WALKED. -/
import Derived.Test.YtnnnnlcpmocnfaaDoorLaw0
import Derived.Outline
import Derived.WalkLawsBesides
import Derived.Deep.RegionLaw
import Derived.Deep.RegionHeld3
namespace Go.Proofs.YtnnnnlcpmocnfaaDoor
open Go.RowKit
set_option linter.unusedVariables false
set_option linter.unusedSimpArgs false
attribute [local go_sem] run_store_float


set_option maxRecDepth 100000 in
set_option maxHeartbeats 16000000 in
theorem puts_walk_ne (l : List (ByteArray × V)) (key other : ByteArray) (x : V) (hl112 : l.length * 112 ≤ 140737488351232) (hk1 : key.size ≤ 140737488353000) (hk2 : other.size ≤ 140737488353000) (hd : (other.toList == key.toList) = false) (he : other ≠ key)
    (y : V) (b : Bool) (hg : getOr l other = (y, b)) (w : World) (q q1 q2 : Value) (hq : RepP Any w q l) (hx : Rep Any w q1 q2 x) :
    Calls Tryd.prog 7 #[q, .string key, .string other, .agg (cv x q1 q2)] w fun e w' => e = .returned (.bool true) ∧ Below w.heap.size w w' := by
  obtain ⟨a1, c1, rfl, _⟩ := hx.parts.2.1.form
  obtain ⟨a2, c2, rfl, _⟩ := hx.parts.2.2.form
  obtain ⟨aq, cq, rfl, _⟩ := hq.form
  obtain ⟨W0, hW0⟩ : ∃ W0, W0 = w.alloc (.cells (cv x (.slice a1 x.l.length c1) (.slice a2 x.p.length c2)) 27) := ⟨_, rfl⟩
  have hb0 : Below w.heap.size w W0 := by rw [hW0]; exact al w _
  have Hl0 := Lib.hid (hq.under hb0)
  have Hx0 := Lib.hid (hx.under hb0)
  have Bx0 := Lib.hid (show Box W0 w.heap.size x _ _ by rw [hW0]; exact Box.new w x (.slice a1 x.l.length c1) (.slice a2 x.p.length c2))
  have HW0 := Lib.hid hW0
  have Hbel0 := Lib.hid hb0
  have H112 := Lib.hid hl112
  have Hk1 := Lib.hid hk1
  have Hk2 := Lib.hid hk2
  have Hg := Lib.hid hg
  have He := Lib.hid he
  clear hW0 hb0 hq hx hl112 hk1 hk2 hg he
  go_enter Tryd.func7, Tryd.ntmps7
  go_wp2_with fail
  rw [← HW0.out]
  refine (lives_any _).mono ?_
  rintro e W1 ⟨rfl, hb1⟩
  have Hl1 := Lib.hid (Hl0.out.under hb1)
  have Hx1 := Lib.hid (Hx0.out.under hb1)
  have Bx1 := Lib.hid (Bx0.out.under hb1)
  have Hbel1 := Lib.hid (Hbel0.out.trans (hb1.mono Hbel0.out.size))
  clear Hl0 Hx0 Bx0 Hbel0 hb1
  obtain ⟨bx0, bx1, bx2, bx3, bx4, bx5, bx6⟩ := Bx1.out.at
  go_wp2_with fail
  clear bx0 bx1 bx2 bx3 bx4 bx5 bx6
  refine (put_is put_any Hl1.out (by have := H112.out; omega) Hk1.out Hx1.out).mono ?_
  rintro e W2 ⟨ava, cva, rfl, hva, hb2⟩
  have Hl2 := Lib.hid (Hl1.out.under hb2)
  have Hx2 := Lib.hid (Hx1.out.under hb2)
  have Bx2 := Lib.hid (Bx1.out.under hb2)
  have Hbel2 := Lib.hid (Hbel1.out.trans (hb2.mono Hbel1.out.size))
  clear Hl1 Hx1 Bx1 Hbel1 hb2
  have Ha := Lib.hid hva
  clear hva
  go_wp2_with fail
  refine (get_is get_any (get_put key x l) Ha.out Hk1.out).mono ?_
  rintro e W3 ⟨b1, d1, b2, d2, rfl, hr3, hb3⟩
  have Hl3 := Lib.hid (Hl2.out.under hb3)
  have Hx3 := Lib.hid (Hx2.out.under hb3)
  have Bx3 := Lib.hid (Bx2.out.under hb3)
  have Ha3 := Lib.hid (Ha.out.under hb3)
  have Hbel3 := Lib.hid (Hbel2.out.trans (hb3.mono Hbel2.out.size))
  clear Hl2 Hx2 Bx2 Ha Hbel2 hb3
  obtain ⟨P3, hP3⟩ : ∃ P, P = W3.alloc (.cells (cv x (.slice b1 x.l.length d1) (.slice b2 x.p.length d2)) 27) := ⟨_, rfl⟩
  have hp3 : Below W3.heap.size W3 P3 := by rw [hP3]; exact al _ _
  have Hlp3 := Lib.hid (Hl3.out.under hp3)
  have Hxp3 := Lib.hid (Hx3.out.under hp3)
  have Bxp3 := Lib.hid (Bx3.out.under hp3)
  have Hap3 := Lib.hid (Ha3.out.under hp3)
  have Rup3 := Lib.hid (hr3.under hp3)
  have Bup3 := Lib.hid (show Box P3 W3.heap.size x _ _ by rw [hP3]; exact Box.new W3 x (.slice b1 x.l.length d1) (.slice b2 x.p.length d2))
  have Hbelp3 := Lib.hid (Hbel3.out.trans (hp3.mono Hbel3.out.size))
  have HP3 := Lib.hid hP3
  clear Hl3 Hx3 Bx3 Ha3 Hbel3 hr3 hP3 hp3
  go_wp2_with fail
  rw [← HP3.out]
  refine (drop_is drop_any Hap3.out (by have := H112.out; have := putIn_len key x l; omega) Hk1.out).mono ?_
  rw [drop_put]
  rintro e W4 ⟨avd, cvd, rfl, hvd, hb4⟩
  have Hl4 := Lib.hid (Hlp3.out.under hb4)
  have Hx4 := Lib.hid (Hxp3.out.under hb4)
  have Bx4 := Lib.hid (Bxp3.out.under hb4)
  have Ha4 := Lib.hid (Hap3.out.under hb4)
  have Ru4 := Lib.hid (Rup3.out.under hb4)
  have Bu4 := Lib.hid (Bup3.out.under hb4)
  have Hbel4 := Lib.hid (Hbelp3.out.trans (hb4.mono Hbelp3.out.size))
  clear Hlp3 Hxp3 Bxp3 Hap3 Rup3 Bup3 Hbelp3 hb4
  have Hd := Lib.hid hvd
  clear hvd
  go_wp2_with fail
  refine (get_is get_any (get_drop key l) Hd.out Hk1.out).mono ?_
  rintro e W5 ⟨b3, d3, b4, d4, rfl, hr5, hb5⟩
  have Hl5 := Lib.hid (Hl4.out.under hb5)
  have Hx5 := Lib.hid (Hx4.out.under hb5)
  have Bx5 := Lib.hid (Bx4.out.under hb5)
  have Ha5 := Lib.hid (Ha4.out.under hb5)
  have Ru5 := Lib.hid (Ru4.out.under hb5)
  have Bu5 := Lib.hid (Bu4.out.under hb5)
  have Hd5 := Lib.hid (Hd.out.under hb5)
  have Hbel5 := Lib.hid (Hbel4.out.trans (hb5.mono Hbel4.out.size))
  clear Hl4 Hx4 Bx4 Ha4 Ru4 Bu4 Hd Hbel4 hb5
  obtain ⟨bx0, bx1, bx2, bx3, bx4, bx5, bx6⟩ := Bx5.out.far
  obtain ⟨bu0, bu1, bu2, bu3, bu4, bu5, bu6⟩ := Bu5.out.far
  go_wp2_with fail
  clear bx0 bx1 bx2 bx3 bx4 bx5 bx6
  clear bu0 bu1 bu2 bu3 bu4 bu5 bu6
  obtain ⟨P5, hP5⟩ : ∃ P, P = W5.alloc (.cells (cv zeroV (.slice b3 zeroV.l.length d3) (.slice b4 zeroV.p.length d4)) 27) := ⟨_, rfl⟩
  have hp5 : Below W5.heap.size W5 P5 := by rw [hP5]; exact al _ _
  have Hlp5 := Lib.hid (Hl5.out.under hp5)
  have Hxp5 := Lib.hid (Hx5.out.under hp5)
  have Bxp5 := Lib.hid (Bx5.out.under hp5)
  have Hap5 := Lib.hid (Ha5.out.under hp5)
  have Rup5 := Lib.hid (Ru5.out.under hp5)
  have Bup5 := Lib.hid (Bu5.out.under hp5)
  have Hdp5 := Lib.hid (Hd5.out.under hp5)
  have Rzp5 := Lib.hid (hr5.under hp5)
  have Bzp5 := Lib.hid (show Box P5 W5.heap.size zeroV _ _ by rw [hP5]; exact Box.new W5 zeroV (.slice b3 zeroV.l.length d3) (.slice b4 zeroV.p.length d4))
  have Hbelp5 := Lib.hid (Hbel5.out.trans (hp5.mono Hbel5.out.size))
  have HP5 := Lib.hid hP5
  clear Hl5 Hx5 Bx5 Ha5 Ru5 Bu5 Hd5 Hbel5 hr5 hP5 hp5
  rw [← HP5.out]
  refine (same_is (rs_any x x) Rup5.out Hxp5.out).mono ?_
  rintro e W6 ⟨rfl, hb6⟩
  have Hl6 := Lib.hid (Hlp5.out.under hb6)
  have Hx6 := Lib.hid (Hxp5.out.under hb6)
  have Bx6 := Lib.hid (Bxp5.out.under hb6)
  have Ha6 := Lib.hid (Hap5.out.under hb6)
  have Ru6 := Lib.hid (Rup5.out.under hb6)
  have Bu6 := Lib.hid (Bup5.out.under hb6)
  have Hd6 := Lib.hid (Hdp5.out.under hb6)
  have Rz6 := Lib.hid (Rzp5.out.under hb6)
  have Bz6 := Lib.hid (Bzp5.out.under hb6)
  have Hbel6 := Lib.hid (Hbelp5.out.trans (hb6.mono Hbelp5.out.size))
  clear Hlp5 Hxp5 Bxp5 Hap5 Rup5 Bup5 Hdp5 Rzp5 Bzp5 Hbelp5 hb6
  go_wp2_with fail
  refine (get_is get_any Hg.out Hl6.out Hk2.out).mono ?_
  rintro e W7 ⟨b5, d5, b6, d6, rfl, hr7, hb7⟩
  have Hl7 := Lib.hid (Hl6.out.under hb7)
  have Hx7 := Lib.hid (Hx6.out.under hb7)
  have Bx7 := Lib.hid (Bx6.out.under hb7)
  have Ha7 := Lib.hid (Ha6.out.under hb7)
  have Ru7 := Lib.hid (Ru6.out.under hb7)
  have Bu7 := Lib.hid (Bu6.out.under hb7)
  have Hd7 := Lib.hid (Hd6.out.under hb7)
  have Rz7 := Lib.hid (Rz6.out.under hb7)
  have Bz7 := Lib.hid (Bz6.out.under hb7)
  have Hbel7 := Lib.hid (Hbel6.out.trans (hb7.mono Hbel6.out.size))
  clear Hl6 Hx6 Bx6 Ha6 Ru6 Bu6 Hd6 Rz6 Bz6 Hbel6 hb7
  obtain ⟨P7, hP7⟩ : ∃ P, P = W7.alloc (.cells (cv y (.slice b5 y.l.length d5) (.slice b6 y.p.length d6)) 27) := ⟨_, rfl⟩
  have hp7 : Below W7.heap.size W7 P7 := by rw [hP7]; exact al _ _
  have Hlp7 := Lib.hid (Hl7.out.under hp7)
  have Hxp7 := Lib.hid (Hx7.out.under hp7)
  have Bxp7 := Lib.hid (Bx7.out.under hp7)
  have Hap7 := Lib.hid (Ha7.out.under hp7)
  have Rup7 := Lib.hid (Ru7.out.under hp7)
  have Bup7 := Lib.hid (Bu7.out.under hp7)
  have Hdp7 := Lib.hid (Hd7.out.under hp7)
  have Rzp7 := Lib.hid (Rz7.out.under hp7)
  have Bzp7 := Lib.hid (Bz7.out.under hp7)
  have Rmp7 := Lib.hid (hr7.under hp7)
  have Bmp7 := Lib.hid (show Box P7 W7.heap.size y _ _ by rw [hP7]; exact Box.new W7 y (.slice b5 y.l.length d5) (.slice b6 y.p.length d6))
  have Hbelp7 := Lib.hid (Hbel7.out.trans (hp7.mono Hbel7.out.size))
  have HP7 := Lib.hid hP7
  clear Hl7 Hx7 Bx7 Ha7 Ru7 Bu7 Hd7 Rz7 Bz7 Hbel7 hr7 hP7 hp7
  go_wp2_with fail
  rw [← HP7.out]
  refine (get_is get_any ((get_put_other x He.out l).trans Hg.out) Hap7.out Hk2.out).mono ?_
  rintro e W8 ⟨b7, d7, b8, d8, rfl, hr8, hb8⟩
  have Hl8 := Lib.hid (Hlp7.out.under hb8)
  have Hx8 := Lib.hid (Hxp7.out.under hb8)
  have Bx8 := Lib.hid (Bxp7.out.under hb8)
  have Ha8 := Lib.hid (Hap7.out.under hb8)
  have Ru8 := Lib.hid (Rup7.out.under hb8)
  have Bu8 := Lib.hid (Bup7.out.under hb8)
  have Hd8 := Lib.hid (Hdp7.out.under hb8)
  have Rz8 := Lib.hid (Rzp7.out.under hb8)
  have Bz8 := Lib.hid (Bzp7.out.under hb8)
  have Rm8 := Lib.hid (Rmp7.out.under hb8)
  have Bm8 := Lib.hid (Bmp7.out.under hb8)
  have Hbel8 := Lib.hid (Hbelp7.out.trans (hb8.mono Hbelp7.out.size))
  clear Hlp7 Hxp7 Bxp7 Hap7 Rup7 Bup7 Hdp7 Rzp7 Bzp7 Rmp7 Bmp7 Hbelp7 hb8
  obtain ⟨P8, hP8⟩ : ∃ P, P = W8.alloc (.cells (cv y (.slice b7 y.l.length d7) (.slice b8 y.p.length d8)) 27) := ⟨_, rfl⟩
  have hp8 : Below W8.heap.size W8 P8 := by rw [hP8]; exact al _ _
  have Hlp8 := Lib.hid (Hl8.out.under hp8)
  have Hxp8 := Lib.hid (Hx8.out.under hp8)
  have Bxp8 := Lib.hid (Bx8.out.under hp8)
  have Hap8 := Lib.hid (Ha8.out.under hp8)
  have Rup8 := Lib.hid (Ru8.out.under hp8)
  have Bup8 := Lib.hid (Bu8.out.under hp8)
  have Hdp8 := Lib.hid (Hd8.out.under hp8)
  have Rzp8 := Lib.hid (Rz8.out.under hp8)
  have Bzp8 := Lib.hid (Bz8.out.under hp8)
  have Rmp8 := Lib.hid (Rm8.out.under hp8)
  have Bmp8 := Lib.hid (Bm8.out.under hp8)
  have Rnp8 := Lib.hid (hr8.under hp8)
  have Bnp8 := Lib.hid (show Box P8 W8.heap.size y _ _ by rw [hP8]; exact Box.new W8 y (.slice b7 y.l.length d7) (.slice b8 y.p.length d8))
  have Hbelp8 := Lib.hid (Hbel8.out.trans (hp8.mono Hbel8.out.size))
  have HP8 := Lib.hid hP8
  clear Hl8 Hx8 Bx8 Ha8 Ru8 Bu8 Hd8 Rz8 Bz8 Rm8 Bm8 Hbel8 hr8 hP8 hp8
  go_wp2_with fail
  rw [← HP8.out]
  refine (get_is get_any ((get_drop_other He.out l).trans Hg.out) Hdp8.out Hk2.out).mono ?_
  rintro e W9 ⟨b9, d9, b10, d10, rfl, hr9, hb9⟩
  have Hl9 := Lib.hid (Hlp8.out.under hb9)
  have Hx9 := Lib.hid (Hxp8.out.under hb9)
  have Bx9 := Lib.hid (Bxp8.out.under hb9)
  have Ha9 := Lib.hid (Hap8.out.under hb9)
  have Ru9 := Lib.hid (Rup8.out.under hb9)
  have Bu9 := Lib.hid (Bup8.out.under hb9)
  have Hd9 := Lib.hid (Hdp8.out.under hb9)
  have Rz9 := Lib.hid (Rzp8.out.under hb9)
  have Bz9 := Lib.hid (Bzp8.out.under hb9)
  have Rm9 := Lib.hid (Rmp8.out.under hb9)
  have Bm9 := Lib.hid (Bmp8.out.under hb9)
  have Rn9 := Lib.hid (Rnp8.out.under hb9)
  have Bn9 := Lib.hid (Bnp8.out.under hb9)
  have Hbel9 := Lib.hid (Hbelp8.out.trans (hb9.mono Hbelp8.out.size))
  clear Hlp8 Hxp8 Bxp8 Hap8 Rup8 Bup8 Hdp8 Rzp8 Bzp8 Rmp8 Bmp8 Rnp8 Bnp8 Hbelp8 hb9
  obtain ⟨bm0, bm1, bm2, bm3, bm4, bm5, bm6⟩ := Bm9.out.far
  obtain ⟨bn0, bn1, bn2, bn3, bn4, bn5, bn6⟩ := Bn9.out.far
  cases b
  all_goals
    go_wp2_with fail
    clear bm0 bm1 bm2 bm3 bm4 bm5 bm6
    clear bn0 bn1 bn2 bn3 bn4 bn5 bn6
    obtain ⟨P9, hP9⟩ : ∃ P, P = W9.alloc (.cells (cv y (.slice b9 y.l.length d9) (.slice b10 y.p.length d10)) 27) := ⟨_, rfl⟩
    have hp9 : Below W9.heap.size W9 P9 := by rw [hP9]; exact al _ _
    have Hlp9 := Lib.hid (Hl9.out.under hp9)
    have Hxp9 := Lib.hid (Hx9.out.under hp9)
    have Bxp9 := Lib.hid (Bx9.out.under hp9)
    have Hap9 := Lib.hid (Ha9.out.under hp9)
    have Rup9 := Lib.hid (Ru9.out.under hp9)
    have Bup9 := Lib.hid (Bu9.out.under hp9)
    have Hdp9 := Lib.hid (Hd9.out.under hp9)
    have Rzp9 := Lib.hid (Rz9.out.under hp9)
    have Bzp9 := Lib.hid (Bz9.out.under hp9)
    have Rmp9 := Lib.hid (Rm9.out.under hp9)
    have Bmp9 := Lib.hid (Bm9.out.under hp9)
    have Rnp9 := Lib.hid (Rn9.out.under hp9)
    have Bnp9 := Lib.hid (Bn9.out.under hp9)
    have Rop9 := Lib.hid (hr9.under hp9)
    have Bop9 := Lib.hid (show Box P9 W9.heap.size y _ _ by rw [hP9]; exact Box.new W9 y (.slice b9 y.l.length d9) (.slice b10 y.p.length d10))
    have Hbelp9 := Lib.hid (Hbel9.out.trans (hp9.mono Hbel9.out.size))
    have HP9 := Lib.hid hP9
    clear Hl9 Hx9 Bx9 Ha9 Ru9 Bu9 Hd9 Rz9 Bz9 Rm9 Bm9 Rn9 Bn9 Hbel9 hr9 hP9 hp9
    rw [← HP9.out]
    refine (same_is (rs_any y y) Rmp9.out Rnp9.out).mono ?_
    rintro e W10 ⟨rfl, hb10⟩
    have Hl10 := Lib.hid (Hlp9.out.under hb10)
    have Hx10 := Lib.hid (Hxp9.out.under hb10)
    have Bx10 := Lib.hid (Bxp9.out.under hb10)
    have Ha10 := Lib.hid (Hap9.out.under hb10)
    have Ru10 := Lib.hid (Rup9.out.under hb10)
    have Bu10 := Lib.hid (Bup9.out.under hb10)
    have Hd10 := Lib.hid (Hdp9.out.under hb10)
    have Rz10 := Lib.hid (Rzp9.out.under hb10)
    have Bz10 := Lib.hid (Bzp9.out.under hb10)
    have Rm10 := Lib.hid (Rmp9.out.under hb10)
    have Bm10 := Lib.hid (Bmp9.out.under hb10)
    have Rn10 := Lib.hid (Rnp9.out.under hb10)
    have Bn10 := Lib.hid (Bnp9.out.under hb10)
    have Ro10 := Lib.hid (Rop9.out.under hb10)
    have Bo10 := Lib.hid (Bop9.out.under hb10)
    have Hbel10 := Lib.hid (Hbelp9.out.trans (hb10.mono Hbelp9.out.size))
    clear Hlp9 Hxp9 Bxp9 Hap9 Rup9 Bup9 Hdp9 Rzp9 Bzp9 Rmp9 Bmp9 Rnp9 Bnp9 Rop9 Bop9 Hbelp9 hb10
    obtain ⟨bm0, bm1, bm2, bm3, bm4, bm5, bm6⟩ := Bm10.out.at
    obtain ⟨bo0, bo1, bo2, bo3, bo4, bo5, bo6⟩ := Bo10.out.at
    go_wp2_with fail
    clear bm0 bm1 bm2 bm3 bm4 bm5 bm6
    clear bo0 bo1 bo2 bo3 bo4 bo5 bo6
    refine (same_is (rs_any y y) Rm10.out Ro10.out).mono ?_
    rintro e W11 ⟨rfl, hb11⟩
    have Hl11 := Lib.hid (Hl10.out.under hb11)
    have Hx11 := Lib.hid (Hx10.out.under hb11)
    have Bx11 := Lib.hid (Bx10.out.under hb11)
    have Ha11 := Lib.hid (Ha10.out.under hb11)
    have Ru11 := Lib.hid (Ru10.out.under hb11)
    have Bu11 := Lib.hid (Bu10.out.under hb11)
    have Hd11 := Lib.hid (Hd10.out.under hb11)
    have Rz11 := Lib.hid (Rz10.out.under hb11)
    have Bz11 := Lib.hid (Bz10.out.under hb11)
    have Rm11 := Lib.hid (Rm10.out.under hb11)
    have Bm11 := Lib.hid (Bm10.out.under hb11)
    have Rn11 := Lib.hid (Rn10.out.under hb11)
    have Bn11 := Lib.hid (Bn10.out.under hb11)
    have Ro11 := Lib.hid (Ro10.out.under hb11)
    have Bo11 := Lib.hid (Bo10.out.under hb11)
    have Hbel11 := Lib.hid (Hbel10.out.trans (hb11.mono Hbel10.out.size))
    clear Hl10 Hx10 Bx10 Ha10 Ru10 Bu10 Hd10 Rz10 Bz10 Rm10 Bm10 Rn10 Bn10 Ro10 Bo10 Hbel10 hb11
    go_wp2_with fail
    refine (drop_is drop_any Hl11.out (by have := H112.out; omega) Hk1.out).mono ?_
    rintro e W12 ⟨ave, cve, rfl, hve, hb12⟩
    have Hl12 := Lib.hid (Hl11.out.under hb12)
    have Hx12 := Lib.hid (Hx11.out.under hb12)
    have Bx12 := Lib.hid (Bx11.out.under hb12)
    have Ha12 := Lib.hid (Ha11.out.under hb12)
    have Ru12 := Lib.hid (Ru11.out.under hb12)
    have Bu12 := Lib.hid (Bu11.out.under hb12)
    have Hd12 := Lib.hid (Hd11.out.under hb12)
    have Rz12 := Lib.hid (Rz11.out.under hb12)
    have Bz12 := Lib.hid (Bz11.out.under hb12)
    have Rm12 := Lib.hid (Rm11.out.under hb12)
    have Bm12 := Lib.hid (Bm11.out.under hb12)
    have Rn12 := Lib.hid (Rn11.out.under hb12)
    have Bn12 := Lib.hid (Bn11.out.under hb12)
    have Ro12 := Lib.hid (Ro11.out.under hb12)
    have Bo12 := Lib.hid (Bo11.out.under hb12)
    have Hbel12 := Lib.hid (Hbel11.out.trans (hb12.mono Hbel11.out.size))
    clear Hl11 Hx11 Bx11 Ha11 Ru11 Bu11 Hd11 Rz11 Bz11 Rm11 Bm11 Rn11 Bn11 Ro11 Bo11 Hbel11 hb12
    go_wp2_with fail
    refine (samep_is (rsp_any _ _) Hd12.out hve).mono ?_
    rintro e W13 ⟨rfl, hb13⟩
    have Hl13 := Lib.hid (Hl12.out.under hb13)
    have Hx13 := Lib.hid (Hx12.out.under hb13)
    have Bx13 := Lib.hid (Bx12.out.under hb13)
    have Ha13 := Lib.hid (Ha12.out.under hb13)
    have Ru13 := Lib.hid (Ru12.out.under hb13)
    have Bu13 := Lib.hid (Bu12.out.under hb13)
    have Hd13 := Lib.hid (Hd12.out.under hb13)
    have Rz13 := Lib.hid (Rz12.out.under hb13)
    have Bz13 := Lib.hid (Bz12.out.under hb13)
    have Rm13 := Lib.hid (Rm12.out.under hb13)
    have Bm13 := Lib.hid (Bm12.out.under hb13)
    have Rn13 := Lib.hid (Rn12.out.under hb13)
    have Bn13 := Lib.hid (Bn12.out.under hb13)
    have Ro13 := Lib.hid (Ro12.out.under hb13)
    have Bo13 := Lib.hid (Bo12.out.under hb13)
    have Hbel13 := Lib.hid (Hbel12.out.trans (hb13.mono Hbel12.out.size))
    clear Hl12 Hx12 Bx12 Ha12 Ru12 Bu12 Hd12 Rz12 Bz12 Rm12 Bm12 Rn12 Bn12 Ro12 Bo12 Hbel12 hb13
    go_wp2
    go_ret
    exact ⟨rfl, Hbel13.out⟩
end Go.Proofs.YtnnnnlcpmocnfaaDoor
