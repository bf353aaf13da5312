/- THE LAW ValuePuts, WALKED. -/
import Derived.Test.YtnnnnlcpmocnfaaDoorLaw0
import Derived.Outline
import Derived.WalkLawsBesides
import Derived.Deep.RegionLaw
import Derived.Deep.RegionHeld3
namespace Go.Proofs.YtnnnnlcpmocnfaaDoor
open Go.RowKit
set_option linter.unusedVariables false
set_option linter.unusedSimpArgs false
attribute [local go_sem] run_store_float


set_option maxRecDepth 100000 in
set_option maxHeartbeats 16000000 in
theorem puts_walk_eq (l : List (ByteArray × V)) (key other : ByteArray) (x : V) (hl112 : l.length * 112 ≤ 140737488351232) (hk1 : key.size ≤ 140737488353000) (hk2 : other.size ≤ 140737488353000) (hd : (other.toList == key.toList) = true) (he : True)
    (y : V) (b : Bool) (hg : getOr l other = (y, b)) (w : World) (q q1 q2 : Value) (hq : RepP Any w q l) (hx : Rep Any w q1 q2 x) :
    Calls Tryd.prog 7 #[q, .string key, .string other, .agg (cv x q1 q2)] w fun e w' => e = .returned (.bool true) ∧ Below w.heap.size w w' := by
  obtain ⟨a1, c1, rfl, _⟩ := hx.parts.2.1.form
  obtain ⟨a2, c2, rfl, _⟩ := hx.parts.2.2.form
  obtain ⟨aq, cq, rfl, _⟩ := hq.form
  obtain ⟨W0, hW0⟩ : ∃ W0, W0 = w.alloc (.cells (cv x (.slice a1 x.l.length c1) (.slice a2 x.p.length c2)) 27) := ⟨_, rfl⟩
  have hb0 : Below w.heap.size w W0 := by rw [hW0]; exact al w _
  have Hl0 := Lib.hid (hq.under hb0)
  have Hx0 := Lib.hid (hx.under hb0)
  have Bx0 := Lib.hid (show Box W0 w.heap.size x _ _ by rw [hW0]; exact Box.new w x (.slice a1 x.l.length c1) (.slice a2 x.p.length c2))
  have HW0 := Lib.hid hW0
  have Hbel0 := Lib.hid hb0
  have H112 := Lib.hid hl112
  have Hk1 := Lib.hid hk1
  have Hk2 := Lib.hid hk2
  have Hg := Lib.hid hg
  have He := Lib.hid he
  clear hW0 hb0 hq hx hl112 hk1 hk2 hg he
  go_enter Tryd.func7, Tryd.ntmps7
  go_wp2_with fail
  rw [← HW0.out]
  refine (lives_any _).mono ?_
  rintro e W1 ⟨rfl, hb1⟩
  have Hl1 := Lib.hid (Hl0.out.under hb1)
  have Hx1 := Lib.hid (Hx0.out.under hb1)
  have Bx1 := Lib.hid (Bx0.out.under hb1)
  have Hbel1 := Lib.hid (Hbel0.out.trans (hb1.mono Hbel0.out.size))
  clear Hl0 Hx0 Bx0 Hbel0 hb1
  obtain ⟨bx0, bx1, bx2, bx3, bx4, bx5, bx6⟩ := Bx1.out.at
  go_wp2_with fail
  clear bx0 bx1 bx2 bx3 bx4 bx5 bx6
  refine (put_is put_any Hl1.out (by have := H112.out; omega) Hk1.out Hx1.out).mono ?_
  rintro e W2 ⟨ava, cva, rfl, hva, hb2⟩
  have Hl2 := Lib.hid (Hl1.out.under hb2)
  have Hx2 := Lib.hid (Hx1.out.under hb2)
  have Bx2 := Lib.hid (Bx1.out.under hb2)
  have Hbel2 := Lib.hid (Hbel1.out.trans (hb2.mono Hbel1.out.size))
  clear Hl1 Hx1 Bx1 Hbel1 hb2
  have Ha := Lib.hid hva
  clear hva
  go_wp2_with fail
  refine (get_is get_any (get_put key x l) Ha.out Hk1.out).mono ?_
  rintro e W3 ⟨b1, d1, b2, d2, rfl, hr3, hb3⟩
  have Hl3 := Lib.hid (Hl2.out.under hb3)
  have Hx3 := Lib.hid (Hx2.out.under hb3)
  have Bx3 := Lib.hid (Bx2.out.under hb3)
  have Ha3 := Lib.hid (Ha.out.under hb3)
  have Hbel3 := Lib.hid (Hbel2.out.trans (hb3.mono Hbel2.out.size))
  clear Hl2 Hx2 Bx2 Ha Hbel2 hb3
  obtain ⟨P3, hP3⟩ : ∃ P, P = W3.alloc (.cells (cv x (.slice b1 x.l.length d1) (.slice b2 x.p.length d2)) 27) := ⟨_, rfl⟩
  have hp3 : Below W3.heap.size W3 P3 := by rw [hP3]; exact al _ _
  have Hlp3 := Lib.hid (Hl3.out.under hp3)
  have Hxp3 := Lib.hid (Hx3.out.under hp3)
  have Bxp3 := Lib.hid (Bx3.out.under hp3)
  have Hap3 := Lib.hid (Ha3.out.under hp3)
  have Rup3 := Lib.hid (hr3.under hp3)
  have Bup3 := Lib.hid (show Box P3 W3.heap.size x _ _ by rw [hP3]; exact Box.new W3 x (.slice b1 x.l.length d1) (.slice b2 x.p.length d2))
  have Hbelp3 := Lib.hid (Hbel3.out.trans (hp3.mono Hbel3.out.size))
  have HP3 := Lib.hid hP3
  clear Hl3 Hx3 Bx3 Ha3 Hbel3 hr3 hP3 hp3
  go_wp2_with fail
  rw [← HP3.out]
  refine (drop_is drop_any Hap3.out (by have := H112.out; have := putIn_len key x l; omega) Hk1.out).mono ?_
  rw [drop_put]
  rintro e W4 ⟨avd, cvd, rfl, hvd, hb4⟩
  have Hl4 := Lib.hid (Hlp3.out.under hb4)
  have Hx4 := Lib.hid (Hxp3.out.under hb4)
  have Bx4 := Lib.hid (Bxp3.out.under hb4)
  have Ha4 := Lib.hid (Hap3.out.under hb4)
  have Ru4 := Lib.hid (Rup3.out.under hb4)
  have Bu4 := Lib.hid (Bup3.out.under hb4)
  have Hbel4 := Lib.hid (Hbelp3.out.trans (hb4.mono Hbelp3.out.size))
  clear Hlp3 Hxp3 Bxp3 Hap3 Rup3 Bup3 Hbelp3 hb4
  have Hd := Lib.hid hvd
  clear hvd
  go_wp2_with fail
  refine (get_is get_any (get_drop key l) Hd.out Hk1.out).mono ?_
  rintro e W5 ⟨b3, d3, b4, d4, rfl, hr5, hb5⟩
  have Hl5 := Lib.hid (Hl4.out.under hb5)
  have Hx5 := Lib.hid (Hx4.out.under hb5)
  have Bx5 := Lib.hid (Bx4.out.under hb5)
  have Ha5 := Lib.hid (Ha4.out.under hb5)
  have Ru5 := Lib.hid (Ru4.out.under hb5)
  have Bu5 := Lib.hid (Bu4.out.under hb5)
  have Hd5 := Lib.hid (Hd.out.under hb5)
  have Hbel5 := Lib.hid (Hbel4.out.trans (hb5.mono Hbel4.out.size))
  clear Hl4 Hx4 Bx4 Ha4 Ru4 Bu4 Hd Hbel4 hb5
  obtain ⟨bx0, bx1, bx2, bx3, bx4, bx5, bx6⟩ := Bx5.out.far
  obtain ⟨bu0, bu1, bu2, bu3, bu4, bu5, bu6⟩ := Bu5.out.far
  go_wp2_with fail
  clear bx0 bx1 bx2 bx3 bx4 bx5 bx6
  clear bu0 bu1 bu2 bu3 bu4 bu5 bu6
  obtain ⟨P5, hP5⟩ : ∃ P, P = W5.alloc (.cells (cv zeroV (.slice b3 zeroV.l.length d3) (.slice b4 zeroV.p.length d4)) 27) := ⟨_, rfl⟩
  have hp5 : Below W5.heap.size W5 P5 := by rw [hP5]; exact al _ _
  have Hlp5 := Lib.hid (Hl5.out.under hp5)
  have Hxp5 := Lib.hid (Hx5.out.under hp5)
  have Bxp5 := Lib.hid (Bx5.out.under hp5)
  have Hap5 := Lib.hid (Ha5.out.under hp5)
  have Rup5 := Lib.hid (Ru5.out.under hp5)
  have Bup5 := Lib.hid (Bu5.out.under hp5)
  have Hdp5 := Lib.hid (Hd5.out.under hp5)
  have Rzp5 := Lib.hid (hr5.under hp5)
  have Bzp5 := Lib.hid (show Box P5 W5.heap.size zeroV _ _ by rw [hP5]; exact Box.new W5 zeroV (.slice b3 zeroV.l.length d3) (.slice b4 zeroV.p.length d4))
  have Hbelp5 := Lib.hid (Hbel5.out.trans (hp5.mono Hbel5.out.size))
  have HP5 := Lib.hid hP5
  clear Hl5 Hx5 Bx5 Ha5 Ru5 Bu5 Hd5 Hbel5 hr5 hP5 hp5
  rw [← HP5.out]
  refine (same_is (rs_any x x) Rup5.out Hxp5.out).mono ?_
  rintro e W6 ⟨rfl, hb6⟩
  have Hl6 := Lib.hid (Hlp5.out.under hb6)
  have Hx6 := Lib.hid (Hxp5.out.under hb6)
  have Bx6 := Lib.hid (Bxp5.out.under hb6)
  have Ha6 := Lib.hid (Hap5.out.under hb6)
  have Ru6 := Lib.hid (Rup5.out.under hb6)
  have Bu6 := Lib.hid (Bup5.out.under hb6)
  have Hd6 := Lib.hid (Hdp5.out.under hb6)
  have Rz6 := Lib.hid (Rzp5.out.under hb6)
  have Bz6 := Lib.hid (Bzp5.out.under hb6)
  have Hbel6 := Lib.hid (Hbelp5.out.trans (hb6.mono Hbelp5.out.size))
  clear Hlp5 Hxp5 Bxp5 Hap5 Rup5 Bup5 Hdp5 Rzp5 Bzp5 Hbelp5 hb6
  go_wp2
  go_ret
  exact ⟨rfl, Hbel6.out⟩
end Go.Proofs.YtnnnnlcpmocnfaaDoor
