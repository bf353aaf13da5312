/- THE LAW ValueHeld: the document's check, where it goes on, WALKED. -/
import Derived.Test.YtnnnnlcpmocnfaaGreatDoorRk2
import Derived.Test.YtnnnnlcpmocnfaaGreatDoorCk7
import Derived.Outline
import Derived.WalkLawsBesides
import Derived.Deep.RegionLaw
import Derived.Deep.RegionHeld3
namespace Go.Proofs.YtnnnnlcpmocnfaaGreatDoor
open Go.RowKit
set_option linter.unusedVariables false
set_option linter.unusedSimpArgs false
attribute [local go_sem] run_store_float


def RCheckC (x : V) : Prop := ∀ (w : World) (q1 q2 : Value) (d : Int), Rep Any w q1 q2 x → 0 ≤ d → d ≤ 8 → Calls Tryz.prog 54 #[.agg (cv x q1 q2), .int .i64 d] w (RChk (chk x d) w)
/-- of pairs, their number aside -/
noncomputable def prsErr (l : List (ByteArray × V)) (d : Int) : Int := if chkP l d = 0 then onceErr l else chkP l d
def RCheckPC (l : List (ByteArray × V)) : Prop := ∀ (w : World) (q : Value) (d : Int), RepP Any w q l → l.length * 112 ≤ 140737488353000 → 0 ≤ d → d ≤ 9 → (l ≠ [] → d ≤ 8) → Calls Tryz.prog 67 #[q, .int .i64 d] w (RChk (prsErr l d) w)
set_option maxRecDepth 100000 in
set_option maxHeartbeats 8000000 in
theorem rval_main_1 (x : V) (d : Int) (hbare : bareB x = true) (Hlong : Go.RowKit.Hid ((x.s.size : Int) ≤ 4096)) (hk1 : (x.k == 1) = true) (hk5 : (x.k == 5) = false) (hk6 : (x.k == 6) = false) (Hutf : Go.RowKit.Hid (utf x.s = true)) (Hm1 : Go.RowKit.Hid ((x.l.length : Int) ≤ 256)) (Hm2 : Go.RowKit.Hid ((x.p.length : Int) ≤ 256)) (Ihl : Go.RowKit.Hid (∀ a, a ∈ x.l → RCheckC a)) (Ihp : Go.RowKit.Hid (RCheckPC x.p)) (Hdl : Go.RowKit.Hid (x.l ≠ [] → d + 1 ≤ 8)) (Hdp' : Go.RowKit.Hid (x.p ≠ [] → d + 1 ≤ 8)) (Hp112 : Go.RowKit.Hid (x.p.length * 112 ≤ 140737488353000))
    (R : Int) (HR : Go.RowKit.Hid (R = if chkL x.l (d + 1) = 0 then prsErr x.p (d + 1) else chkL x.l (d + 1))) (w : World) (q1 q2 : Value) (hx : Rep Any w q1 q2 x) (hd0 : 0 ≤ d) (hd8 : d ≤ 8) :
    Calls Tryz.prog 54 #[.agg (cv x q1 q2), .int .i64 d] w (RChk R w) := by
  obtain ⟨a1, c1, rfl, _⟩ := hx.parts.2.1.form
  obtain ⟨a2, c2, rfl, _⟩ := hx.parts.2.2.form
  have hfit := hx.parts.1
  obtain ⟨W0, hW0⟩ : ∃ W0, W0 = w.alloc (.cells (cv x (.slice a1 x.l.length c1) (.slice a2 x.p.length c2)) 27) := ⟨_, rfl⟩
  have hb0 : Below w.heap.size w W0 := by rw [hW0]; exact al w _
  have Hbare := Lib.hid (zero_any x hfit c1 c2 a1 a2 W0)
  rw [hbare] at Hbare
  have Hs := Lib.hid hfit.s1
  have Bx0 := Lib.hid (show Box W0 w.heap.size x _ _ by rw [hW0]; exact Box.new w x (.slice a1 x.l.length c1) (.slice a2 x.p.length c2))
  have Hx0 := Lib.hid (hx.under hb0)
  have HW0 := Lib.hid hW0
  have Hbel0 := Lib.hid hb0
  clear hW0 hb0 hx hbare hfit
  obtain ⟨k0, k1, k2, k3, k4, k5, k6⟩ := Bx0.out.at
  go_enter Tryz.func54, Tryz.ntmps54
  go_wp2_with fail
  rw [← HW0.out]
  refine (Hbare.out).mono ?_
  rintro e W1 ⟨rfl, hw1⟩
  have hb1 : Below W0.heap.size W0 W1 := by rw [← hw1]; exact al _ _
  clear k0 k1 k2 k3 k4 k5 k6 hw1
  have Bx1 := Lib.hid (Bx0.out.under hb1)
  have Hbel1 := Lib.hid (Hbel0.out.trans (hb1.mono Hbel0.out.size))
  have Hx1 := Lib.hid (Hx0.out.under hb1)
  clear Bx0 Hbel0 hb1 Hx0
  obtain ⟨k0, k1, k2, k3, k4, k5, k6⟩ := Bx1.out.at
  have hlong := Hlong.out
  go_wp2_with fail
  refine (utf_is x.s W1 Hs.out).mono ?_
  rw [Hutf.out]
  rintro e W2 ⟨rfl, hb2⟩
  clear k0 k1 k2 k3 k4 k5 k6
  have Bx2 := Lib.hid (Bx1.out.under hb2)
  have Hbel2 := Lib.hid (Hbel1.out.trans (hb2.mono Hbel1.out.size))
  have Hx2 := Lib.hid (Hx1.out.under hb2)
  clear Bx1 Hbel1 hb2 Hx1
  obtain ⟨k0, k1, k2, k3, k4, k5, k6⟩ := Bx2.out.at
  have hm1 := Hm1.out
  have hm2 := Hm2.out
  skip
  obtain ⟨n, hn⟩ : ∃ n, n = x.l.length := ⟨_, rfl⟩
  have Hn := Lib.hid hn
  have hn63 : n ≤ 9223372036854775807 := by omega
  go_wp2
  clear k0 k1 k2 k3 k4 k5 k6
  rw [← hn]
  clear hn
  go_loopw [54] (fun i wr => ∃ (k : Nat), i = .int .i64 (k : Int) ∧ k ≤ n ∧ Go.RowKit.Hid ((∀ (j : Nat) (y : V), j < k → x.l[j]? = some y → chk y (d + 1) = 0) ∧ Below W2.heap.size W2 wr)) (fun i _ => n - (intOf i).toNat)
  case atStart => exact ⟨0, rfl, by omega, fun j y hj => absurd hj (by omega), Below.refl _ _⟩
  case round =>
    obtain ⟨k, rfl, hk, hinv⟩ := hrel
    have Hall := Lib.hid hinv.out.1
    have Hbel := Lib.hid hinv.out.2
    clear hinv
    by_cases hlt : k < n
    · obtain ⟨a, ha⟩ := get_at' (l := x.l) (k := k) (by rw [← Hn.out]; exact hlt)
      obtain ⟨g, o, cc, dd, had, hg, ⟨e0, e1, e2, e3, e4, e5, e6⟩, hrep⟩ := ((Hx2.out.under Hbel.out).parts.2.1).at ha
      subst had
      obtain ⟨adc, capc, rfl, _⟩ := hrep.parts.2.1.form
      obtain ⟨add, capd, rfl, _⟩ := hrep.parts.2.2.form
      have hk0 : (0 : Int) ≤ (k : Int) := by omega
      have hkn : (k : Int) < (n : Int) := by omega
      obtain ⟨X, hX⟩ : ∃ X, X = wr.alloc (.cells (cv a (.slice adc a.l.length capc) (.slice add a.p.length capd)) 27) := ⟨_, rfl⟩
      have hBX : Below wr.heap.size wr X := by rw [hX]; exact al _ _
      have hd9 : d + 1 ≤ 8 := Hdl.out (List.ne_nil_of_mem (List.mem_of_getElem? ha))
      have Hcall := Lib.hid (Ihl.out a (List.mem_of_getElem? ha) X _ _ (d + 1) (hrep.under hBX) (by omega) hd9)
      have Bz := Lib.hid (show Box X wr.heap.size a _ _ by rw [hX]; exact Box.new wr a (.slice adc a.l.length capc) (.slice add a.p.length capd))
      have HX := Lib.hid hX
      have HbX := Lib.hid (Hbel.out.trans (hBX.mono Hbel.out.size))
      have Ha := Lib.hid ha
      obtain ⟨z0, z1, z2, z3, z4, z5, z6⟩ := Bz.out.at
      clear hX hBX ha hrep hg hd9
      cases hz : decide (chk a (d + 1) = 0)
      · have hne : ¬ chk a (d + 1) = 0 := of_decide_eq_false hz
        have Hne := Lib.hid hne
        have Hcut := Lib.hid (chkL_cut Ha.out Hall.out Hne.out)
        clear hz
        go_wp2_with fail
        rw [← HX.out]
        refine (Hcall.out).mono ?_
        rintro e w1 ⟨rfl, hb1⟩
        have Hb1 := Lib.hid (HbX.out.trans (hb1.mono HbX.out.size))
        clear hb1 z0 z1 z2 z3 z4 z5 z6
        go_wp2
        go_ret
        exact ⟨by rw [HR.out, Hcut.out, if_neg Hne.out]; rfl, Hbel2.out.trans (Hb1.out.mono Hbel2.out.size)⟩
      · have he : chk a (d + 1) = 0 := of_decide_eq_true hz
        have Hall' := Lib.hid (show ∀ (j : Nat) (y : V), j < k + 1 → x.l[j]? = some y → chk y (d + 1) = 0 from fun j y hj hy => by
          by_cases e : j = k
          · subst e; rw [Ha.out] at hy; obtain rfl := Option.some.inj hy; exact he
          · exact Hall.out j y (by omega) hy)
        rw [he] at Hcall
        clear hz he
        go_wp2_with fail
        rw [← HX.out]
        refine (Hcall.out).mono ?_
        rintro e w1 ⟨rfl, hb1⟩
        have Hb1 := Lib.hid (HbX.out.trans (hb1.mono HbX.out.size))
        clear hb1 z0 z1 z2 z3 z4 z5 z6
        go_wp2
        go_roundw
        case rel => exact ⟨k + 1, by go_num, by omega, Hall'.out, Hb1.out⟩
        case measure => simp [intOf]; omega
    · have hz : chkL x.l (d + 1) = 0 := chkL_ok fun j y hy => Hall.out j y (by have := lt_of_get hy; have := Hn.out; omega) hy
      have HR' := Lib.hid (show R = prsErr x.p (d + 1) by rw [HR.out, if_pos hz])
      have Hp := Lib.hid (Ihp.out wr _ (d + 1) ((Hx2.out.under Hbel.out).parts.2.2) Hp112.out (by omega) (by omega) Hdp'.out)
      obtain ⟨z0, z1, z2, z3, z4, z5, z6⟩ := (Bx2.out.under Hbel.out).at
      clear hz
      go_wp2_with fail
      refine (Hp.out).mono ?_
      rintro e w1 ⟨rfl, hb1⟩
      go_wp2
      go_ret
      exact ⟨by rw [HR'.out]; rfl, Hbel2.out.trans ((Hbel.out.trans (hb1.mono Hbel.out.size)).mono Hbel2.out.size)⟩
set_option maxRecDepth 100000 in
set_option maxHeartbeats 8000000 in
theorem rval_main_5 (x : V) (d : Int) (hbare : bareB x = true) (Hlong : Go.RowKit.Hid ((x.s.size : Int) ≤ 4096)) (hk1 : (x.k == 1) = false) (hk5 : (x.k == 5) = true) (Hm1 : Go.RowKit.Hid ((x.l.length : Int) ≤ 256)) (Hm2 : Go.RowKit.Hid ((x.p.length : Int) ≤ 256)) (Hdp : Go.RowKit.Hid (d < 8)) (Ihl : Go.RowKit.Hid (∀ a, a ∈ x.l → RCheckC a)) (Ihp : Go.RowKit.Hid (RCheckPC x.p)) (Hdl : Go.RowKit.Hid (x.l ≠ [] → d + 1 ≤ 8)) (Hdp' : Go.RowKit.Hid (x.p ≠ [] → d + 1 ≤ 8)) (Hp112 : Go.RowKit.Hid (x.p.length * 112 ≤ 140737488353000))
    (R : Int) (HR : Go.RowKit.Hid (R = if chkL x.l (d + 1) = 0 then prsErr x.p (d + 1) else chkL x.l (d + 1))) (w : World) (q1 q2 : Value) (hx : Rep Any w q1 q2 x) (hd0 : 0 ≤ d) (hd8 : d ≤ 8) :
    Calls Tryz.prog 54 #[.agg (cv x q1 q2), .int .i64 d] w (RChk R w) := by
  obtain ⟨a1, c1, rfl, _⟩ := hx.parts.2.1.form
  obtain ⟨a2, c2, rfl, _⟩ := hx.parts.2.2.form
  have hfit := hx.parts.1
  obtain ⟨W0, hW0⟩ : ∃ W0, W0 = w.alloc (.cells (cv x (.slice a1 x.l.length c1) (.slice a2 x.p.length c2)) 27) := ⟨_, rfl⟩
  have hb0 : Below w.heap.size w W0 := by rw [hW0]; exact al w _
  have Hbare := Lib.hid (zero_any x hfit c1 c2 a1 a2 W0)
  rw [hbare] at Hbare
  have Hs := Lib.hid hfit.s1
  have Bx0 := Lib.hid (show Box W0 w.heap.size x _ _ by rw [hW0]; exact Box.new w x (.slice a1 x.l.length c1) (.slice a2 x.p.length c2))
  have Hx0 := Lib.hid (hx.under hb0)
  have HW0 := Lib.hid hW0
  have Hbel0 := Lib.hid hb0
  clear hW0 hb0 hx hbare hfit
  obtain ⟨k0, k1, k2, k3, k4, k5, k6⟩ := Bx0.out.at
  go_enter Tryz.func54, Tryz.ntmps54
  go_wp2_with fail
  rw [← HW0.out]
  refine (Hbare.out).mono ?_
  rintro e W1 ⟨rfl, hw1⟩
  have hb1 : Below W0.heap.size W0 W1 := by rw [← hw1]; exact al _ _
  clear k0 k1 k2 k3 k4 k5 k6 hw1
  have Bx1 := Lib.hid (Bx0.out.under hb1)
  have Hbel1 := Lib.hid (Hbel0.out.trans (hb1.mono Hbel0.out.size))
  have Hx1 := Lib.hid (Hx0.out.under hb1)
  clear Bx0 Hbel0 hb1 Hx0
  obtain ⟨k0, k1, k2, k3, k4, k5, k6⟩ := Bx1.out.at
  have hlong := Hlong.out
  have hm1 := Hm1.out
  have hm2 := Hm2.out
  have hdp := Hdp.out
  obtain ⟨n, hn⟩ : ∃ n, n = x.l.length := ⟨_, rfl⟩
  have Hn := Lib.hid hn
  have hn63 : n ≤ 9223372036854775807 := by omega
  go_wp2
  clear k0 k1 k2 k3 k4 k5 k6
  rw [← hn]
  clear hn
  go_loopw [54] (fun i wr => ∃ (k : Nat), i = .int .i64 (k : Int) ∧ k ≤ n ∧ Go.RowKit.Hid ((∀ (j : Nat) (y : V), j < k → x.l[j]? = some y → chk y (d + 1) = 0) ∧ Below W1.heap.size W1 wr)) (fun i _ => n - (intOf i).toNat)
  case atStart => exact ⟨0, rfl, by omega, fun j y hj => absurd hj (by omega), Below.refl _ _⟩
  case round =>
    obtain ⟨k, rfl, hk, hinv⟩ := hrel
    have Hall := Lib.hid hinv.out.1
    have Hbel := Lib.hid hinv.out.2
    clear hinv
    by_cases hlt : k < n
    · obtain ⟨a, ha⟩ := get_at' (l := x.l) (k := k) (by rw [← Hn.out]; exact hlt)
      obtain ⟨g, o, cc, dd, had, hg, ⟨e0, e1, e2, e3, e4, e5, e6⟩, hrep⟩ := ((Hx1.out.under Hbel.out).parts.2.1).at ha
      subst had
      obtain ⟨adc, capc, rfl, _⟩ := hrep.parts.2.1.form
      obtain ⟨add, capd, rfl, _⟩ := hrep.parts.2.2.form
      have hk0 : (0 : Int) ≤ (k : Int) := by omega
      have hkn : (k : Int) < (n : Int) := by omega
      obtain ⟨X, hX⟩ : ∃ X, X = wr.alloc (.cells (cv a (.slice adc a.l.length capc) (.slice add a.p.length capd)) 27) := ⟨_, rfl⟩
      have hBX : Below wr.heap.size wr X := by rw [hX]; exact al _ _
      have hd9 : d + 1 ≤ 8 := Hdl.out (List.ne_nil_of_mem (List.mem_of_getElem? ha))
      have Hcall := Lib.hid (Ihl.out a (List.mem_of_getElem? ha) X _ _ (d + 1) (hrep.under hBX) (by omega) hd9)
      have Bz := Lib.hid (show Box X wr.heap.size a _ _ by rw [hX]; exact Box.new wr a (.slice adc a.l.length capc) (.slice add a.p.length capd))
      have HX := Lib.hid hX
      have HbX := Lib.hid (Hbel.out.trans (hBX.mono Hbel.out.size))
      have Ha := Lib.hid ha
      obtain ⟨z0, z1, z2, z3, z4, z5, z6⟩ := Bz.out.at
      clear hX hBX ha hrep hg hd9
      cases hz : decide (chk a (d + 1) = 0)
      · have hne : ¬ chk a (d + 1) = 0 := of_decide_eq_false hz
        have Hne := Lib.hid hne
        have Hcut := Lib.hid (chkL_cut Ha.out Hall.out Hne.out)
        clear hz
        go_wp2_with fail
        rw [← HX.out]
        refine (Hcall.out).mono ?_
        rintro e w1 ⟨rfl, hb1⟩
        have Hb1 := Lib.hid (HbX.out.trans (hb1.mono HbX.out.size))
        clear hb1 z0 z1 z2 z3 z4 z5 z6
        go_wp2
        go_ret
        exact ⟨by rw [HR.out, Hcut.out, if_neg Hne.out]; rfl, Hbel1.out.trans (Hb1.out.mono Hbel1.out.size)⟩
      · have he : chk a (d + 1) = 0 := of_decide_eq_true hz
        have Hall' := Lib.hid (show ∀ (j : Nat) (y : V), j < k + 1 → x.l[j]? = some y → chk y (d + 1) = 0 from fun j y hj hy => by
          by_cases e : j = k
          · subst e; rw [Ha.out] at hy; obtain rfl := Option.some.inj hy; exact he
          · exact Hall.out j y (by omega) hy)
        rw [he] at Hcall
        clear hz he
        go_wp2_with fail
        rw [← HX.out]
        refine (Hcall.out).mono ?_
        rintro e w1 ⟨rfl, hb1⟩
        have Hb1 := Lib.hid (HbX.out.trans (hb1.mono HbX.out.size))
        clear hb1 z0 z1 z2 z3 z4 z5 z6
        go_wp2
        go_roundw
        case rel => exact ⟨k + 1, by go_num, by omega, Hall'.out, Hb1.out⟩
        case measure => simp [intOf]; omega
    · have hz : chkL x.l (d + 1) = 0 := chkL_ok fun j y hy => Hall.out j y (by have := lt_of_get hy; have := Hn.out; omega) hy
      have HR' := Lib.hid (show R = prsErr x.p (d + 1) by rw [HR.out, if_pos hz])
      have Hp := Lib.hid (Ihp.out wr _ (d + 1) ((Hx1.out.under Hbel.out).parts.2.2) Hp112.out (by omega) (by omega) Hdp'.out)
      obtain ⟨z0, z1, z2, z3, z4, z5, z6⟩ := (Bx1.out.under Hbel.out).at
      clear hz
      go_wp2_with fail
      refine (Hp.out).mono ?_
      rintro e w1 ⟨rfl, hb1⟩
      go_wp2
      go_ret
      exact ⟨by rw [HR'.out]; rfl, Hbel1.out.trans ((Hbel.out.trans (hb1.mono Hbel.out.size)).mono Hbel1.out.size)⟩
set_option maxRecDepth 100000 in
set_option maxHeartbeats 8000000 in
theorem rval_main_6 (x : V) (d : Int) (hbare : bareB x = true) (Hlong : Go.RowKit.Hid ((x.s.size : Int) ≤ 4096)) (hk1 : (x.k == 1) = false) (hk5 : (x.k == 5) = false) (hk6 : (x.k == 6) = true) (Hm1 : Go.RowKit.Hid ((x.l.length : Int) ≤ 256)) (Hm2 : Go.RowKit.Hid ((x.p.length : Int) ≤ 256)) (Hdp : Go.RowKit.Hid (d < 8)) (Ihl : Go.RowKit.Hid (∀ a, a ∈ x.l → RCheckC a)) (Ihp : Go.RowKit.Hid (RCheckPC x.p)) (Hdl : Go.RowKit.Hid (x.l ≠ [] → d + 1 ≤ 8)) (Hdp' : Go.RowKit.Hid (x.p ≠ [] → d + 1 ≤ 8)) (Hp112 : Go.RowKit.Hid (x.p.length * 112 ≤ 140737488353000))
    (R : Int) (HR : Go.RowKit.Hid (R = if chkL x.l (d + 1) = 0 then prsErr x.p (d + 1) else chkL x.l (d + 1))) (w : World) (q1 q2 : Value) (hx : Rep Any w q1 q2 x) (hd0 : 0 ≤ d) (hd8 : d ≤ 8) :
    Calls Tryz.prog 54 #[.agg (cv x q1 q2), .int .i64 d] w (RChk R w) := by
  obtain ⟨a1, c1, rfl, _⟩ := hx.parts.2.1.form
  obtain ⟨a2, c2, rfl, _⟩ := hx.parts.2.2.form
  have hfit := hx.parts.1
  obtain ⟨W0, hW0⟩ : ∃ W0, W0 = w.alloc (.cells (cv x (.slice a1 x.l.length c1) (.slice a2 x.p.length c2)) 27) := ⟨_, rfl⟩
  have hb0 : Below w.heap.size w W0 := by rw [hW0]; exact al w _
  have Hbare := Lib.hid (zero_any x hfit c1 c2 a1 a2 W0)
  rw [hbare] at Hbare
  have Hs := Lib.hid hfit.s1
  have Bx0 := Lib.hid (show Box W0 w.heap.size x _ _ by rw [hW0]; exact Box.new w x (.slice a1 x.l.length c1) (.slice a2 x.p.length c2))
  have Hx0 := Lib.hid (hx.under hb0)
  have HW0 := Lib.hid hW0
  have Hbel0 := Lib.hid hb0
  clear hW0 hb0 hx hbare hfit
  obtain ⟨k0, k1, k2, k3, k4, k5, k6⟩ := Bx0.out.at
  go_enter Tryz.func54, Tryz.ntmps54
  go_wp2_with fail
  rw [← HW0.out]
  refine (Hbare.out).mono ?_
  rintro e W1 ⟨rfl, hw1⟩
  have hb1 : Below W0.heap.size W0 W1 := by rw [← hw1]; exact al _ _
  clear k0 k1 k2 k3 k4 k5 k6 hw1
  have Bx1 := Lib.hid (Bx0.out.under hb1)
  have Hbel1 := Lib.hid (Hbel0.out.trans (hb1.mono Hbel0.out.size))
  have Hx1 := Lib.hid (Hx0.out.under hb1)
  clear Bx0 Hbel0 hb1 Hx0
  obtain ⟨k0, k1, k2, k3, k4, k5, k6⟩ := Bx1.out.at
  have hlong := Hlong.out
  have hm1 := Hm1.out
  have hm2 := Hm2.out
  have hdp := Hdp.out
  obtain ⟨n, hn⟩ : ∃ n, n = x.l.length := ⟨_, rfl⟩
  have Hn := Lib.hid hn
  have hn63 : n ≤ 9223372036854775807 := by omega
  go_wp2
  clear k0 k1 k2 k3 k4 k5 k6
  rw [← hn]
  clear hn
  go_loopw [54] (fun i wr => ∃ (k : Nat), i = .int .i64 (k : Int) ∧ k ≤ n ∧ Go.RowKit.Hid ((∀ (j : Nat) (y : V), j < k → x.l[j]? = some y → chk y (d + 1) = 0) ∧ Below W1.heap.size W1 wr)) (fun i _ => n - (intOf i).toNat)
  case atStart => exact ⟨0, rfl, by omega, fun j y hj => absurd hj (by omega), Below.refl _ _⟩
  case round =>
    obtain ⟨k, rfl, hk, hinv⟩ := hrel
    have Hall := Lib.hid hinv.out.1
    have Hbel := Lib.hid hinv.out.2
    clear hinv
    by_cases hlt : k < n
    · obtain ⟨a, ha⟩ := get_at' (l := x.l) (k := k) (by rw [← Hn.out]; exact hlt)
      obtain ⟨g, o, cc, dd, had, hg, ⟨e0, e1, e2, e3, e4, e5, e6⟩, hrep⟩ := ((Hx1.out.under Hbel.out).parts.2.1).at ha
      subst had
      obtain ⟨adc, capc, rfl, _⟩ := hrep.parts.2.1.form
      obtain ⟨add, capd, rfl, _⟩ := hrep.parts.2.2.form
      have hk0 : (0 : Int) ≤ (k : Int) := by omega
      have hkn : (k : Int) < (n : Int) := by omega
      obtain ⟨X, hX⟩ : ∃ X, X = wr.alloc (.cells (cv a (.slice adc a.l.length capc) (.slice add a.p.length capd)) 27) := ⟨_, rfl⟩
      have hBX : Below wr.heap.size wr X := by rw [hX]; exact al _ _
      have hd9 : d + 1 ≤ 8 := Hdl.out (List.ne_nil_of_mem (List.mem_of_getElem? ha))
      have Hcall := Lib.hid (Ihl.out a (List.mem_of_getElem? ha) X _ _ (d + 1) (hrep.under hBX) (by omega) hd9)
      have Bz := Lib.hid (show Box X wr.heap.size a _ _ by rw [hX]; exact Box.new wr a (.slice adc a.l.length capc) (.slice add a.p.length capd))
      have HX := Lib.hid hX
      have HbX := Lib.hid (Hbel.out.trans (hBX.mono Hbel.out.size))
      have Ha := Lib.hid ha
      obtain ⟨z0, z1, z2, z3, z4, z5, z6⟩ := Bz.out.at
      clear hX hBX ha hrep hg hd9
      cases hz : decide (chk a (d + 1) = 0)
      · have hne : ¬ chk a (d + 1) = 0 := of_decide_eq_false hz
        have Hne := Lib.hid hne
        have Hcut := Lib.hid (chkL_cut Ha.out Hall.out Hne.out)
        clear hz
        go_wp2_with fail
        rw [← HX.out]
        refine (Hcall.out).mono ?_
        rintro e w1 ⟨rfl, hb1⟩
        have Hb1 := Lib.hid (HbX.out.trans (hb1.mono HbX.out.size))
        clear hb1 z0 z1 z2 z3 z4 z5 z6
        go_wp2
        go_ret
        exact ⟨by rw [HR.out, Hcut.out, if_neg Hne.out]; rfl, Hbel1.out.trans (Hb1.out.mono Hbel1.out.size)⟩
      · have he : chk a (d + 1) = 0 := of_decide_eq_true hz
        have Hall' := Lib.hid (show ∀ (j : Nat) (y : V), j < k + 1 → x.l[j]? = some y → chk y (d + 1) = 0 from fun j y hj hy => by
          by_cases e : j = k
          · subst e; rw [Ha.out] at hy; obtain rfl := Option.some.inj hy; exact he
          · exact Hall.out j y (by omega) hy)
        rw [he] at Hcall
        clear hz he
        go_wp2_with fail
        rw [← HX.out]
        refine (Hcall.out).mono ?_
        rintro e w1 ⟨rfl, hb1⟩
        have Hb1 := Lib.hid (HbX.out.trans (hb1.mono HbX.out.size))
        clear hb1 z0 z1 z2 z3 z4 z5 z6
        go_wp2
        go_roundw
        case rel => exact ⟨k + 1, by go_num, by omega, Hall'.out, Hb1.out⟩
        case measure => simp [intOf]; omega
    · have hz : chkL x.l (d + 1) = 0 := chkL_ok fun j y hy => Hall.out j y (by have := lt_of_get hy; have := Hn.out; omega) hy
      have HR' := Lib.hid (show R = prsErr x.p (d + 1) by rw [HR.out, if_pos hz])
      have Hp := Lib.hid (Ihp.out wr _ (d + 1) ((Hx1.out.under Hbel.out).parts.2.2) Hp112.out (by omega) (by omega) Hdp'.out)
      obtain ⟨z0, z1, z2, z3, z4, z5, z6⟩ := (Bx1.out.under Hbel.out).at
      clear hz
      go_wp2_with fail
      refine (Hp.out).mono ?_
      rintro e w1 ⟨rfl, hb1⟩
      go_wp2
      go_ret
      exact ⟨by rw [HR'.out]; rfl, Hbel1.out.trans ((Hbel.out.trans (hb1.mono Hbel.out.size)).mono Hbel1.out.size)⟩
set_option maxRecDepth 100000 in
set_option maxHeartbeats 8000000 in
theorem rval_main_o (x : V) (d : Int) (hbare : bareB x = true) (Hlong : Go.RowKit.Hid ((x.s.size : Int) ≤ 4096)) (hk1 : (x.k == 1) = false) (hk5 : (x.k == 5) = false) (hk6 : (x.k == 6) = false) (Hm1 : Go.RowKit.Hid ((x.l.length : Int) ≤ 256)) (Hm2 : Go.RowKit.Hid ((x.p.length : Int) ≤ 256)) (Ihl : Go.RowKit.Hid (∀ a, a ∈ x.l → RCheckC a)) (Ihp : Go.RowKit.Hid (RCheckPC x.p)) (Hdl : Go.RowKit.Hid (x.l ≠ [] → d + 1 ≤ 8)) (Hdp' : Go.RowKit.Hid (x.p ≠ [] → d + 1 ≤ 8)) (Hp112 : Go.RowKit.Hid (x.p.length * 112 ≤ 140737488353000))
    (R : Int) (HR : Go.RowKit.Hid (R = if chkL x.l (d + 1) = 0 then prsErr x.p (d + 1) else chkL x.l (d + 1))) (w : World) (q1 q2 : Value) (hx : Rep Any w q1 q2 x) (hd0 : 0 ≤ d) (hd8 : d ≤ 8) :
    Calls Tryz.prog 54 #[.agg (cv x q1 q2), .int .i64 d] w (RChk R w) := by
  obtain ⟨a1, c1, rfl, _⟩ := hx.parts.2.1.form
  obtain ⟨a2, c2, rfl, _⟩ := hx.parts.2.2.form
  have hfit := hx.parts.1
  obtain ⟨W0, hW0⟩ : ∃ W0, W0 = w.alloc (.cells (cv x (.slice a1 x.l.length c1) (.slice a2 x.p.length c2)) 27) := ⟨_, rfl⟩
  have hb0 : Below w.heap.size w W0 := by rw [hW0]; exact al w _
  have Hbare := Lib.hid (zero_any x hfit c1 c2 a1 a2 W0)
  rw [hbare] at Hbare
  have Hs := Lib.hid hfit.s1
  have Bx0 := Lib.hid (show Box W0 w.heap.size x _ _ by rw [hW0]; exact Box.new w x (.slice a1 x.l.length c1) (.slice a2 x.p.length c2))
  have Hx0 := Lib.hid (hx.under hb0)
  have HW0 := Lib.hid hW0
  have Hbel0 := Lib.hid hb0
  clear hW0 hb0 hx hbare hfit
  obtain ⟨k0, k1, k2, k3, k4, k5, k6⟩ := Bx0.out.at
  go_enter Tryz.func54, Tryz.ntmps54
  go_wp2_with fail
  rw [← HW0.out]
  refine (Hbare.out).mono ?_
  rintro e W1 ⟨rfl, hw1⟩
  have hb1 : Below W0.heap.size W0 W1 := by rw [← hw1]; exact al _ _
  clear k0 k1 k2 k3 k4 k5 k6 hw1
  have Bx1 := Lib.hid (Bx0.out.under hb1)
  have Hbel1 := Lib.hid (Hbel0.out.trans (hb1.mono Hbel0.out.size))
  have Hx1 := Lib.hid (Hx0.out.under hb1)
  clear Bx0 Hbel0 hb1 Hx0
  obtain ⟨k0, k1, k2, k3, k4, k5, k6⟩ := Bx1.out.at
  have hlong := Hlong.out
  have hm1 := Hm1.out
  have hm2 := Hm2.out
  skip
  obtain ⟨n, hn⟩ : ∃ n, n = x.l.length := ⟨_, rfl⟩
  have Hn := Lib.hid hn
  have hn63 : n ≤ 9223372036854775807 := by omega
  go_wp2
  clear k0 k1 k2 k3 k4 k5 k6
  rw [← hn]
  clear hn
  go_loopw [54] (fun i wr => ∃ (k : Nat), i = .int .i64 (k : Int) ∧ k ≤ n ∧ Go.RowKit.Hid ((∀ (j : Nat) (y : V), j < k → x.l[j]? = some y → chk y (d + 1) = 0) ∧ Below W1.heap.size W1 wr)) (fun i _ => n - (intOf i).toNat)
  case atStart => exact ⟨0, rfl, by omega, fun j y hj => absurd hj (by omega), Below.refl _ _⟩
  case round =>
    obtain ⟨k, rfl, hk, hinv⟩ := hrel
    have Hall := Lib.hid hinv.out.1
    have Hbel := Lib.hid hinv.out.2
    clear hinv
    by_cases hlt : k < n
    · obtain ⟨a, ha⟩ := get_at' (l := x.l) (k := k) (by rw [← Hn.out]; exact hlt)
      obtain ⟨g, o, cc, dd, had, hg, ⟨e0, e1, e2, e3, e4, e5, e6⟩, hrep⟩ := ((Hx1.out.under Hbel.out).parts.2.1).at ha
      subst had
      obtain ⟨adc, capc, rfl, _⟩ := hrep.parts.2.1.form
      obtain ⟨add, capd, rfl, _⟩ := hrep.parts.2.2.form
      have hk0 : (0 : Int) ≤ (k : Int) := by omega
      have hkn : (k : Int) < (n : Int) := by omega
      obtain ⟨X, hX⟩ : ∃ X, X = wr.alloc (.cells (cv a (.slice adc a.l.length capc) (.slice add a.p.length capd)) 27) := ⟨_, rfl⟩
      have hBX : Below wr.heap.size wr X := by rw [hX]; exact al _ _
      have hd9 : d + 1 ≤ 8 := Hdl.out (List.ne_nil_of_mem (List.mem_of_getElem? ha))
      have Hcall := Lib.hid (Ihl.out a (List.mem_of_getElem? ha) X _ _ (d + 1) (hrep.under hBX) (by omega) hd9)
      have Bz := Lib.hid (show Box X wr.heap.size a _ _ by rw [hX]; exact Box.new wr a (.slice adc a.l.length capc) (.slice add a.p.length capd))
      have HX := Lib.hid hX
      have HbX := Lib.hid (Hbel.out.trans (hBX.mono Hbel.out.size))
      have Ha := Lib.hid ha
      obtain ⟨z0, z1, z2, z3, z4, z5, z6⟩ := Bz.out.at
      clear hX hBX ha hrep hg hd9
      cases hz : decide (chk a (d + 1) = 0)
      · have hne : ¬ chk a (d + 1) = 0 := of_decide_eq_false hz
        have Hne := Lib.hid hne
        have Hcut := Lib.hid (chkL_cut Ha.out Hall.out Hne.out)
        clear hz
        go_wp2_with fail
        rw [← HX.out]
        refine (Hcall.out).mono ?_
        rintro e w1 ⟨rfl, hb1⟩
        have Hb1 := Lib.hid (HbX.out.trans (hb1.mono HbX.out.size))
        clear hb1 z0 z1 z2 z3 z4 z5 z6
        go_wp2
        go_ret
        exact ⟨by rw [HR.out, Hcut.out, if_neg Hne.out]; rfl, Hbel1.out.trans (Hb1.out.mono Hbel1.out.size)⟩
      · have he : chk a (d + 1) = 0 := of_decide_eq_true hz
        have Hall' := Lib.hid (show ∀ (j : Nat) (y : V), j < k + 1 → x.l[j]? = some y → chk y (d + 1) = 0 from fun j y hj hy => by
          by_cases e : j = k
          · subst e; rw [Ha.out] at hy; obtain rfl := Option.some.inj hy; exact he
          · exact Hall.out j y (by omega) hy)
        rw [he] at Hcall
        clear hz he
        go_wp2_with fail
        rw [← HX.out]
        refine (Hcall.out).mono ?_
        rintro e w1 ⟨rfl, hb1⟩
        have Hb1 := Lib.hid (HbX.out.trans (hb1.mono HbX.out.size))
        clear hb1 z0 z1 z2 z3 z4 z5 z6
        go_wp2
        go_roundw
        case rel => exact ⟨k + 1, by go_num, by omega, Hall'.out, Hb1.out⟩
        case measure => simp [intOf]; omega
    · have hz : chkL x.l (d + 1) = 0 := chkL_ok fun j y hy => Hall.out j y (by have := lt_of_get hy; have := Hn.out; omega) hy
      have HR' := Lib.hid (show R = prsErr x.p (d + 1) by rw [HR.out, if_pos hz])
      have Hp := Lib.hid (Ihp.out wr _ (d + 1) ((Hx1.out.under Hbel.out).parts.2.2) Hp112.out (by omega) (by omega) Hdp'.out)
      obtain ⟨z0, z1, z2, z3, z4, z5, z6⟩ := (Bx1.out.under Hbel.out).at
      clear hz
      go_wp2_with fail
      refine (Hp.out).mono ?_
      rintro e w1 ⟨rfl, hb1⟩
      go_wp2
      go_ret
      exact ⟨by rw [HR'.out]; rfl, Hbel1.out.trans ((Hbel.out.trans (hb1.mono Hbel.out.size)).mono Hbel1.out.size)⟩
end Go.Proofs.YtnnnnlcpmocnfaaGreatDoor
