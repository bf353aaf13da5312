/- CONF: THE WALK OVER ConfBack. -/
import Derived.Test.YtegobomfhdfodaaGreatDoorFd
import Derived.Test.YtegobomfhdfodaaGreatDoorDtb
namespace Go.Proofs.YtegobomfhdfodaaGreatDoor
open Go.RowKit
set_option maxRecDepth 100000
set_option linter.unusedVariables false
set_option linter.unusedSimpArgs false

set_option maxHeartbeats 8000000 in
theorem back_111 {B : Nat → Prop} (w : World) (q1 q2 : Value) (x : Nd) (s t u : K.T) (c c2 : Int) (p : List (K.T × Nd)) (o : Int × Nat) (hl : s.length ≤ 140737488355000) (hr : Rep B w q1 q2 x) (hT : Tb w) (h1 : K.print x = .ok t) (h2 : K.parse s = .ok p) (h3 : K.print (.mk 0 [] [] p) = .ok u) :
    Calls Tryz.prog 4 #[.agg (nv x q1 q2), S s] w fun e w' => e = .returned (.bool true) ∧ Below w.heap.size w w' := by
  obtain ⟨ad1, cap1, rfl, _⟩ := hr.parts.2.1.form
  obtain ⟨ad2, cap2, rfl, hl2⟩ := hr.parts.2.2.form
  obtain ⟨W, hW⟩ : ∃ W, W = w.alloc (.cells (nv x (.slice ad1 x.l.length cap1) (.slice ad2 x.p.length cap2)) 32) := ⟨_, rfl⟩
  have hF : FW w x (.slice ad1 x.l.length cap1) (.slice ad2 x.p.length cap2) W := by rw [hW]; exact ⟨(Below.refl _ w).alloc (Nat.le_refl _) _, blk_new w _⟩
  obtain ⟨hri, hte, htl, hpt, hpx⟩ := K.print_ok h1
  clear hte
  have hP1 : ∀ V, FW w x (.slice ad1 x.l.length cap1) (.slice ad2 x.p.length cap2) V → Calls Tryz.prog 15 #[.agg (nv x (.slice ad1 x.l.length cap1) (.slice ad2 x.p.length cap2))] V fun e w' => Below V.heap.size V w' ∧ e = .returned (.tuple #[S t, .int .i64 0]) := fun V h => prints_ok h1 V _ _ (h.rep hr) (hT.under h.bel)
  have hP2 : ∀ V, Below w.heap.size w V → Calls Tryz.prog 16 #[S t] V (ParsR V x 0 0) := fun V h => by
    have := parses_ok hpt V (by omega) (hT.under h)
    rw [hpx] at this
    exact this
  have HRI := Lib.hid hri
  have HP2 := Lib.hid hP2
  clear hri htl hpt hpx hP2
  obtain ⟨y, hy⟩ : ∃ y, y = Nd.mk 0 [] [] p := ⟨_, rfl⟩
  have hP3 : ∀ V, Below w.heap.size w V → Calls Tryz.prog 16 #[S s] V (ParsR V y 0 0) := fun V h => by rw [hy]; exact parses_ok h2 V (by omega) (hT.under h)
  have hry : K.right y = true := by rw [hy]; exact K.parse_right h2
  rw [← hy] at h3
  have HRY := Lib.hid hry
  obtain ⟨hri3, hte, htl, hpt, hpx⟩ := K.print_ok h3
  clear hte hri3
  have hP4 : ∀ V q1 q2, Rep Any V q1 q2 y → Below w.heap.size w V → Calls Tryz.prog 15 #[.agg (nv y q1 q2)] V fun e w' => Below V.heap.size V w' ∧ e = .returned (.tuple #[S u, .int .i64 0]) := fun V q1 q2 hv h => prints_ok h3 V _ _ hv (hT.under h)
  have hP5 : ∀ V, Below w.heap.size w V → Calls Tryz.prog 16 #[S u] V (ParsR V y 0 0) := fun V h => by
    have := parses_ok hpt V (by omega) (hT.under h)
    rw [hpx] at this
    exact this
  have HP4 := Lib.hid hP4
  have HP5 := Lib.hid hP5
  clear htl hpt hpx hP4 hP5
  clear hy hry h3
  have HR := Lib.hid hr
  have HW := Lib.hid hW
  have F1 := Lib.hid hF
  have HT := Lib.hid hT
  have HP1 := Lib.hid hP1
  have HP3 := Lib.hid hP3
  clear hr hW hF hT hP1 hP3 h1 h2
  go_enter Tryz.func4, Tryz.ntmps4
  go_upto_region 1 with (fail)
  rw [← HW.out]
  go_wp2_with fail
  refine (lives_any W (HT.out.under F1.out.bel)).mono ?_
  rintro e w2 ⟨rfl, hb2⟩
  have F2 := Lib.hid (F1.out.under hb2)
  obtain ⟨c0, c1, c2', c3⟩ := four F2.out.bx
  have hl0 := blk_lt F2.out.bx
  clear hb2
  go_wp2_with fail
  refine (HP1.out w2 F2.out).mono ?_
  rintro e w3 ⟨hb3, rfl⟩
  have F3 := Lib.hid (F2.out.under hb3)
  clear hb3 c0 c1 c2' c3 hl0
  go_wp2_with fail
  refine (HP2.out w3 F3.out.bel).mono ?_
  rintro e w4 ⟨hb4, a1, e1, rfl, hr4⟩
  obtain ⟨X4, hX4⟩ : ∃ X, X = w4.alloc (.cells (nv x (.slice none x.l.length 0) (.slice a1 x.p.length e1)) 32) := ⟨_, rfl⟩
  obtain ⟨hbX, hbk⟩ := box_new w4 x _ _ hX4
  have F4 := Lib.hid ((F3.out.under hb4).under hbX)
  have HS := Lib.hid (same_yes x _ _ X4 _ _ _ _ (F4.out.rep HR.out) (hr4.under hbX))
  have HX4 := Lib.hid hX4
  obtain ⟨d0, d1, d2, d3⟩ := four hbk
  have hl4 := blk_lt hbk
  obtain ⟨c0, c1, c2', c3⟩ := four F4.out.bx
  have hl0 := blk_lt F4.out.bx
  clear hb4 hr4 hX4 hbX hbk
  go_upto_region 6 with (fail)
  rw [← HX4.out]
  go_wp2_with fail
  refine (HS.out).mono ?_
  rintro e w5 ⟨rfl, hb5⟩
  have F5 := Lib.hid (F4.out.under hb5)
  clear hb5 d0 d1 d2 d3 c0 c1 c2' c3 hl0 hl4
  obtain ⟨c0, c1, c2', c3⟩ := four F5.out.bx
  have hl0 := blk_lt F5.out.bx
  go_wp2_with fail
  refine (checks_ok HRI.out w5 _ _ (F5.out.rep HR.out)).mono ?_
  rintro e w6 ⟨rfl, hb6⟩
  have F6 := Lib.hid (F5.out.under hb6)
  clear hb6 c0 c1 c2' c3 hl0
  go_wp2_with fail
  refine (HP3.out w6 F6.out.bel).mono ?_
  rintro e w7 ⟨hb7, a3, e3, rfl, hr7⟩
  obtain ⟨X7, hX7⟩ : ∃ X, X = w7.alloc (.cells (nv y (.slice none y.l.length 0) (.slice a3 y.p.length e3)) 32) := ⟨_, rfl⟩
  obtain ⟨hbX, hbk⟩ := box_new w7 y _ _ hX7
  have F7 := Lib.hid ((F6.out.under hb7).under hbX)
  have HR7 := Lib.hid (hr7.under hbX)
  have HB7 := Lib.hid hbk
  have HX7 := Lib.hid hX7
  obtain ⟨d0, d1, d2, d3⟩ := four hbk
  have hl7 := blk_lt hbk
  clear hb7 hr7 hX7 hbX hbk
  go_upto_region 9 with (fail)
  rw [← HX7.out]
  go_wp2_with fail
  refine (checks_ok HRY.out X7 _ _ HR7.out).mono ?_
  rintro e w8 ⟨rfl, hb8⟩
  have F8 := Lib.hid (F7.out.under hb8)
  have HR8 := Lib.hid (HR7.out.under hb8)
  have HB8 := Lib.hid (HB7.out.under hb8)
  clear hb8 d0 d1 d2 d3 hl7
  obtain ⟨d0, d1, d2, d3⟩ := four HB8.out
  have hl7 := blk_lt HB8.out
  go_wp2_with fail
  refine (HP4.out w8 _ _ HR8.out F8.out.bel).mono ?_
  rintro e w9 ⟨hb9, rfl⟩
  have F9 := Lib.hid (F8.out.under hb9)
  have HR9 := Lib.hid (HR8.out.under hb9)
  have HB9 := Lib.hid (HB8.out.under hb9)
  clear hb9 d0 d1 d2 d3 hl7
  go_wp2_with fail
  refine (HP5.out w9 F9.out.bel).mono ?_
  rintro e w10 ⟨hb10, a5, e5, rfl, hr10⟩
  obtain ⟨X10, hX10⟩ : ∃ X, X = w10.alloc (.cells (nv y (.slice none y.l.length 0) (.slice a5 y.p.length e5)) 32) := ⟨_, rfl⟩
  obtain ⟨hbX, hbk⟩ := box_new w10 y _ _ hX10
  have hbb := hb10.trans (hbX.mono hb10.size)
  have F10 := Lib.hid (F9.out.under hbb)
  have HS := Lib.hid (same_yes y _ _ X10 _ _ _ _ (HR9.out.under hbb) (hr10.under hbX))
  have HX10 := Lib.hid hX10
  obtain ⟨d0, d1, d2, d3⟩ := four (HB9.out.under hbb)
  have hl7 := blk_lt (HB9.out.under hbb)
  obtain ⟨c0, c1, c2', c3⟩ := four hbk
  have hl10 := blk_lt hbk
  clear hb10 hr10 hX10 hbX hbk hbb
  go_upto_region 17 with (fail)
  rw [← HX10.out]
  go_wp2_with fail
  refine (HS.out).mono ?_
  rintro e w11 ⟨rfl, hb11⟩
  have F11 := Lib.hid (F10.out.under hb11)
  clear hb11 d0 d1 d2 d3 c0 c1 c2' c3
  go_wp2
  refine bodyPost_ret (v := .bool true) (by simp [results, Tryz.results4, go_sem]) rfl ?_
  exact ⟨rfl, F11.out.bel⟩
set_option maxHeartbeats 8000000 in
theorem back_110 {B : Nat → Prop} (w : World) (q1 q2 : Value) (x : Nd) (s t u : K.T) (c c2 : Int) (p : List (K.T × Nd)) (o : Int × Nat) (hl : s.length ≤ 140737488355000) (hr : Rep B w q1 q2 x) (hT : Tb w) (h1 : K.print x = .ok t) (h2 : K.parse s = .ok p) (h3 : K.print (.mk 0 [] [] p) = .error c2) :
    Calls Tryz.prog 4 #[.agg (nv x q1 q2), S s] w fun e w' => e = .returned (.bool true) ∧ Below w.heap.size w w' := by
  obtain ⟨ad1, cap1, rfl, _⟩ := hr.parts.2.1.form
  obtain ⟨ad2, cap2, rfl, hl2⟩ := hr.parts.2.2.form
  obtain ⟨W, hW⟩ : ∃ W, W = w.alloc (.cells (nv x (.slice ad1 x.l.length cap1) (.slice ad2 x.p.length cap2)) 32) := ⟨_, rfl⟩
  have hF : FW w x (.slice ad1 x.l.length cap1) (.slice ad2 x.p.length cap2) W := by rw [hW]; exact ⟨(Below.refl _ w).alloc (Nat.le_refl _) _, blk_new w _⟩
  obtain ⟨hri, hte, htl, hpt, hpx⟩ := K.print_ok h1
  clear hte
  have hP1 : ∀ V, FW w x (.slice ad1 x.l.length cap1) (.slice ad2 x.p.length cap2) V → Calls Tryz.prog 15 #[.agg (nv x (.slice ad1 x.l.length cap1) (.slice ad2 x.p.length cap2))] V fun e w' => Below V.heap.size V w' ∧ e = .returned (.tuple #[S t, .int .i64 0]) := fun V h => prints_ok h1 V _ _ (h.rep hr) (hT.under h.bel)
  have hP2 : ∀ V, Below w.heap.size w V → Calls Tryz.prog 16 #[S t] V (ParsR V x 0 0) := fun V h => by
    have := parses_ok hpt V (by omega) (hT.under h)
    rw [hpx] at this
    exact this
  have HRI := Lib.hid hri
  have HP2 := Lib.hid hP2
  clear hri htl hpt hpx hP2
  obtain ⟨y, hy⟩ : ∃ y, y = Nd.mk 0 [] [] p := ⟨_, rfl⟩
  have hP3 : ∀ V, Below w.heap.size w V → Calls Tryz.prog 16 #[S s] V (ParsR V y 0 0) := fun V h => by rw [hy]; exact parses_ok h2 V (by omega) (hT.under h)
  have hry : K.right y = true := by rw [hy]; exact K.parse_right h2
  rw [← hy] at h3
  have HRY := Lib.hid hry
  have hc4 : c2 = 4 := by
    rcases K.print_err h3 with ⟨_, h⟩ | ⟨h, _⟩
    · rw [hry] at h; cases h
    · exact h
  subst hc4
  have hP4 : ∀ V q1 q2, Rep Any V q1 q2 y → Below w.heap.size w V → Calls Tryz.prog 15 #[.agg (nv y q1 q2)] V fun e w' => Below V.heap.size V w' ∧ e = .returned (.tuple #[S [], .int .i64 4]) := fun V q1 q2 hv h => prints_err h3 V _ _ hv (hT.under h)
  have HP4 := Lib.hid hP4
  clear hP4
  clear hy hry h3
  have HR := Lib.hid hr
  have HW := Lib.hid hW
  have F1 := Lib.hid hF
  have HT := Lib.hid hT
  have HP1 := Lib.hid hP1
  have HP3 := Lib.hid hP3
  clear hr hW hF hT hP1 hP3 h1 h2
  go_enter Tryz.func4, Tryz.ntmps4
  go_upto_region 1 with (fail)
  rw [← HW.out]
  go_wp2_with fail
  refine (lives_any W (HT.out.under F1.out.bel)).mono ?_
  rintro e w2 ⟨rfl, hb2⟩
  have F2 := Lib.hid (F1.out.under hb2)
  obtain ⟨c0, c1, c2', c3⟩ := four F2.out.bx
  have hl0 := blk_lt F2.out.bx
  clear hb2
  go_wp2_with fail
  refine (HP1.out w2 F2.out).mono ?_
  rintro e w3 ⟨hb3, rfl⟩
  have F3 := Lib.hid (F2.out.under hb3)
  clear hb3 c0 c1 c2' c3 hl0
  go_wp2_with fail
  refine (HP2.out w3 F3.out.bel).mono ?_
  rintro e w4 ⟨hb4, a1, e1, rfl, hr4⟩
  obtain ⟨X4, hX4⟩ : ∃ X, X = w4.alloc (.cells (nv x (.slice none x.l.length 0) (.slice a1 x.p.length e1)) 32) := ⟨_, rfl⟩
  obtain ⟨hbX, hbk⟩ := box_new w4 x _ _ hX4
  have F4 := Lib.hid ((F3.out.under hb4).under hbX)
  have HS := Lib.hid (same_yes x _ _ X4 _ _ _ _ (F4.out.rep HR.out) (hr4.under hbX))
  have HX4 := Lib.hid hX4
  obtain ⟨d0, d1, d2, d3⟩ := four hbk
  have hl4 := blk_lt hbk
  obtain ⟨c0, c1, c2', c3⟩ := four F4.out.bx
  have hl0 := blk_lt F4.out.bx
  clear hb4 hr4 hX4 hbX hbk
  go_upto_region 6 with (fail)
  rw [← HX4.out]
  go_wp2_with fail
  refine (HS.out).mono ?_
  rintro e w5 ⟨rfl, hb5⟩
  have F5 := Lib.hid (F4.out.under hb5)
  clear hb5 d0 d1 d2 d3 c0 c1 c2' c3 hl0 hl4
  obtain ⟨c0, c1, c2', c3⟩ := four F5.out.bx
  have hl0 := blk_lt F5.out.bx
  go_wp2_with fail
  refine (checks_ok HRI.out w5 _ _ (F5.out.rep HR.out)).mono ?_
  rintro e w6 ⟨rfl, hb6⟩
  have F6 := Lib.hid (F5.out.under hb6)
  clear hb6 c0 c1 c2' c3 hl0
  go_wp2_with fail
  refine (HP3.out w6 F6.out.bel).mono ?_
  rintro e w7 ⟨hb7, a3, e3, rfl, hr7⟩
  obtain ⟨X7, hX7⟩ : ∃ X, X = w7.alloc (.cells (nv y (.slice none y.l.length 0) (.slice a3 y.p.length e3)) 32) := ⟨_, rfl⟩
  obtain ⟨hbX, hbk⟩ := box_new w7 y _ _ hX7
  have F7 := Lib.hid ((F6.out.under hb7).under hbX)
  have HR7 := Lib.hid (hr7.under hbX)
  have HB7 := Lib.hid hbk
  have HX7 := Lib.hid hX7
  obtain ⟨d0, d1, d2, d3⟩ := four hbk
  have hl7 := blk_lt hbk
  clear hb7 hr7 hX7 hbX hbk
  go_upto_region 9 with (fail)
  rw [← HX7.out]
  go_wp2_with fail
  refine (checks_ok HRY.out X7 _ _ HR7.out).mono ?_
  rintro e w8 ⟨rfl, hb8⟩
  have F8 := Lib.hid (F7.out.under hb8)
  have HR8 := Lib.hid (HR7.out.under hb8)
  have HB8 := Lib.hid (HB7.out.under hb8)
  clear hb8 d0 d1 d2 d3 hl7
  obtain ⟨d0, d1, d2, d3⟩ := four HB8.out
  have hl7 := blk_lt HB8.out
  go_wp2_with fail
  refine (HP4.out w8 _ _ HR8.out F8.out.bel).mono ?_
  rintro e w9 ⟨hb9, rfl⟩
  have F9 := Lib.hid (F8.out.under hb9)
  have HR9 := Lib.hid (HR8.out.under hb9)
  have HB9 := Lib.hid (HB8.out.under hb9)
  clear hb9 d0 d1 d2 d3 hl7
  go_wp2
  refine bodyPost_ret (v := .bool true) (by simp [results, Tryz.results4, go_sem]) rfl ?_
  exact ⟨rfl, F9.out.bel⟩
set_option maxHeartbeats 8000000 in
theorem back_100 {B : Nat → Prop} (w : World) (q1 q2 : Value) (x : Nd) (s t u : K.T) (c c2 : Int) (p : List (K.T × Nd)) (o : Int × Nat) (hl : s.length ≤ 140737488355000) (hr : Rep B w q1 q2 x) (hT : Tb w) (h1 : K.print x = .ok t) (h2 : K.parse s = .error o) :
    Calls Tryz.prog 4 #[.agg (nv x q1 q2), S s] w fun e w' => e = .returned (.bool true) ∧ Below w.heap.size w w' := by
  obtain ⟨ad1, cap1, rfl, _⟩ := hr.parts.2.1.form
  obtain ⟨ad2, cap2, rfl, hl2⟩ := hr.parts.2.2.form
  obtain ⟨W, hW⟩ : ∃ W, W = w.alloc (.cells (nv x (.slice ad1 x.l.length cap1) (.slice ad2 x.p.length cap2)) 32) := ⟨_, rfl⟩
  have hF : FW w x (.slice ad1 x.l.length cap1) (.slice ad2 x.p.length cap2) W := by rw [hW]; exact ⟨(Below.refl _ w).alloc (Nat.le_refl _) _, blk_new w _⟩
  obtain ⟨hri, hte, htl, hpt, hpx⟩ := K.print_ok h1
  clear hte
  have hP1 : ∀ V, FW w x (.slice ad1 x.l.length cap1) (.slice ad2 x.p.length cap2) V → Calls Tryz.prog 15 #[.agg (nv x (.slice ad1 x.l.length cap1) (.slice ad2 x.p.length cap2))] V fun e w' => Below V.heap.size V w' ∧ e = .returned (.tuple #[S t, .int .i64 0]) := fun V h => prints_ok h1 V _ _ (h.rep hr) (hT.under h.bel)
  have hP2 : ∀ V, Below w.heap.size w V → Calls Tryz.prog 16 #[S t] V (ParsR V x 0 0) := fun V h => by
    have := parses_ok hpt V (by omega) (hT.under h)
    rw [hpx] at this
    exact this
  have HRI := Lib.hid hri
  have HP2 := Lib.hid hP2
  clear hri htl hpt hpx hP2
  obtain ⟨ho1, ho2⟩ := K.parse_err h2
  have hP3 : ∀ V, Below w.heap.size w V → Calls Tryz.prog 16 #[S s] V (ParsR V Nd.zero o.1 o.2) := fun V h => parses_err h2 V (by omega) (hT.under h)
  obtain ⟨o1, o2⟩ := o
  simp only at ho1 ho2 hP3
  have HR := Lib.hid hr
  have HW := Lib.hid hW
  have F1 := Lib.hid hF
  have HT := Lib.hid hT
  have HP1 := Lib.hid hP1
  have HP3 := Lib.hid hP3
  clear hr hW hF hT hP1 hP3 h1 h2
  go_enter Tryz.func4, Tryz.ntmps4
  go_upto_region 1 with (fail)
  rw [← HW.out]
  go_wp2_with fail
  refine (lives_any W (HT.out.under F1.out.bel)).mono ?_
  rintro e w2 ⟨rfl, hb2⟩
  have F2 := Lib.hid (F1.out.under hb2)
  obtain ⟨c0, c1, c2', c3⟩ := four F2.out.bx
  have hl0 := blk_lt F2.out.bx
  clear hb2
  go_wp2_with fail
  refine (HP1.out w2 F2.out).mono ?_
  rintro e w3 ⟨hb3, rfl⟩
  have F3 := Lib.hid (F2.out.under hb3)
  clear hb3 c0 c1 c2' c3 hl0
  go_wp2_with fail
  refine (HP2.out w3 F3.out.bel).mono ?_
  rintro e w4 ⟨hb4, a1, e1, rfl, hr4⟩
  obtain ⟨X4, hX4⟩ : ∃ X, X = w4.alloc (.cells (nv x (.slice none x.l.length 0) (.slice a1 x.p.length e1)) 32) := ⟨_, rfl⟩
  obtain ⟨hbX, hbk⟩ := box_new w4 x _ _ hX4
  have F4 := Lib.hid ((F3.out.under hb4).under hbX)
  have HS := Lib.hid (same_yes x _ _ X4 _ _ _ _ (F4.out.rep HR.out) (hr4.under hbX))
  have HX4 := Lib.hid hX4
  obtain ⟨d0, d1, d2, d3⟩ := four hbk
  have hl4 := blk_lt hbk
  obtain ⟨c0, c1, c2', c3⟩ := four F4.out.bx
  have hl0 := blk_lt F4.out.bx
  clear hb4 hr4 hX4 hbX hbk
  go_upto_region 6 with (fail)
  rw [← HX4.out]
  go_wp2_with fail
  refine (HS.out).mono ?_
  rintro e w5 ⟨rfl, hb5⟩
  have F5 := Lib.hid (F4.out.under hb5)
  clear hb5 d0 d1 d2 d3 c0 c1 c2' c3 hl0 hl4
  obtain ⟨c0, c1, c2', c3⟩ := four F5.out.bx
  have hl0 := blk_lt F5.out.bx
  go_wp2_with fail
  refine (checks_ok HRI.out w5 _ _ (F5.out.rep HR.out)).mono ?_
  rintro e w6 ⟨rfl, hb6⟩
  have F6 := Lib.hid (F5.out.under hb6)
  clear hb6 c0 c1 c2' c3 hl0
  go_wp2_with fail
  refine (HP3.out w6 F6.out.bel).mono ?_
  rintro e w7 ⟨hb7, a3, e3, rfl, hr7⟩
  obtain ⟨X7, hX7⟩ : ∃ X, X = w7.alloc (.cells (nv Nd.zero (.slice none Nd.zero.l.length 0) (.slice a3 Nd.zero.p.length e3)) 32) := ⟨_, rfl⟩
  obtain ⟨hbX, hbk⟩ := box_new w7 Nd.zero _ _ hX7
  have F7 := Lib.hid ((F6.out.under hb7).under hbX)
  have HR7 := Lib.hid (hr7.under hbX)
  have HB7 := Lib.hid hbk
  have HX7 := Lib.hid hX7
  obtain ⟨d0, d1, d2, d3⟩ := four hbk
  have hl7 := blk_lt hbk
  clear hb7 hr7 hX7 hbX hbk
  go_upto_region 9 with (fail)
  rw [← HX7.out]
  go_wp2_with fail
  refine (same_yes Nd.zero _ _ X7 _ _ _ _ HR7.out (Rep.zero Any X7)).mono ?_
  rintro e w8 ⟨rfl, hb8⟩
  have F8 := Lib.hid (F7.out.under hb8)
  clear hb8 d0 d1 d2 d3
  go_wp2
  refine bodyPost_ret (v := .bool true) (by simp [results, Tryz.results4, go_sem]) rfl ?_
  exact ⟨rfl, F8.out.bel⟩
set_option maxHeartbeats 8000000 in
theorem back_011 {B : Nat → Prop} (w : World) (q1 q2 : Value) (x : Nd) (s t u : K.T) (c c2 : Int) (p : List (K.T × Nd)) (o : Int × Nat) (hl : s.length ≤ 140737488355000) (hr : Rep B w q1 q2 x) (hT : Tb w) (h1 : K.print x = .error c) (h2 : K.parse s = .ok p) (h3 : K.print (.mk 0 [] [] p) = .ok u) :
    Calls Tryz.prog 4 #[.agg (nv x q1 q2), S s] w fun e w' => e = .returned (.bool true) ∧ Below w.heap.size w w' := by
  obtain ⟨ad1, cap1, rfl, _⟩ := hr.parts.2.1.form
  obtain ⟨ad2, cap2, rfl, hl2⟩ := hr.parts.2.2.form
  obtain ⟨W, hW⟩ : ∃ W, W = w.alloc (.cells (nv x (.slice ad1 x.l.length cap1) (.slice ad2 x.p.length cap2)) 32) := ⟨_, rfl⟩
  have hF : FW w x (.slice ad1 x.l.length cap1) (.slice ad2 x.p.length cap2) W := by rw [hW]; exact ⟨(Below.refl _ w).alloc (Nat.le_refl _) _, blk_new w _⟩
  have hc : ¬ c = 0 ∧ (c == 0) = false := by rcases K.print_err h1 with ⟨h, _⟩ | ⟨h, _⟩ <;> subst h <;> decide
  have hP1 : ∀ V, FW w x (.slice ad1 x.l.length cap1) (.slice ad2 x.p.length cap2) V → Calls Tryz.prog 15 #[.agg (nv x (.slice ad1 x.l.length cap1) (.slice ad2 x.p.length cap2))] V fun e w' => Below V.heap.size V w' ∧ e = .returned (.tuple #[S [], .int .i64 c]) := fun V h => prints_err h1 V _ _ (h.rep hr) (hT.under h.bel)
  obtain ⟨hc1, hc2⟩ := hc
  obtain ⟨y, hy⟩ : ∃ y, y = Nd.mk 0 [] [] p := ⟨_, rfl⟩
  have hP3 : ∀ V, Below w.heap.size w V → Calls Tryz.prog 16 #[S s] V (ParsR V y 0 0) := fun V h => by rw [hy]; exact parses_ok h2 V (by omega) (hT.under h)
  have hry : K.right y = true := by rw [hy]; exact K.parse_right h2
  rw [← hy] at h3
  have HRY := Lib.hid hry
  obtain ⟨hri3, hte, htl, hpt, hpx⟩ := K.print_ok h3
  clear hte hri3
  have hP4 : ∀ V q1 q2, Rep Any V q1 q2 y → Below w.heap.size w V → Calls Tryz.prog 15 #[.agg (nv y q1 q2)] V fun e w' => Below V.heap.size V w' ∧ e = .returned (.tuple #[S u, .int .i64 0]) := fun V q1 q2 hv h => prints_ok h3 V _ _ hv (hT.under h)
  have hP5 : ∀ V, Below w.heap.size w V → Calls Tryz.prog 16 #[S u] V (ParsR V y 0 0) := fun V h => by
    have := parses_ok hpt V (by omega) (hT.under h)
    rw [hpx] at this
    exact this
  have HP4 := Lib.hid hP4
  have HP5 := Lib.hid hP5
  clear htl hpt hpx hP4 hP5
  clear hy hry h3
  have HR := Lib.hid hr
  have HW := Lib.hid hW
  have F1 := Lib.hid hF
  have HT := Lib.hid hT
  have HP1 := Lib.hid hP1
  have HP3 := Lib.hid hP3
  clear hr hW hF hT hP1 hP3 h1 h2
  go_enter Tryz.func4, Tryz.ntmps4
  go_upto_region 1 with (fail)
  rw [← HW.out]
  go_wp2_with fail
  refine (lives_any W (HT.out.under F1.out.bel)).mono ?_
  rintro e w2 ⟨rfl, hb2⟩
  have F2 := Lib.hid (F1.out.under hb2)
  obtain ⟨c0, c1, c2', c3⟩ := four F2.out.bx
  have hl0 := blk_lt F2.out.bx
  clear hb2
  go_wp2_with fail
  refine (HP1.out w2 F2.out).mono ?_
  rintro e w3 ⟨hb3, rfl⟩
  have F3 := Lib.hid (F2.out.under hb3)
  clear hb3 c0 c1 c2' c3 hl0
  go_wp2_with fail
  refine (HP3.out w3 F3.out.bel).mono ?_
  rintro e w7 ⟨hb7, a3, e3, rfl, hr7⟩
  obtain ⟨X7, hX7⟩ : ∃ X, X = w7.alloc (.cells (nv y (.slice none y.l.length 0) (.slice a3 y.p.length e3)) 32) := ⟨_, rfl⟩
  obtain ⟨hbX, hbk⟩ := box_new w7 y _ _ hX7
  have F7 := Lib.hid ((F3.out.under hb7).under hbX)
  have HR7 := Lib.hid (hr7.under hbX)
  have HB7 := Lib.hid hbk
  have HX7 := Lib.hid hX7
  obtain ⟨d0, d1, d2, d3⟩ := four hbk
  have hl7 := blk_lt hbk
  clear hb7 hr7 hX7 hbX hbk
  go_upto_region 9 with (fail)
  rw [← HX7.out]
  go_wp2_with fail
  refine (checks_ok HRY.out X7 _ _ HR7.out).mono ?_
  rintro e w8 ⟨rfl, hb8⟩
  have F8 := Lib.hid (F7.out.under hb8)
  have HR8 := Lib.hid (HR7.out.under hb8)
  have HB8 := Lib.hid (HB7.out.under hb8)
  clear hb8 d0 d1 d2 d3 hl7
  obtain ⟨d0, d1, d2, d3⟩ := four HB8.out
  have hl7 := blk_lt HB8.out
  go_wp2_with fail
  refine (HP4.out w8 _ _ HR8.out F8.out.bel).mono ?_
  rintro e w9 ⟨hb9, rfl⟩
  have F9 := Lib.hid (F8.out.under hb9)
  have HR9 := Lib.hid (HR8.out.under hb9)
  have HB9 := Lib.hid (HB8.out.under hb9)
  clear hb9 d0 d1 d2 d3 hl7
  go_wp2_with fail
  refine (HP5.out w9 F9.out.bel).mono ?_
  rintro e w10 ⟨hb10, a5, e5, rfl, hr10⟩
  obtain ⟨X10, hX10⟩ : ∃ X, X = w10.alloc (.cells (nv y (.slice none y.l.length 0) (.slice a5 y.p.length e5)) 32) := ⟨_, rfl⟩
  obtain ⟨hbX, hbk⟩ := box_new w10 y _ _ hX10
  have hbb := hb10.trans (hbX.mono hb10.size)
  have F10 := Lib.hid (F9.out.under hbb)
  have HS := Lib.hid (same_yes y _ _ X10 _ _ _ _ (HR9.out.under hbb) (hr10.under hbX))
  have HX10 := Lib.hid hX10
  obtain ⟨d0, d1, d2, d3⟩ := four (HB9.out.under hbb)
  have hl7 := blk_lt (HB9.out.under hbb)
  obtain ⟨c0, c1, c2', c3⟩ := four hbk
  have hl10 := blk_lt hbk
  clear hb10 hr10 hX10 hbX hbk hbb
  go_upto_region 17 with (fail)
  rw [← HX10.out]
  go_wp2_with fail
  refine (HS.out).mono ?_
  rintro e w11 ⟨rfl, hb11⟩
  have F11 := Lib.hid (F10.out.under hb11)
  clear hb11 d0 d1 d2 d3 c0 c1 c2' c3
  go_wp2
  refine bodyPost_ret (v := .bool true) (by simp [results, Tryz.results4, go_sem]) rfl ?_
  exact ⟨rfl, F11.out.bel⟩
set_option maxHeartbeats 8000000 in
theorem back_010 {B : Nat → Prop} (w : World) (q1 q2 : Value) (x : Nd) (s t u : K.T) (c c2 : Int) (p : List (K.T × Nd)) (o : Int × Nat) (hl : s.length ≤ 140737488355000) (hr : Rep B w q1 q2 x) (hT : Tb w) (h1 : K.print x = .error c) (h2 : K.parse s = .ok p) (h3 : K.print (.mk 0 [] [] p) = .error c2) :
    Calls Tryz.prog 4 #[.agg (nv x q1 q2), S s] w fun e w' => e = .returned (.bool true) ∧ Below w.heap.size w w' := by
  obtain ⟨ad1, cap1, rfl, _⟩ := hr.parts.2.1.form
  obtain ⟨ad2, cap2, rfl, hl2⟩ := hr.parts.2.2.form
  obtain ⟨W, hW⟩ : ∃ W, W = w.alloc (.cells (nv x (.slice ad1 x.l.length cap1) (.slice ad2 x.p.length cap2)) 32) := ⟨_, rfl⟩
  have hF : FW w x (.slice ad1 x.l.length cap1) (.slice ad2 x.p.length cap2) W := by rw [hW]; exact ⟨(Below.refl _ w).alloc (Nat.le_refl _) _, blk_new w _⟩
  have hc : ¬ c = 0 ∧ (c == 0) = false := by rcases K.print_err h1 with ⟨h, _⟩ | ⟨h, _⟩ <;> subst h <;> decide
  have hP1 : ∀ V, FW w x (.slice ad1 x.l.length cap1) (.slice ad2 x.p.length cap2) V → Calls Tryz.prog 15 #[.agg (nv x (.slice ad1 x.l.length cap1) (.slice ad2 x.p.length cap2))] V fun e w' => Below V.heap.size V w' ∧ e = .returned (.tuple #[S [], .int .i64 c]) := fun V h => prints_err h1 V _ _ (h.rep hr) (hT.under h.bel)
  obtain ⟨hc1, hc2⟩ := hc
  obtain ⟨y, hy⟩ : ∃ y, y = Nd.mk 0 [] [] p := ⟨_, rfl⟩
  have hP3 : ∀ V, Below w.heap.size w V → Calls Tryz.prog 16 #[S s] V (ParsR V y 0 0) := fun V h => by rw [hy]; exact parses_ok h2 V (by omega) (hT.under h)
  have hry : K.right y = true := by rw [hy]; exact K.parse_right h2
  rw [← hy] at h3
  have HRY := Lib.hid hry
  have hc4 : c2 = 4 := by
    rcases K.print_err h3 with ⟨_, h⟩ | ⟨h, _⟩
    · rw [hry] at h; cases h
    · exact h
  subst hc4
  have hP4 : ∀ V q1 q2, Rep Any V q1 q2 y → Below w.heap.size w V → Calls Tryz.prog 15 #[.agg (nv y q1 q2)] V fun e w' => Below V.heap.size V w' ∧ e = .returned (.tuple #[S [], .int .i64 4]) := fun V q1 q2 hv h => prints_err h3 V _ _ hv (hT.under h)
  have HP4 := Lib.hid hP4
  clear hP4
  clear hy hry h3
  have HR := Lib.hid hr
  have HW := Lib.hid hW
  have F1 := Lib.hid hF
  have HT := Lib.hid hT
  have HP1 := Lib.hid hP1
  have HP3 := Lib.hid hP3
  clear hr hW hF hT hP1 hP3 h1 h2
  go_enter Tryz.func4, Tryz.ntmps4
  go_upto_region 1 with (fail)
  rw [← HW.out]
  go_wp2_with fail
  refine (lives_any W (HT.out.under F1.out.bel)).mono ?_
  rintro e w2 ⟨rfl, hb2⟩
  have F2 := Lib.hid (F1.out.under hb2)
  obtain ⟨c0, c1, c2', c3⟩ := four F2.out.bx
  have hl0 := blk_lt F2.out.bx
  clear hb2
  go_wp2_with fail
  refine (HP1.out w2 F2.out).mono ?_
  rintro e w3 ⟨hb3, rfl⟩
  have F3 := Lib.hid (F2.out.under hb3)
  clear hb3 c0 c1 c2' c3 hl0
  go_wp2_with fail
  refine (HP3.out w3 F3.out.bel).mono ?_
  rintro e w7 ⟨hb7, a3, e3, rfl, hr7⟩
  obtain ⟨X7, hX7⟩ : ∃ X, X = w7.alloc (.cells (nv y (.slice none y.l.length 0) (.slice a3 y.p.length e3)) 32) := ⟨_, rfl⟩
  obtain ⟨hbX, hbk⟩ := box_new w7 y _ _ hX7
  have F7 := Lib.hid ((F3.out.under hb7).under hbX)
  have HR7 := Lib.hid (hr7.under hbX)
  have HB7 := Lib.hid hbk
  have HX7 := Lib.hid hX7
  obtain ⟨d0, d1, d2, d3⟩ := four hbk
  have hl7 := blk_lt hbk
  clear hb7 hr7 hX7 hbX hbk
  go_upto_region 9 with (fail)
  rw [← HX7.out]
  go_wp2_with fail
  refine (checks_ok HRY.out X7 _ _ HR7.out).mono ?_
  rintro e w8 ⟨rfl, hb8⟩
  have F8 := Lib.hid (F7.out.under hb8)
  have HR8 := Lib.hid (HR7.out.under hb8)
  have HB8 := Lib.hid (HB7.out.under hb8)
  clear hb8 d0 d1 d2 d3 hl7
  obtain ⟨d0, d1, d2, d3⟩ := four HB8.out
  have hl7 := blk_lt HB8.out
  go_wp2_with fail
  refine (HP4.out w8 _ _ HR8.out F8.out.bel).mono ?_
  rintro e w9 ⟨hb9, rfl⟩
  have F9 := Lib.hid (F8.out.under hb9)
  have HR9 := Lib.hid (HR8.out.under hb9)
  have HB9 := Lib.hid (HB8.out.under hb9)
  clear hb9 d0 d1 d2 d3 hl7
  go_wp2
  refine bodyPost_ret (v := .bool true) (by simp [results, Tryz.results4, go_sem]) rfl ?_
  exact ⟨rfl, F9.out.bel⟩
set_option maxHeartbeats 8000000 in
theorem back_000 {B : Nat → Prop} (w : World) (q1 q2 : Value) (x : Nd) (s t u : K.T) (c c2 : Int) (p : List (K.T × Nd)) (o : Int × Nat) (hl : s.length ≤ 140737488355000) (hr : Rep B w q1 q2 x) (hT : Tb w) (h1 : K.print x = .error c) (h2 : K.parse s = .error o) :
    Calls Tryz.prog 4 #[.agg (nv x q1 q2), S s] w fun e w' => e = .returned (.bool true) ∧ Below w.heap.size w w' := by
  obtain ⟨ad1, cap1, rfl, _⟩ := hr.parts.2.1.form
  obtain ⟨ad2, cap2, rfl, hl2⟩ := hr.parts.2.2.form
  obtain ⟨W, hW⟩ : ∃ W, W = w.alloc (.cells (nv x (.slice ad1 x.l.length cap1) (.slice ad2 x.p.length cap2)) 32) := ⟨_, rfl⟩
  have hF : FW w x (.slice ad1 x.l.length cap1) (.slice ad2 x.p.length cap2) W := by rw [hW]; exact ⟨(Below.refl _ w).alloc (Nat.le_refl _) _, blk_new w _⟩
  have hc : ¬ c = 0 ∧ (c == 0) = false := by rcases K.print_err h1 with ⟨h, _⟩ | ⟨h, _⟩ <;> subst h <;> decide
  have hP1 : ∀ V, FW w x (.slice ad1 x.l.length cap1) (.slice ad2 x.p.length cap2) V → Calls Tryz.prog 15 #[.agg (nv x (.slice ad1 x.l.length cap1) (.slice ad2 x.p.length cap2))] V fun e w' => Below V.heap.size V w' ∧ e = .returned (.tuple #[S [], .int .i64 c]) := fun V h => prints_err h1 V _ _ (h.rep hr) (hT.under h.bel)
  obtain ⟨hc1, hc2⟩ := hc
  obtain ⟨ho1, ho2⟩ := K.parse_err h2
  have hP3 : ∀ V, Below w.heap.size w V → Calls Tryz.prog 16 #[S s] V (ParsR V Nd.zero o.1 o.2) := fun V h => parses_err h2 V (by omega) (hT.under h)
  obtain ⟨o1, o2⟩ := o
  simp only at ho1 ho2 hP3
  have HR := Lib.hid hr
  have HW := Lib.hid hW
  have F1 := Lib.hid hF
  have HT := Lib.hid hT
  have HP1 := Lib.hid hP1
  have HP3 := Lib.hid hP3
  clear hr hW hF hT hP1 hP3 h1 h2
  go_enter Tryz.func4, Tryz.ntmps4
  go_upto_region 1 with (fail)
  rw [← HW.out]
  go_wp2_with fail
  refine (lives_any W (HT.out.under F1.out.bel)).mono ?_
  rintro e w2 ⟨rfl, hb2⟩
  have F2 := Lib.hid (F1.out.under hb2)
  obtain ⟨c0, c1, c2', c3⟩ := four F2.out.bx
  have hl0 := blk_lt F2.out.bx
  clear hb2
  go_wp2_with fail
  refine (HP1.out w2 F2.out).mono ?_
  rintro e w3 ⟨hb3, rfl⟩
  have F3 := Lib.hid (F2.out.under hb3)
  clear hb3 c0 c1 c2' c3 hl0
  go_wp2_with fail
  refine (HP3.out w3 F3.out.bel).mono ?_
  rintro e w7 ⟨hb7, a3, e3, rfl, hr7⟩
  obtain ⟨X7, hX7⟩ : ∃ X, X = w7.alloc (.cells (nv Nd.zero (.slice none Nd.zero.l.length 0) (.slice a3 Nd.zero.p.length e3)) 32) := ⟨_, rfl⟩
  obtain ⟨hbX, hbk⟩ := box_new w7 Nd.zero _ _ hX7
  have F7 := Lib.hid ((F3.out.under hb7).under hbX)
  have HR7 := Lib.hid (hr7.under hbX)
  have HB7 := Lib.hid hbk
  have HX7 := Lib.hid hX7
  obtain ⟨d0, d1, d2, d3⟩ := four hbk
  have hl7 := blk_lt hbk
  clear hb7 hr7 hX7 hbX hbk
  go_upto_region 9 with (fail)
  rw [← HX7.out]
  go_wp2_with fail
  refine (same_yes Nd.zero _ _ X7 _ _ _ _ HR7.out (Rep.zero Any X7)).mono ?_
  rintro e w8 ⟨rfl, hb8⟩
  have F8 := Lib.hid (F7.out.under hb8)
  clear hb8 d0 d1 d2 d3
  go_wp2
  refine bodyPost_ret (v := .bool true) (by simp [results, Tryz.results4, go_sem]) rfl ?_
  exact ⟨rfl, F8.out.bel⟩
theorem back_any {B : Nat → Prop} (w : World) (q1 q2 : Value) (x : Nd) (s : K.T) (hl : s.length ≤ 140737488355000) (hr : Rep B w q1 q2 x) (hT : Tb w) :
    Calls Tryz.prog 4 #[.agg (nv x q1 q2), S s] w fun e w' => e = .returned (.bool true) ∧ Below w.heap.size w w' := by
  cases h1 : K.print x with
  | ok t =>
    cases h2 : K.parse s with
    | ok p =>
      cases h3 : K.print (.mk 0 [] [] p) with
      | ok u => exact back_111 w q1 q2 x s t u 0 0 p (0, 0) hl hr hT h1 h2 h3
      | error c2 => exact back_110 w q1 q2 x s t [] 0 c2 p (0, 0) hl hr hT h1 h2 h3
    | error o => exact back_100 w q1 q2 x s t [] 0 0 [] o hl hr hT h1 h2
  | error c =>
    cases h2 : K.parse s with
    | ok p =>
      cases h3 : K.print (.mk 0 [] [] p) with
      | ok u => exact back_011 w q1 q2 x s [] u c 0 p (0, 0) hl hr hT h1 h2 h3
      | error c2 => exact back_010 w q1 q2 x s [] [] c c2 p (0, 0) hl hr hT h1 h2 h3
    | error o => exact back_000 w q1 q2 x s [] [] c 0 [] o hl hr hT h1 h2
theorem back_str {B : Nat → Prop} (w : World) (q1 q2 : Value) (x : Nd) (s : ByteArray) (hs : s.size ≤ 140737488353000) (hr : Rep B w q1 q2 x) (hT : Tb w) :
    Calls Tryz.prog 4 #[.agg (nv x q1 q2), .string s] w fun e w' => e = .returned (.bool true) ∧ Below w.heap.size w w' := by
  obtain ⟨h1, h2⟩ := text_of s
  rw [h1]
  exact back_any w q1 q2 x s.toList (by omega) hr hT
end Go.Proofs.YtegobomfhdfodaaGreatDoor
