/- ValueNested: the law, WALKED. -/
import Derived.Test.YtnnnnlcpmocnfaaDoorRv8
import Derived.Test.YtnnnnlcpmocnfaaDoorNm
import Derived.Test.YtnnnnlcpmocnfaaDoorSm
import Derived.Test.YtnnnnlcpmocnfaaDoorLaw0
import Derived.Outline
import Derived.WalkLawsBesides
import Derived.Deep.RegionLaw
import Derived.Deep.RegionHeld3
namespace Go.Proofs.YtnnnnlcpmocnfaaDoor
open Go.RowKit
set_option linter.unusedVariables false
set_option linter.unusedSimpArgs false
attribute [local go_sem] run_store_float

theorem list_rep {w : World} {x : V} {q1 q2 : Value} {g : Nat} (hx : Rep Any w q1 q2 x) (hg : w.heap[g]? = some (.cells (cv x q1 q2) 27 (0, 0))) (hl : g < w.heap.size) : Rep Any w (.slice (some ⟨g, 0, none⟩) 1 1) (.slice none 0 0) (listOf x) := by
  refine Rep.of ⟨by show (0 : Int) ≤ 5; decide, by show (5 : Int) ≤ 255; decide, by show (0 : Nat) ≤ _; omega, by show ([x] : List V).length * 96 ≤ _; simp, by show ([] : List (ByteArray × V)).length * 112 ≤ _; simp, by show -9223372036854775808 ≤ (0 : Int); decide, by show (0 : Int) ≤ 9223372036854775807; decide, by show (0 : Nat) < _; omega⟩ ?_ (RepP.nil _ _)
  refine ⟨g, 0, fun _ => q1, fun _ => q2, ⟨some ⟨g, 0, none⟩, 1, rfl, by show (1 : Nat) ≤ _; omega, fun _ => ⟨rfl, trivial, hl⟩⟩, fun i y hy => ?_⟩
  have hi : i < 1 := lt_of_get (l := [x]) hy
  obtain rfl : i = 0 := by omega
  have hy' : [x][0]? = some y := hy
  obtain rfl : x = y := by simpa using hy'
  exact ⟨At7.box hg, hx⟩

set_option maxRecDepth 100000 in
set_option maxHeartbeats 4000000 in
theorem nested_a (x : V) (m0 m1 : Int) (h0 : chk x 0 = m0) (h1 : chk (listOf x) 0 = m1) (hn0 : ¬ m0 = 0) (hn1 : ¬ m1 = 0) (w : World) (q1 q2 : Value) (hT : Tabs w) (hx : Rep Any w q1 q2 x) :
    Calls Tryd.prog 9 #[.agg (cv x q1 q2)] w fun e w' => e = .returned (.bool true) ∧ Below w.heap.size w w' := by
  have HCx := Lib.hid (fun (W : World) (p1 p2 : Value) (hT : Tabs W) (hx : Rep Any W p1 p2 x) => show Calls Tryd.prog 16 #[.agg #[.int .u8 x.k, .string x.s, .bool x.b, .int .i64 x.n, .float .f64 x.f, p1, p2]] W fun e w' => e = .returned (.int .i64 m0) ∧ Below W.heap.size W w' by have := check_any x W p1 p2 hT hx; rw [h0] at this; exact this)
  have HCl := Lib.hid (fun (W : World) (p1 p2 : Value) (hT : Tabs W) (hx : Rep Any W p1 p2 (listOf x)) => show Calls Tryd.prog 16 #[.agg #[.int .u8 5, .string ⟨#[]⟩, .bool false, .int .i64 0, .float .f64 0, p1, p2]] W fun e w' => e = .returned (.int .i64 m1) ∧ Below W.heap.size W w' by have := check_any (listOf x) W p1 p2 hT hx; rw [h1] at this; exact this)
  have H1 := Lib.hid h1
  clear h0 h1
  obtain ⟨a1, c1, rfl, _⟩ := hx.parts.2.1.form
  obtain ⟨a2, c2, rfl, _⟩ := hx.parts.2.2.form
  obtain ⟨W0, hW0⟩ : ∃ W0, W0 = w.alloc (.cells (cv x (.slice a1 x.l.length c1) (.slice a2 x.p.length c2)) 27) := ⟨_, rfl⟩
  have hb0 : Below w.heap.size w W0 := by rw [hW0]; exact al w _
  have Bx0 := Lib.hid (show Box W0 w.heap.size x _ _ by rw [hW0]; exact Box.new w x (.slice a1 x.l.length c1) (.slice a2 x.p.length c2))
  have Hx0 := Lib.hid (hx.under hb0)
  have HT0 := Lib.hid (hT.under hb0)
  have Hbel0 := Lib.hid hb0
  have HW0 := Lib.hid hW0
  clear hW0 hb0 hx hT
  go_enter Tryd.func9, Tryd.ntmps9
  go_wp2_with fail
  rw [← HW0.out]
  refine (lives_any _).mono ?_
  rintro e W1 ⟨rfl, hb1⟩
  have Hx1 := Lib.hid (Hx0.out.under hb1)
  have Bx1 := Lib.hid (Bx0.out.under hb1)
  have HT1 := Lib.hid (HT0.out.under hb1)
  have Hbel1 := Lib.hid (Hbel0.out.trans (hb1.mono Hbel0.out.size))
  clear Hx0 Bx0 HT0 Hbel0 hb1
  obtain ⟨k0, k1, k2, k3, k4, k5, k6⟩ := Bx1.out.at
  obtain ⟨W2, hW2⟩ : ∃ W2, W2 = (W1.alloc (.cells (cv x (.slice a1 x.l.length c1) (.slice a2 x.p.length c2)) 27)).alloc (.cells (gv 5 ⟨#[]⟩ false 0 0 (.slice (some ⟨W1.heap.size, 0, none⟩) 1 1) (.slice none 0 0)) 27) := ⟨_, rfl⟩
  have hb2 : Below W1.heap.size W1 W2 := by rw [hW2]; go_grown
  have BL2 := Lib.hid (show Box W2 (W1.heap.size + 1) (listOf x) (.slice (some ⟨W1.heap.size, 0, none⟩) 1 1) (.slice none 0 0) by rw [hW2]; exact blk_at (by simp))
  have helem : W2.heap[W1.heap.size]? = some (.cells (cv x (.slice a1 x.l.length c1) (.slice a2 x.p.length c2)) 27 (0, 0)) := by rw [hW2]; exact blk_alloc (blk_new W1 _) _
  have hsz2 : W2.heap.size = W1.heap.size + 2 := by rw [hW2]; simp
  have HL2 := Lib.hid (list_rep (Hx1.out.under hb2) helem (by omega))
  have HW2 := Lib.hid hW2
  clear hW2 helem hsz2
  have Hx2 := Lib.hid (Hx1.out.under hb2)
  have Bx2 := Lib.hid (Bx1.out.under hb2)
  have HT2 := Lib.hid (HT1.out.under hb2)
  have Hbel2 := Lib.hid (Hbel1.out.trans (hb2.mono Hbel1.out.size))
  clear Hx1 Bx1 HT1 Hbel1 hb2
  go_upto_region 4 with (fail)
  rw [← HW2.out]
  clear HW2 k0 k1 k2 k3 k4 k5 k6
  have HTd := Lib.hid (HT2.out.under (Below.refl _ _).drew)
  have Hxd := Lib.hid (Hx2.out.under (Below.refl _ _).drew)
  have HLd := Lib.hid (HL2.out.under (Below.refl _ _).drew)
  go_region_held3 (fun w' => (w'.cell? ⟨w.heap.size, 0, none⟩ = some (.int .u8 x.k) ∧ w'.cell? ⟨w.heap.size, 1, none⟩ = some (.string x.s) ∧ w'.cell? ⟨w.heap.size, 2, none⟩ = some (.bool x.b) ∧ w'.cell? ⟨w.heap.size, 3, none⟩ = some (.int .i64 x.n) ∧ w'.cell? ⟨w.heap.size, 4, none⟩ = some (.float .f64 x.f) ∧ w'.cell? ⟨w.heap.size, 5, none⟩ = some (.slice a1 x.l.length c1) ∧ w'.cell? ⟨w.heap.size, 6, none⟩ = some (.slice a2 x.p.length c2)) ∧ (w'.cell? ⟨W1.heap.size + 1, 0, none⟩ = some (.int .u8 5) ∧ w'.cell? ⟨W1.heap.size + 1, 1, none⟩ = some (.string ⟨#[]⟩) ∧ w'.cell? ⟨W1.heap.size + 1, 2, none⟩ = some (.bool false) ∧ w'.cell? ⟨W1.heap.size + 1, 3, none⟩ = some (.int .i64 0) ∧ w'.cell? ⟨W1.heap.size + 1, 4, none⟩ = some (.float .f64 0) ∧ w'.cell? ⟨W1.heap.size + 1, 5, none⟩ = some (.slice (some ⟨W1.heap.size, 0, none⟩) 1 1) ∧ w'.cell? ⟨W1.heap.size + 1, 6, none⟩ = some (.slice none 0 0)))
    (first | exact ⟨Bx2.out.at, (show Box _ _ (listOf x) _ _ from BL2.out).at⟩ | go_keep)
    (first | (go_at_call 16; with_reducible refine (HCx.out _ _ _ HTd.out Hxd.out).mono ?_; rintro e w3 ⟨rfl, hb3'⟩; have hb3 := below_drew hb3'; have Hx2 := Lib.hid (Hx2.out.under hb3); have Bx2 := Lib.hid (Bx2.out.under hb3); have HT2 := Lib.hid (HT2.out.under hb3); have HL2 := Lib.hid (HL2.out.under hb3); have BL2 := Lib.hid (BL2.out.under hb3); have Hbel2 := Lib.hid (Hbel2.out.trans (hb3.mono Hbel2.out.size))) | (go_at_call 16; with_reducible refine (HCx.out _ _ _ HT2.out Hx2.out).mono ?_; rintro e w3 ⟨rfl, hb3⟩; have Hx2 := Lib.hid (Hx2.out.under hb3); have Bx2 := Lib.hid (Bx2.out.under hb3); have HT2 := Lib.hid (HT2.out.under hb3); have HL2 := Lib.hid (HL2.out.under hb3); have BL2 := Lib.hid (BL2.out.under hb3); have Hbel2 := Lib.hid (Hbel2.out.trans (hb3.mono Hbel2.out.size))) | (go_at_call 16; with_reducible refine (HCl.out _ _ _ HTd.out HLd.out).mono ?_; rintro e w3 ⟨rfl, hb3'⟩; have hb3 := below_drew hb3'; have Hx2 := Lib.hid (Hx2.out.under hb3); have Bx2 := Lib.hid (Bx2.out.under hb3); have HT2 := Lib.hid (HT2.out.under hb3); have HL2 := Lib.hid (HL2.out.under hb3); have BL2 := Lib.hid (BL2.out.under hb3); have Hbel2 := Lib.hid (Hbel2.out.trans (hb3.mono Hbel2.out.size))) | (go_at_call 16; with_reducible refine (HCl.out _ _ _ HT2.out HL2.out).mono ?_; rintro e w3 ⟨rfl, hb3⟩; have Hx2 := Lib.hid (Hx2.out.under hb3); have Bx2 := Lib.hid (Bx2.out.under hb3); have HT2 := Lib.hid (HT2.out.under hb3); have HL2 := Lib.hid (HL2.out.under hb3); have BL2 := Lib.hid (BL2.out.under hb3); have Hbel2 := Lib.hid (Hbel2.out.trans (hb3.mono Hbel2.out.size))) | fail)
  all_goals
    have hb : (m1 != 0) = true := by simpa using hn1
    go_wp2
    go_ret
    exact ⟨rfl, Hbel2.out⟩

set_option maxRecDepth 100000 in
set_option maxHeartbeats 4000000 in
theorem nested_b (x : V) (h0 : chk x 0 = 0) (h1 : chk (listOf x) 0 = 11) (w : World) (q1 q2 : Value) (hT : Tabs w) (hx : Rep Any w q1 q2 x) :
    Calls Tryd.prog 9 #[.agg (cv x q1 q2)] w fun e w' => e = .returned (.bool true) ∧ Below w.heap.size w w' := by
  have HCx := Lib.hid (fun (W : World) (p1 p2 : Value) (hT : Tabs W) (hx : Rep Any W p1 p2 x) => show Calls Tryd.prog 16 #[.agg #[.int .u8 x.k, .string x.s, .bool x.b, .int .i64 x.n, .float .f64 x.f, p1, p2]] W fun e w' => e = .returned (.int .i64 0) ∧ Below W.heap.size W w' by have := check_any x W p1 p2 hT hx; rw [h0] at this; exact this)
  have HCl := Lib.hid (fun (W : World) (p1 p2 : Value) (hT : Tabs W) (hx : Rep Any W p1 p2 (listOf x)) => show Calls Tryd.prog 16 #[.agg #[.int .u8 5, .string ⟨#[]⟩, .bool false, .int .i64 0, .float .f64 0, p1, p2]] W fun e w' => e = .returned (.int .i64 11) ∧ Below W.heap.size W w' by have := check_any (listOf x) W p1 p2 hT hx; rw [h1] at this; exact this)
  have H1 := Lib.hid h1
  clear h0 h1
  obtain ⟨a1, c1, rfl, _⟩ := hx.parts.2.1.form
  obtain ⟨a2, c2, rfl, _⟩ := hx.parts.2.2.form
  obtain ⟨W0, hW0⟩ : ∃ W0, W0 = w.alloc (.cells (cv x (.slice a1 x.l.length c1) (.slice a2 x.p.length c2)) 27) := ⟨_, rfl⟩
  have hb0 : Below w.heap.size w W0 := by rw [hW0]; exact al w _
  have Bx0 := Lib.hid (show Box W0 w.heap.size x _ _ by rw [hW0]; exact Box.new w x (.slice a1 x.l.length c1) (.slice a2 x.p.length c2))
  have Hx0 := Lib.hid (hx.under hb0)
  have HT0 := Lib.hid (hT.under hb0)
  have Hbel0 := Lib.hid hb0
  have HW0 := Lib.hid hW0
  clear hW0 hb0 hx hT
  go_enter Tryd.func9, Tryd.ntmps9
  go_wp2_with fail
  rw [← HW0.out]
  refine (lives_any _).mono ?_
  rintro e W1 ⟨rfl, hb1⟩
  have Hx1 := Lib.hid (Hx0.out.under hb1)
  have Bx1 := Lib.hid (Bx0.out.under hb1)
  have HT1 := Lib.hid (HT0.out.under hb1)
  have Hbel1 := Lib.hid (Hbel0.out.trans (hb1.mono Hbel0.out.size))
  clear Hx0 Bx0 HT0 Hbel0 hb1
  obtain ⟨k0, k1, k2, k3, k4, k5, k6⟩ := Bx1.out.at
  obtain ⟨W2, hW2⟩ : ∃ W2, W2 = (W1.alloc (.cells (cv x (.slice a1 x.l.length c1) (.slice a2 x.p.length c2)) 27)).alloc (.cells (gv 5 ⟨#[]⟩ false 0 0 (.slice (some ⟨W1.heap.size, 0, none⟩) 1 1) (.slice none 0 0)) 27) := ⟨_, rfl⟩
  have hb2 : Below W1.heap.size W1 W2 := by rw [hW2]; go_grown
  have BL2 := Lib.hid (show Box W2 (W1.heap.size + 1) (listOf x) (.slice (some ⟨W1.heap.size, 0, none⟩) 1 1) (.slice none 0 0) by rw [hW2]; exact blk_at (by simp))
  have helem : W2.heap[W1.heap.size]? = some (.cells (cv x (.slice a1 x.l.length c1) (.slice a2 x.p.length c2)) 27 (0, 0)) := by rw [hW2]; exact blk_alloc (blk_new W1 _) _
  have hsz2 : W2.heap.size = W1.heap.size + 2 := by rw [hW2]; simp
  have HL2 := Lib.hid (list_rep (Hx1.out.under hb2) helem (by omega))
  have HW2 := Lib.hid hW2
  clear hW2 helem hsz2
  have Hx2 := Lib.hid (Hx1.out.under hb2)
  have Bx2 := Lib.hid (Bx1.out.under hb2)
  have HT2 := Lib.hid (HT1.out.under hb2)
  have Hbel2 := Lib.hid (Hbel1.out.trans (hb2.mono Hbel1.out.size))
  clear Hx1 Bx1 HT1 Hbel1 hb2
  go_upto_region 4 with (fail)
  rw [← HW2.out]
  clear HW2 k0 k1 k2 k3 k4 k5 k6
  have HTd := Lib.hid (HT2.out.under (Below.refl _ _).drew)
  have Hxd := Lib.hid (Hx2.out.under (Below.refl _ _).drew)
  have HLd := Lib.hid (HL2.out.under (Below.refl _ _).drew)
  go_region_held3 (fun w' => (w'.cell? ⟨w.heap.size, 0, none⟩ = some (.int .u8 x.k) ∧ w'.cell? ⟨w.heap.size, 1, none⟩ = some (.string x.s) ∧ w'.cell? ⟨w.heap.size, 2, none⟩ = some (.bool x.b) ∧ w'.cell? ⟨w.heap.size, 3, none⟩ = some (.int .i64 x.n) ∧ w'.cell? ⟨w.heap.size, 4, none⟩ = some (.float .f64 x.f) ∧ w'.cell? ⟨w.heap.size, 5, none⟩ = some (.slice a1 x.l.length c1) ∧ w'.cell? ⟨w.heap.size, 6, none⟩ = some (.slice a2 x.p.length c2)) ∧ (w'.cell? ⟨W1.heap.size + 1, 0, none⟩ = some (.int .u8 5) ∧ w'.cell? ⟨W1.heap.size + 1, 1, none⟩ = some (.string ⟨#[]⟩) ∧ w'.cell? ⟨W1.heap.size + 1, 2, none⟩ = some (.bool false) ∧ w'.cell? ⟨W1.heap.size + 1, 3, none⟩ = some (.int .i64 0) ∧ w'.cell? ⟨W1.heap.size + 1, 4, none⟩ = some (.float .f64 0) ∧ w'.cell? ⟨W1.heap.size + 1, 5, none⟩ = some (.slice (some ⟨W1.heap.size, 0, none⟩) 1 1) ∧ w'.cell? ⟨W1.heap.size + 1, 6, none⟩ = some (.slice none 0 0)))
    (first | exact ⟨Bx2.out.at, (show Box _ _ (listOf x) _ _ from BL2.out).at⟩ | go_keep)
    (first | (go_at_call 16; with_reducible refine (HCx.out _ _ _ HTd.out Hxd.out).mono ?_; rintro e w3 ⟨rfl, hb3'⟩; have hb3 := below_drew hb3'; have Hx2 := Lib.hid (Hx2.out.under hb3); have Bx2 := Lib.hid (Bx2.out.under hb3); have HT2 := Lib.hid (HT2.out.under hb3); have HL2 := Lib.hid (HL2.out.under hb3); have BL2 := Lib.hid (BL2.out.under hb3); have Hbel2 := Lib.hid (Hbel2.out.trans (hb3.mono Hbel2.out.size))) | (go_at_call 16; with_reducible refine (HCx.out _ _ _ HT2.out Hx2.out).mono ?_; rintro e w3 ⟨rfl, hb3⟩; have Hx2 := Lib.hid (Hx2.out.under hb3); have Bx2 := Lib.hid (Bx2.out.under hb3); have HT2 := Lib.hid (HT2.out.under hb3); have HL2 := Lib.hid (HL2.out.under hb3); have BL2 := Lib.hid (BL2.out.under hb3); have Hbel2 := Lib.hid (Hbel2.out.trans (hb3.mono Hbel2.out.size))) | (go_at_call 16; with_reducible refine (HCl.out _ _ _ HTd.out HLd.out).mono ?_; rintro e w3 ⟨rfl, hb3'⟩; have hb3 := below_drew hb3'; have Hx2 := Lib.hid (Hx2.out.under hb3); have Bx2 := Lib.hid (Bx2.out.under hb3); have HT2 := Lib.hid (HT2.out.under hb3); have HL2 := Lib.hid (HL2.out.under hb3); have BL2 := Lib.hid (BL2.out.under hb3); have Hbel2 := Lib.hid (Hbel2.out.trans (hb3.mono Hbel2.out.size))) | (go_at_call 16; with_reducible refine (HCl.out _ _ _ HT2.out HL2.out).mono ?_; rintro e w3 ⟨rfl, hb3⟩; have Hx2 := Lib.hid (Hx2.out.under hb3); have Bx2 := Lib.hid (Bx2.out.under hb3); have HT2 := Lib.hid (HT2.out.under hb3); have HL2 := Lib.hid (HL2.out.under hb3); have BL2 := Lib.hid (BL2.out.under hb3); have Hbel2 := Lib.hid (Hbel2.out.trans (hb3.mono Hbel2.out.size))) | fail)
  all_goals
    go_wp2
    go_ret
    exact ⟨rfl, Hbel2.out⟩

set_option maxRecDepth 100000 in
set_option maxHeartbeats 4000000 in
theorem nested_c (x : V) (h0 : chk x 0 = 0) (h1 : chk (listOf x) 0 = 0) (w : World) (q1 q2 : Value) (hT : Tabs w) (hx : Rep Any w q1 q2 x) :
    Calls Tryd.prog 9 #[.agg (cv x q1 q2)] w fun e w' => e = .returned (.bool true) ∧ Below w.heap.size w w' := by
  have HCx := Lib.hid (fun (W : World) (p1 p2 : Value) (hT : Tabs W) (hx : Rep Any W p1 p2 x) => show Calls Tryd.prog 16 #[.agg #[.int .u8 x.k, .string x.s, .bool x.b, .int .i64 x.n, .float .f64 x.f, p1, p2]] W fun e w' => e = .returned (.int .i64 0) ∧ Below W.heap.size W w' by have := check_any x W p1 p2 hT hx; rw [h0] at this; exact this)
  have HCl := Lib.hid (fun (W : World) (p1 p2 : Value) (hT : Tabs W) (hx : Rep Any W p1 p2 (listOf x)) => show Calls Tryd.prog 16 #[.agg #[.int .u8 5, .string ⟨#[]⟩, .bool false, .int .i64 0, .float .f64 0, p1, p2]] W fun e w' => e = .returned (.int .i64 0) ∧ Below W.heap.size W w' by have := check_any (listOf x) W p1 p2 hT hx; rw [h1] at this; exact this)
  have H1 := Lib.hid h1
  clear h0 h1
  obtain ⟨a1, c1, rfl, _⟩ := hx.parts.2.1.form
  obtain ⟨a2, c2, rfl, _⟩ := hx.parts.2.2.form
  obtain ⟨W0, hW0⟩ : ∃ W0, W0 = w.alloc (.cells (cv x (.slice a1 x.l.length c1) (.slice a2 x.p.length c2)) 27) := ⟨_, rfl⟩
  have hb0 : Below w.heap.size w W0 := by rw [hW0]; exact al w _
  have Bx0 := Lib.hid (show Box W0 w.heap.size x _ _ by rw [hW0]; exact Box.new w x (.slice a1 x.l.length c1) (.slice a2 x.p.length c2))
  have Hx0 := Lib.hid (hx.under hb0)
  have HT0 := Lib.hid (hT.under hb0)
  have Hbel0 := Lib.hid hb0
  have HW0 := Lib.hid hW0
  clear hW0 hb0 hx hT
  go_enter Tryd.func9, Tryd.ntmps9
  go_wp2_with fail
  rw [← HW0.out]
  refine (lives_any _).mono ?_
  rintro e W1 ⟨rfl, hb1⟩
  have Hx1 := Lib.hid (Hx0.out.under hb1)
  have Bx1 := Lib.hid (Bx0.out.under hb1)
  have HT1 := Lib.hid (HT0.out.under hb1)
  have Hbel1 := Lib.hid (Hbel0.out.trans (hb1.mono Hbel0.out.size))
  clear Hx0 Bx0 HT0 Hbel0 hb1
  obtain ⟨k0, k1, k2, k3, k4, k5, k6⟩ := Bx1.out.at
  obtain ⟨W2, hW2⟩ : ∃ W2, W2 = (W1.alloc (.cells (cv x (.slice a1 x.l.length c1) (.slice a2 x.p.length c2)) 27)).alloc (.cells (gv 5 ⟨#[]⟩ false 0 0 (.slice (some ⟨W1.heap.size, 0, none⟩) 1 1) (.slice none 0 0)) 27) := ⟨_, rfl⟩
  have hb2 : Below W1.heap.size W1 W2 := by rw [hW2]; go_grown
  have BL2 := Lib.hid (show Box W2 (W1.heap.size + 1) (listOf x) (.slice (some ⟨W1.heap.size, 0, none⟩) 1 1) (.slice none 0 0) by rw [hW2]; exact blk_at (by simp))
  have helem : W2.heap[W1.heap.size]? = some (.cells (cv x (.slice a1 x.l.length c1) (.slice a2 x.p.length c2)) 27 (0, 0)) := by rw [hW2]; exact blk_alloc (blk_new W1 _) _
  have hsz2 : W2.heap.size = W1.heap.size + 2 := by rw [hW2]; simp
  have HL2 := Lib.hid (list_rep (Hx1.out.under hb2) helem (by omega))
  have HW2 := Lib.hid hW2
  clear hW2 helem hsz2
  have Hx2 := Lib.hid (Hx1.out.under hb2)
  have Bx2 := Lib.hid (Bx1.out.under hb2)
  have HT2 := Lib.hid (HT1.out.under hb2)
  have Hbel2 := Lib.hid (Hbel1.out.trans (hb2.mono Hbel1.out.size))
  clear Hx1 Bx1 HT1 Hbel1 hb2
  go_upto_region 4 with (fail)
  rw [← HW2.out]
  clear HW2 k0 k1 k2 k3 k4 k5 k6
  have HTd := Lib.hid (HT2.out.under (Below.refl _ _).drew)
  have Hxd := Lib.hid (Hx2.out.under (Below.refl _ _).drew)
  have HLd := Lib.hid (HL2.out.under (Below.refl _ _).drew)
  go_region_held3 (fun w' => (w'.cell? ⟨w.heap.size, 0, none⟩ = some (.int .u8 x.k) ∧ w'.cell? ⟨w.heap.size, 1, none⟩ = some (.string x.s) ∧ w'.cell? ⟨w.heap.size, 2, none⟩ = some (.bool x.b) ∧ w'.cell? ⟨w.heap.size, 3, none⟩ = some (.int .i64 x.n) ∧ w'.cell? ⟨w.heap.size, 4, none⟩ = some (.float .f64 x.f) ∧ w'.cell? ⟨w.heap.size, 5, none⟩ = some (.slice a1 x.l.length c1) ∧ w'.cell? ⟨w.heap.size, 6, none⟩ = some (.slice a2 x.p.length c2)) ∧ (w'.cell? ⟨W1.heap.size + 1, 0, none⟩ = some (.int .u8 5) ∧ w'.cell? ⟨W1.heap.size + 1, 1, none⟩ = some (.string ⟨#[]⟩) ∧ w'.cell? ⟨W1.heap.size + 1, 2, none⟩ = some (.bool false) ∧ w'.cell? ⟨W1.heap.size + 1, 3, none⟩ = some (.int .i64 0) ∧ w'.cell? ⟨W1.heap.size + 1, 4, none⟩ = some (.float .f64 0) ∧ w'.cell? ⟨W1.heap.size + 1, 5, none⟩ = some (.slice (some ⟨W1.heap.size, 0, none⟩) 1 1) ∧ w'.cell? ⟨W1.heap.size + 1, 6, none⟩ = some (.slice none 0 0)))
    (first | exact ⟨Bx2.out.at, (show Box _ _ (listOf x) _ _ from BL2.out).at⟩ | go_keep)
    (first | (go_at_call 16; with_reducible refine (HCx.out _ _ _ HTd.out Hxd.out).mono ?_; rintro e w3 ⟨rfl, hb3'⟩; have hb3 := below_drew hb3'; have Hx2 := Lib.hid (Hx2.out.under hb3); have Bx2 := Lib.hid (Bx2.out.under hb3); have HT2 := Lib.hid (HT2.out.under hb3); have HL2 := Lib.hid (HL2.out.under hb3); have BL2 := Lib.hid (BL2.out.under hb3); have Hbel2 := Lib.hid (Hbel2.out.trans (hb3.mono Hbel2.out.size))) | (go_at_call 16; with_reducible refine (HCx.out _ _ _ HT2.out Hx2.out).mono ?_; rintro e w3 ⟨rfl, hb3⟩; have Hx2 := Lib.hid (Hx2.out.under hb3); have Bx2 := Lib.hid (Bx2.out.under hb3); have HT2 := Lib.hid (HT2.out.under hb3); have HL2 := Lib.hid (HL2.out.under hb3); have BL2 := Lib.hid (BL2.out.under hb3); have Hbel2 := Lib.hid (Hbel2.out.trans (hb3.mono Hbel2.out.size))) | (go_at_call 16; with_reducible refine (HCl.out _ _ _ HTd.out HLd.out).mono ?_; rintro e w3 ⟨rfl, hb3'⟩; have hb3 := below_drew hb3'; have Hx2 := Lib.hid (Hx2.out.under hb3); have Bx2 := Lib.hid (Bx2.out.under hb3); have HT2 := Lib.hid (HT2.out.under hb3); have HL2 := Lib.hid (HL2.out.under hb3); have BL2 := Lib.hid (BL2.out.under hb3); have Hbel2 := Lib.hid (Hbel2.out.trans (hb3.mono Hbel2.out.size))) | (go_at_call 16; with_reducible refine (HCl.out _ _ _ HT2.out HL2.out).mono ?_; rintro e w3 ⟨rfl, hb3⟩; have Hx2 := Lib.hid (Hx2.out.under hb3); have Bx2 := Lib.hid (Bx2.out.under hb3); have HT2 := Lib.hid (HT2.out.under hb3); have HL2 := Lib.hid (HL2.out.under hb3); have BL2 := Lib.hid (BL2.out.under hb3); have Hbel2 := Lib.hid (Hbel2.out.trans (hb3.mono Hbel2.out.size))) | fail)
  all_goals
    obtain ⟨l0, l1, l2, l3, l4, l5, l6⟩ := (show Box _ _ (listOf x) _ _ from BL2.out).at
    go_wp2_with fail
    refine (wrt_any2 (listOf x) _ _ _ HT2.out HL2.out).mono ?_
    intro e W3 h
    clear l0 l1 l2 l3 l4 l5 l6
    cases hwr : writeR (listOf x) with
    | error c =>
      rw [hwr] at h
      obtain ⟨rfl, hb3⟩ := wb_no h
      obtain rfl := list_four HL2.out.fitD H1.out hwr
      have HT3 := Lib.hid (HT2.out.under hb3)
      have HL3 := Lib.hid (HL2.out.under hb3)
      have BL3 := Lib.hid (BL2.out.under hb3)
      have Hbel3 := Lib.hid (Hbel2.out.trans (hb3.mono Hbel2.out.size))
      clear HT2 HL2 BL2 Hbel2 hb3 hwr
      go_wp2_with fail
      refine (rdv_any2 [] _ HT3.out (by simp)).mono ?_
      intro e W4 h
      rw [show readR [] = .ok V0 from rmsg_nil 8] at h
      obtain ⟨r1, r2, rfl, hv, hb4⟩ := h
      obtain ⟨d1, e1, rfl, _⟩ := hv.parts.2.1.form
      obtain ⟨d2, e2, rfl, _⟩ := hv.parts.2.2.form
      have Hbel4 := Lib.hid (Hbel3.out.trans (hb4.mono Hbel3.out.size))
      clear hv hb4
      go_wp2
      go_ret
      exact ⟨rfl, Hbel4.out.alloc Hbel4.out.size _⟩
    | ok t =>
      rw [hwr] at h
      obtain ⟨rfl, hb3⟩ := wb_ok h
      have Hrd := Lib.hid (back_write HL2.out.fitD hwr)
      have Hts := Lib.hid (writeR_short hwr)
      have HT3 := Lib.hid (HT2.out.under hb3)
      have HL3 := Lib.hid (HL2.out.under hb3)
      have BL3 := Lib.hid (BL2.out.under hb3)
      have Hbel3 := Lib.hid (Hbel2.out.trans (hb3.mono Hbel2.out.size))
      clear HT2 HL2 BL2 Hbel2 hb3 hwr
      go_wp2_with fail
      refine (rdv_any2 t _ HT3.out (by have := Hts.out; omega)).mono ?_
      intro e W4 h
      rw [show readR t = .ok (listOf x) from Hrd.out] at h
      obtain ⟨r1, r2, rfl, hv, hb4⟩ := h
      obtain ⟨d1, e1, rfl, _⟩ := hv.parts.2.1.form
      obtain ⟨d2, e2, rfl, _⟩ := hv.parts.2.2.form
      have HT4 := Lib.hid (HT3.out.under hb4)
      have HL4 := Lib.hid (HL3.out.under hb4)
      have BL4 := Lib.hid (BL3.out.under hb4)
      have Hbel4 := Lib.hid (Hbel3.out.trans (hb4.mono Hbel3.out.size))
      clear HT3 HL3 BL3 Hbel3 hb4
      obtain ⟨W5, hW5⟩ : ∃ W5, W5 = W4.alloc (.cells (cv (listOf x) (.slice d1 (listOf x).l.length e1) (.slice d2 (listOf x).p.length e2)) 27) := ⟨_, rfl⟩
      have hb5 : Below W4.heap.size W4 W5 := by rw [hW5]; exact al W4 _
      have Bv5 := Lib.hid (show Box W5 W4.heap.size (listOf x) _ _ by rw [hW5]; exact Box.new W4 (listOf x) (.slice d1 (listOf x).l.length e1) (.slice d2 (listOf x).p.length e2))
      have Hv5 := Lib.hid ((hv.keep (Kept.of_below (Below.refl _ _) _) fun _ _ _ => trivial : Rep Any W4 _ _ (listOf x)).under hb5)
      have HW5 := Lib.hid hW5
      clear hW5 hv
      have HT5 := Lib.hid (HT4.out.under hb5)
      have HL5 := Lib.hid (HL4.out.under hb5)
      have BL5 := Lib.hid (BL4.out.under hb5)
      have Hbel5 := Lib.hid (Hbel4.out.trans (hb5.mono Hbel4.out.size))
      clear HT4 HL4 BL4 Hbel4 hb5
      obtain ⟨l0, l1, l2, l3, l4, l5, l6⟩ := (show Box _ _ (listOf x) _ _ from BL5.out).at
      obtain ⟨v0, v1, v2, v3, v4, v5, v6⟩ := Bv5.out.at
      go_upto_region 11 with (fail)
      rw [← HW5.out]
      go_wp2_with fail
      refine (rs_any (listOf x) (listOf x) _ _ _ _ _ Hv5.out HL5.out).mono ?_
      rintro e W6 ⟨rfl, hb6⟩
      rw [one_refl]
      have Hbel6 := Lib.hid (Hbel5.out.trans (hb6.mono Hbel5.out.size))
      clear l0 l1 l2 l3 l4 l5 l6 v0 v1 v2 v3 v4 v5 v6 hb6
      go_wp2
      go_ret
      exact ⟨rfl, Hbel6.out⟩

/-- the law, of any value -/
theorem nested_of (x : V) (w : World) (q1 q2 : Value) (hT : Tabs w) (hx : Rep Any w q1 q2 x) :
    Calls Tryd.prog 9 #[.agg (cv x q1 q2)] w fun e w' => e = .returned (.bool true) ∧ Below w.heap.size w w' := by
  have hl := chk_list x
  by_cases h0 : chk x 0 = 0
  · rcases chk_deep _ x (Nat.le_refl _) 0 1 h0 with h1 | h1
    · exact nested_c x h0 (by rw [hl, h1]) w q1 q2 hT hx
    · exact nested_b x h0 (by rw [hl, h1]) w q1 q2 hT hx
  · refine nested_a x _ _ rfl rfl h0 (fun h1 => ?_) w q1 q2 hT hx
    rw [hl] at h1
    exact h0 (chk_fewer _ x (Nat.le_refl _) 1 0 (by decide) h1)
end Go.Proofs.YtnnnnlcpmocnfaaDoor
