/- TopValues: the law, WALKED. -/
import Derived.Test.YtnnnnlcpmocnfaaDoorRv8
import Derived.Test.YtnnnnlcpmocnfaaDoorNm
import Derived.Test.YtnnnnlcpmocnfaaDoorSm
import Derived.Test.YtnnnnlcpmocnfaaDoorLaw0
import Derived.Outline
import Derived.WalkLawsBesides
import Derived.Deep.RegionLaw
import Derived.Deep.RegionHeld3
namespace Go.Proofs.YtnnnnlcpmocnfaaDoor
open Go.RowKit
set_option linter.unusedVariables false
set_option linter.unusedSimpArgs false
attribute [local go_sem] run_store_float

theorem vnum300 : M.vnum 300 = [172, 2] := by rw [M.vnum_ge (by decide), M.vnum_lt (by decide)]; rfl
theorem num300 (w : World) : Calls Tryd.prog 72 #[.int .u64 300] w fun e w' => e = .returned (.string ⟨#[172, 2]⟩) ∧ Below w.heap.size w w' :=
  (num_any 300 w (by decide) (by decide)).mono fun e w' ⟨he, hb⟩ => ⟨by rw [he, show (300 : Int).toNat = 300 from rfl, vnum300], hb⟩
theorem zigm1 (w : World) : Calls Tryd.prog 73 #[.int .i64 (-1)] w fun e w' => e = .returned (.int .u64 1) ∧ w = w' := by
  go_enter Tryd.func73, Tryd.ntmps73
  go_wp2
  go_ret
  exact ⟨rfl, rfl⟩
theorem begins_any (w : World) : Calls Tryd.prog 39 #[] w fun e w' => e = .returned (.bool true) ∧ Below w.heap.size w w' := by
  go_enter Tryd.func39, Tryd.ntmps39
  go_wp2_with fail
  refine (num300 _).mono ?_
  rintro e w1 ⟨rfl, hb1⟩
  have Hb1 := Lib.hid hb1
  clear hb1
  go_wp2_with fail
  refine (zigm1 _).mono ?_
  rintro e w2 ⟨rfl, rfl⟩
  go_wp2
  go_ret
  exact ⟨rfl, Hb1.out⟩
theorem bf_fit' (num : Int) (extra : List UInt8) (h : -9223372036854775808 ≤ num ∧ num ≤ 9223372036854775807) (hl : extra.length ≤ 9223372036854775807) : Fit (bf num extra) num 2 0 extra :=
  ⟨rfl, by decide, by decide, by decide, by decide, h.1, h.2, hl⟩

set_option maxRecDepth 100000 in
set_option maxHeartbeats 4000000 in
theorem top_err (x : V) (c : Int) (hw : writeR x = .error c) (num : Int) (extra : List UInt8) (w : World) (q1 q2 : Value) (hT : Tabs w) (hx : Rep Any w q1 q2 x) :
    Calls Tryd.prog 12 #[.agg (cv x q1 q2), .int .i64 num, .string ⟨extra.toArray⟩] w fun e w' => e = .returned (.bool true) ∧ Below w.heap.size w w' := by
  have Hwr := Lib.hid hw
  obtain ⟨a1, c1, rfl, _⟩ := hx.parts.2.1.form
  obtain ⟨a2, c2, rfl, _⟩ := hx.parts.2.2.form
  obtain ⟨W0, hW0⟩ : ∃ W0, W0 = w.alloc (.cells (cv x (.slice a1 x.l.length c1) (.slice a2 x.p.length c2)) 27) := ⟨_, rfl⟩
  have hb0 : Below w.heap.size w W0 := by rw [hW0]; exact al w _
  have Bx0 := Lib.hid (show Box W0 w.heap.size x _ _ by rw [hW0]; exact Box.new w x (.slice a1 x.l.length c1) (.slice a2 x.p.length c2))
  have Hx0 := Lib.hid (hx.under hb0)
  have HT0 := Lib.hid (hT.under hb0)
  have Hbel0 := Lib.hid hb0
  have HW0 := Lib.hid hW0
  clear hW0 hb0 hx hT hw
  go_enter Tryd.func12, Tryd.ntmps12
  go_wp2_with fail
  rw [← HW0.out]
  refine (begins_any _).mono ?_
  rintro e W1 ⟨rfl, hb1⟩
  have Hx1 := Lib.hid (Hx0.out.under hb1)
  have Bx1 := Lib.hid (Bx0.out.under hb1)
  have HT1 := Lib.hid (HT0.out.under hb1)
  have Hbel1 := Lib.hid (Hbel0.out.trans (hb1.mono Hbel0.out.size))
  clear Hx0 Bx0 HT0 Hbel0 hb1
  obtain ⟨k0, k1, k2, k3, k4, k5, k6⟩ := Bx1.out.at
  go_wp2_with fail
  refine (wrt_any2 x _ _ _ HT1.out Hx1.out).mono ?_
  intro e W2 h
  rw [Hwr.out] at h
  obtain ⟨rfl, hb2⟩ := wb_no h
  have hc := writeR_zero Hwr.out
  have Hbel2 := Lib.hid (Hbel1.out.trans (hb2.mono Hbel1.out.size))
  clear hb2 k0 k1 k2 k3 k4 k5 k6
  go_wp2
  go_ret
  exact ⟨rfl, Hbel2.out⟩

set_option maxRecDepth 100000 in
set_option maxHeartbeats 4000000 in
theorem top_none (x : V) (t : List UInt8) (hw : writeR x = .ok t) (fs : List M.Fd) (hr : M.read t = .ok fs) (hlen : fs.length = 0) (hk : x.k = 0) (num : Int) (hn0 : -9223372036854775808 ≤ num) (hn1 : num ≤ 9223372036854775807) (extra : List UInt8) (hext : extra.length ≤ 140737488353000)
    (w : World) (q1 q2 : Value) (hT : Tabs w) (hx : Rep Any w q1 q2 x) :
    Calls Tryd.prog 12 #[.agg (cv x q1 q2), .int .i64 num, .string ⟨extra.toArray⟩] w fun e w' => e = .returned (.bool true) ∧ Below w.heap.size w w' := by
  have Hfd := Lib.hid hx.fitD
  have Hts := Lib.hid (writeR_short hw)
  have Hwr := Lib.hid hw
  have Hr := Lib.hid hr
  have Hlen := Lib.hid hlen
  have Hk := Lib.hid hk
  have Hext := Lib.hid hext
  obtain ⟨a1, c1, rfl, _⟩ := hx.parts.2.1.form
  obtain ⟨a2, c2, rfl, _⟩ := hx.parts.2.2.form
  obtain ⟨W0, hW0⟩ : ∃ W0, W0 = w.alloc (.cells (cv x (.slice a1 x.l.length c1) (.slice a2 x.p.length c2)) 27) := ⟨_, rfl⟩
  have hb0 : Below w.heap.size w W0 := by rw [hW0]; exact al w _
  have Bx0 := Lib.hid (show Box W0 w.heap.size x _ _ by rw [hW0]; exact Box.new w x (.slice a1 x.l.length c1) (.slice a2 x.p.length c2))
  have Hx0 := Lib.hid (hx.under hb0)
  have HT0 := Lib.hid (hT.under hb0)
  have Hbel0 := Lib.hid hb0
  have HW0 := Lib.hid hW0
  clear hW0 hb0 hx hT hw hr hlen hk hext
  go_enter Tryd.func12, Tryd.ntmps12
  go_wp2_with fail
  rw [← HW0.out]
  refine (begins_any _).mono ?_
  rintro e W1 ⟨rfl, hb1⟩
  have Hx1 := Lib.hid (Hx0.out.under hb1)
  have Bx1 := Lib.hid (Bx0.out.under hb1)
  have HT1 := Lib.hid (HT0.out.under hb1)
  have Hbel1 := Lib.hid (Hbel0.out.trans (hb1.mono Hbel0.out.size))
  clear Hx0 Bx0 HT0 Hbel0 hb1
  obtain ⟨k0, k1, k2, k3, k4, k5, k6⟩ := Bx1.out.at
  go_wp2_with fail
  refine (wrt_any2 x _ _ _ HT1.out Hx1.out).mono ?_
  intro e W2 h
  rw [Hwr.out] at h
  obtain ⟨rfl, hb2⟩ := wb_ok h
  clear k0 k1 k2 k3 k4 k5 k6
  have Hx2 := Lib.hid (Hx1.out.under hb2)
  have Bx2 := Lib.hid (Bx1.out.under hb2)
  have HT2 := Lib.hid (HT1.out.under hb2)
  have Hbel2 := Lib.hid (Hbel1.out.trans (hb2.mono Hbel1.out.size))
  clear Hx1 Bx1 HT1 Hbel1 hb2
  obtain ⟨k0, k1, k2, k3, k4, k5, k6⟩ := Bx2.out.at
  go_wp2_with fail
  refine (read_any t _ (by have := Hts.out; omega)).mono ?_
  rintro e W3 ⟨hb3, h⟩
  rw [Hr.out] at h
  obtain ⟨v, rfl, hrow, hfine, _⟩ := h
  obtain ⟨ad, cap, rfl, _⟩ := hrow.flds hfine (by have := Hlen.out; omega)
  rw [Hlen.out]
  clear hrow hfine
  clear k0 k1 k2 k3 k4 k5 k6
  have Hx3 := Lib.hid (Hx2.out.under hb3)
  have Bx3 := Lib.hid (Bx2.out.under hb3)
  have HT3 := Lib.hid (HT2.out.under hb3)
  have Hbel3 := Lib.hid (Hbel2.out.trans (hb3.mono Hbel2.out.size))
  clear Hx2 Bx2 HT2 Hbel2 hb3
  obtain ⟨W4, hW4⟩ : ∃ W4, W4 = W3.alloc (.cells (fcells num 2 0 extra) 69) := ⟨_, rfl⟩
  have hb4 : Below W3.heap.size W3 W4 := by rw [hW4]; exact al W3 _
  have hf4 : Flds W4 W4.heap.size (some ⟨W3.heap.size, 0, none⟩) [bf num extra] := flds_one (bf_fit' num extra ⟨hn0, hn1⟩ (by have := Hext.out; omega)) (by rw [hW4]; exact blk_new W3 _)
  have Hcall := Lib.hid (write_any W4 (some ⟨W3.heap.size, 0, none⟩) 1 1 [bf num extra] rfl hf4)
  have HW4 := Lib.hid hW4
  clear hW4 hf4
  obtain ⟨k0, k1, k2, k3, k4, k5, k6⟩ := Bx3.out.at
  rw [Hk.out] at k0
  go_wp2_with fail
  rw [← HW4.out]
  refine (Hcall.out).mono ?_
  rintro e W5 ⟨rfl, hb5⟩
  clear k0 k1 k2 k3 k4 k5 k6
  have Hx4 := Lib.hid (Hx3.out.under hb4)
  have Bx4 := Lib.hid (Bx3.out.under hb4)
  have HT4 := Lib.hid (HT3.out.under hb4)
  have Hbel4 := Lib.hid (Hbel3.out.trans (hb4.mono Hbel3.out.size))
  clear Hx3 Bx3 HT3 Hbel3 hb4
  have Hx5 := Lib.hid (Hx4.out.under hb5)
  have Bx5 := Lib.hid (Bx4.out.under hb5)
  have HT5 := Lib.hid (HT4.out.under hb5)
  have Hbel5 := Lib.hid (Hbel4.out.trans (hb5.mono Hbel4.out.size))
  clear Hx4 Bx4 HT4 Hbel4 hb5
  rcases wrE_cases [bf num extra] with ⟨c, hc, h1, h2⟩ | ⟨h1, h2, _, _, hus⟩
  · rw [h1]
    clear h1 h2 hn0 hn1
    rcases hc with rfl | rfl | rfl
    all_goals
      go_wp2
      go_ret
      exact ⟨rfl, Hbel5.out⟩
  · rw [h1]
    clear h1
    obtain ⟨u, hu⟩ : ∃ u, u = M.enc [bf num extra] := ⟨_, rfl⟩
    rw [← hu] at h2 hus ⊢
    clear hu
    have hts := Hts.out
    by_cases h8 : num < 8
    · clear h2 hn0 hn1
      go_wp2
      go_ret
      exact ⟨rfl, Hbel5.out⟩
    · have h8' : (8 : Int) ≤ num := by omega
      by_cases hsum : (65536 : Int) < (t.length : Int) + (u.length : Int)
      · clear h2 hn0 hn1
        go_wp2
        go_ret
        exact ⟨rfl, Hbel5.out⟩
      · have htop := top_read Hfd.out Hwr.out h8' h2 (by omega)
        have Htu := Lib.hid htop.1
        have Hut := Lib.hid htop.2
        have Hus := Lib.hid hus
        have hs1 : ∀ W, (Op.stringOp .add ⟨t.toArray⟩ ⟨u.toArray⟩).run Tryd.prog W = .ok (.string ⟨(t ++ u).toArray⟩) W := fun W => by
          rw [run_string_add_sum W _ _ (by simp [ByteArray.size]; omega), ByteArray.mk_append_mk]
        have hs2 : ∀ W, (Op.stringOp .add ⟨u.toArray⟩ ⟨t.toArray⟩).run Tryd.prog W = .ok (.string ⟨(u ++ t).toArray⟩) W := fun W => by
          rw [run_string_add_sum W _ _ (by simp [ByteArray.size]; omega), ByteArray.mk_append_mk]
        have hsum' : (t.length : Int) + (u.length : Int) ≤ 65536 := by omega
        clear h2 htop hn0 hn1 hsum
        obtain ⟨k0, k1, k2, k3, k4, k5, k6⟩ := Bx5.out.at
        go_wp2_with fail
        refine (rdv_any2 (t ++ u) _ HT5.out (by rw [List.length_append]; have := Hts.out; have := Hus.out; omega)).mono ?_
        intro e W6 h
        rw [show readR (t ++ u) = .ok x from Htu.out] at h
        obtain ⟨r1, r2, rfl, hv, hb6⟩ := h
        obtain ⟨d1, d3, rfl, _⟩ := hv.parts.2.1.form
        obtain ⟨d2, d4, rfl, _⟩ := hv.parts.2.2.form
        clear k0 k1 k2 k3 k4 k5 k6
        have Hx6 := Lib.hid (Hx5.out.under hb6)
        have Bx6 := Lib.hid (Bx5.out.under hb6)
        have HT6 := Lib.hid (HT5.out.under hb6)
        have Hbel6 := Lib.hid (Hbel5.out.trans (hb6.mono Hbel5.out.size))
        clear Hx5 Bx5 HT5 Hbel5 hb6
        obtain ⟨W7, hW7⟩ : ∃ W, W = W6.alloc (.cells (cv x (.slice d1 x.l.length d3) (.slice d2 x.p.length d4)) 27) := ⟨_, rfl⟩
        have hb7 : Below W6.heap.size W6 W7 := by rw [hW7]; exact al W6 _
        have Bv7 := Lib.hid (show Box W7 W6.heap.size x _ _ by rw [hW7]; exact Box.new W6 x (.slice d1 x.l.length d3) (.slice d2 x.p.length d4))
        have Hv7 := Lib.hid ((hv.keep (Kept.of_below (Below.refl _ _) _) fun _ _ _ => trivial : Rep Any W6 _ _ x).under hb7)
        have HW7 := Lib.hid hW7
        clear hW7 hv
        have Hx7 := Lib.hid (Hx6.out.under hb7)
        have Bx7 := Lib.hid (Bx6.out.under hb7)
        have HT7 := Lib.hid (HT6.out.under hb7)
        have Hbel7 := Lib.hid (Hbel6.out.trans (hb7.mono Hbel6.out.size))
        clear Hx6 Bx6 HT6 Hbel6 hb7
        obtain ⟨k0, k1, k2, k3, k4, k5, k6⟩ := Bx7.out.at
        go_wp2_with fail
        rw [← HW7.out]
        refine (rdv_any2 (u ++ t) _ HT7.out (by rw [List.length_append]; have := Hts.out; have := Hus.out; omega)).mono ?_
        intro e W8 h
        rw [show readR (u ++ t) = .ok x from Hut.out] at h
        obtain ⟨r1, r2, rfl, hv, hb8⟩ := h
        obtain ⟨g1, g3, rfl, _⟩ := hv.parts.2.1.form
        obtain ⟨g2, g4, rfl, _⟩ := hv.parts.2.2.form
        clear k0 k1 k2 k3 k4 k5 k6
        have Hx8 := Lib.hid (Hx7.out.under hb8)
        have Bx8 := Lib.hid (Bx7.out.under hb8)
        have HT8 := Lib.hid (HT7.out.under hb8)
        have Hv8 := Lib.hid (Hv7.out.under hb8)
        have Bv8 := Lib.hid (Bv7.out.under hb8)
        have Hbel8 := Lib.hid (Hbel7.out.trans (hb8.mono Hbel7.out.size))
        clear Hx7 Bx7 HT7 Hv7 Bv7 Hbel7 hb8
        obtain ⟨W9, hW9⟩ : ∃ W, W = W8.alloc (.cells (cv x (.slice g1 x.l.length g3) (.slice g2 x.p.length g4)) 27) := ⟨_, rfl⟩
        have hb9 : Below W8.heap.size W8 W9 := by rw [hW9]; exact al W8 _
        have Bu9 := Lib.hid (show Box W9 W8.heap.size x _ _ by rw [hW9]; exact Box.new W8 x (.slice g1 x.l.length g3) (.slice g2 x.p.length g4))
        have Hu9 := Lib.hid ((hv.keep (Kept.of_below (Below.refl _ _) _) fun _ _ _ => trivial : Rep Any W8 _ _ x).under hb9)
        have HW9 := Lib.hid hW9
        clear hW9 hv
        have Hx9 := Lib.hid (Hx8.out.under hb9)
        have Bx9 := Lib.hid (Bx8.out.under hb9)
        have HT9 := Lib.hid (HT8.out.under hb9)
        have Hv9 := Lib.hid (Hv8.out.under hb9)
        have Bv9 := Lib.hid (Bv8.out.under hb9)
        have Hbel9 := Lib.hid (Hbel8.out.trans (hb9.mono Hbel8.out.size))
        clear Hx8 Bx8 HT8 Hv8 Bv8 Hbel8 hb9
        obtain ⟨k0, k1, k2, k3, k4, k5, k6⟩ := Bx9.out.at
        obtain ⟨v0, v1, v2, v3, v4, v5, v6⟩ := Bv9.out.at
        go_upto_region 14 with (fail)
        rw [← HW9.out]
        go_wp2_with fail
        refine (vs_any x x _ _ _ _ _ Hv9.out Hx9.out).mono ?_
        rintro e W10 ⟨rfl, hb10⟩
        rw [one_refl]
        clear k0 k1 k2 k3 k4 k5 k6 v0 v1 v2 v3 v4 v5 v6
        have Hx10 := Lib.hid (Hx9.out.under hb10)
        have Bx10 := Lib.hid (Bx9.out.under hb10)
        have HT10 := Lib.hid (HT9.out.under hb10)
        have Hv10 := Lib.hid (Hv9.out.under hb10)
        have Bv10 := Lib.hid (Bv9.out.under hb10)
        have Hu10 := Lib.hid (Hu9.out.under hb10)
        have Bu10 := Lib.hid (Bu9.out.under hb10)
        have Hbel10 := Lib.hid (Hbel9.out.trans (hb10.mono Hbel9.out.size))
        clear Hx9 Bx9 HT9 Hv9 Bv9 Hu9 Bu9 Hbel9 hb10
        obtain ⟨k0, k1, k2, k3, k4, k5, k6⟩ := Bx10.out.at
        obtain ⟨v0, v1, v2, v3, v4, v5, v6⟩ := Bu10.out.at
        go_wp2_with fail
        refine (vs_any x x _ _ _ _ _ Hu10.out Hx10.out).mono ?_
        rintro e W11 ⟨rfl, hb11⟩
        rw [one_refl]
        have Hbel11 := Lib.hid (Hbel10.out.trans (hb11.mono Hbel10.out.size))
        clear k0 k1 k2 k3 k4 k5 k6 v0 v1 v2 v3 v4 v5 v6 hb11
        go_wp2
        go_ret
        exact ⟨rfl, Hbel11.out⟩

set_option maxRecDepth 100000 in
set_option maxHeartbeats 4000000 in
theorem top_some (x : V) (t : List UInt8) (hw : writeR x = .ok t) (fs : List M.Fd) (hr : M.read t = .ok fs) (hlen : fs.length = 1) (hk : ¬ x.k = 0) (num : Int) (hn0 : -9223372036854775808 ≤ num) (hn1 : num ≤ 9223372036854775807) (extra : List UInt8) (hext : extra.length ≤ 140737488353000)
    (w : World) (q1 q2 : Value) (hT : Tabs w) (hx : Rep Any w q1 q2 x) :
    Calls Tryd.prog 12 #[.agg (cv x q1 q2), .int .i64 num, .string ⟨extra.toArray⟩] w fun e w' => e = .returned (.bool true) ∧ Below w.heap.size w w' := by
  have Hfd := Lib.hid hx.fitD
  have Hts := Lib.hid (writeR_short hw)
  have Hwr := Lib.hid hw
  have Hr := Lib.hid hr
  have Hlen := Lib.hid hlen
  have Hk := Lib.hid hk
  have Hext := Lib.hid hext
  obtain ⟨a1, c1, rfl, _⟩ := hx.parts.2.1.form
  obtain ⟨a2, c2, rfl, _⟩ := hx.parts.2.2.form
  obtain ⟨W0, hW0⟩ : ∃ W0, W0 = w.alloc (.cells (cv x (.slice a1 x.l.length c1) (.slice a2 x.p.length c2)) 27) := ⟨_, rfl⟩
  have hb0 : Below w.heap.size w W0 := by rw [hW0]; exact al w _
  have Bx0 := Lib.hid (show Box W0 w.heap.size x _ _ by rw [hW0]; exact Box.new w x (.slice a1 x.l.length c1) (.slice a2 x.p.length c2))
  have Hx0 := Lib.hid (hx.under hb0)
  have HT0 := Lib.hid (hT.under hb0)
  have Hbel0 := Lib.hid hb0
  have HW0 := Lib.hid hW0
  clear hW0 hb0 hx hT hw hr hlen hk hext
  go_enter Tryd.func12, Tryd.ntmps12
  go_wp2_with fail
  rw [← HW0.out]
  refine (begins_any _).mono ?_
  rintro e W1 ⟨rfl, hb1⟩
  have Hx1 := Lib.hid (Hx0.out.under hb1)
  have Bx1 := Lib.hid (Bx0.out.under hb1)
  have HT1 := Lib.hid (HT0.out.under hb1)
  have Hbel1 := Lib.hid (Hbel0.out.trans (hb1.mono Hbel0.out.size))
  clear Hx0 Bx0 HT0 Hbel0 hb1
  obtain ⟨k0, k1, k2, k3, k4, k5, k6⟩ := Bx1.out.at
  go_wp2_with fail
  refine (wrt_any2 x _ _ _ HT1.out Hx1.out).mono ?_
  intro e W2 h
  rw [Hwr.out] at h
  obtain ⟨rfl, hb2⟩ := wb_ok h
  clear k0 k1 k2 k3 k4 k5 k6
  have Hx2 := Lib.hid (Hx1.out.under hb2)
  have Bx2 := Lib.hid (Bx1.out.under hb2)
  have HT2 := Lib.hid (HT1.out.under hb2)
  have Hbel2 := Lib.hid (Hbel1.out.trans (hb2.mono Hbel1.out.size))
  clear Hx1 Bx1 HT1 Hbel1 hb2
  obtain ⟨k0, k1, k2, k3, k4, k5, k6⟩ := Bx2.out.at
  go_wp2_with fail
  refine (read_any t _ (by have := Hts.out; omega)).mono ?_
  rintro e W3 ⟨hb3, h⟩
  rw [Hr.out] at h
  obtain ⟨v, rfl, hrow, hfine, _⟩ := h
  obtain ⟨ad, cap, rfl, _⟩ := hrow.flds hfine (by have := Hlen.out; omega)
  rw [Hlen.out]
  clear hrow hfine
  clear k0 k1 k2 k3 k4 k5 k6
  have Hx3 := Lib.hid (Hx2.out.under hb3)
  have Bx3 := Lib.hid (Bx2.out.under hb3)
  have HT3 := Lib.hid (HT2.out.under hb3)
  have Hbel3 := Lib.hid (Hbel2.out.trans (hb3.mono Hbel2.out.size))
  clear Hx2 Bx2 HT2 Hbel2 hb3
  obtain ⟨W4, hW4⟩ : ∃ W4, W4 = W3.alloc (.cells (fcells num 2 0 extra) 69) := ⟨_, rfl⟩
  have hb4 : Below W3.heap.size W3 W4 := by rw [hW4]; exact al W3 _
  have hf4 : Flds W4 W4.heap.size (some ⟨W3.heap.size, 0, none⟩) [bf num extra] := flds_one (bf_fit' num extra ⟨hn0, hn1⟩ (by have := Hext.out; omega)) (by rw [hW4]; exact blk_new W3 _)
  have Hcall := Lib.hid (write_any W4 (some ⟨W3.heap.size, 0, none⟩) 1 1 [bf num extra] rfl hf4)
  have HW4 := Lib.hid hW4
  clear hW4 hf4
  obtain ⟨k0, k1, k2, k3, k4, k5, k6⟩ := Bx3.out.at
  have hk0 := Hk.out
  go_wp2_with fail
  rw [← HW4.out]
  refine (Hcall.out).mono ?_
  rintro e W5 ⟨rfl, hb5⟩
  clear k0 k1 k2 k3 k4 k5 k6
  have Hx4 := Lib.hid (Hx3.out.under hb4)
  have Bx4 := Lib.hid (Bx3.out.under hb4)
  have HT4 := Lib.hid (HT3.out.under hb4)
  have Hbel4 := Lib.hid (Hbel3.out.trans (hb4.mono Hbel3.out.size))
  clear Hx3 Bx3 HT3 Hbel3 hb4 hk0
  have Hx5 := Lib.hid (Hx4.out.under hb5)
  have Bx5 := Lib.hid (Bx4.out.under hb5)
  have HT5 := Lib.hid (HT4.out.under hb5)
  have Hbel5 := Lib.hid (Hbel4.out.trans (hb5.mono Hbel4.out.size))
  clear Hx4 Bx4 HT4 Hbel4 hb5
  rcases wrE_cases [bf num extra] with ⟨c, hc, h1, h2⟩ | ⟨h1, h2, _, _, hus⟩
  · rw [h1]
    clear h1 h2 hn0 hn1
    rcases hc with rfl | rfl | rfl
    all_goals
      go_wp2
      go_ret
      exact ⟨rfl, Hbel5.out⟩
  · rw [h1]
    clear h1
    obtain ⟨u, hu⟩ : ∃ u, u = M.enc [bf num extra] := ⟨_, rfl⟩
    rw [← hu] at h2 hus ⊢
    clear hu
    have hts := Hts.out
    by_cases h8 : num < 8
    · clear h2 hn0 hn1
      go_wp2
      go_ret
      exact ⟨rfl, Hbel5.out⟩
    · have h8' : (8 : Int) ≤ num := by omega
      by_cases hsum : (65536 : Int) < (t.length : Int) + (u.length : Int)
      · clear h2 hn0 hn1
        go_wp2
        go_ret
        exact ⟨rfl, Hbel5.out⟩
      · have htop := top_read Hfd.out Hwr.out h8' h2 (by omega)
        have Htu := Lib.hid htop.1
        have Hut := Lib.hid htop.2
        have Hus := Lib.hid hus
        have hs1 : ∀ W, (Op.stringOp .add ⟨t.toArray⟩ ⟨u.toArray⟩).run Tryd.prog W = .ok (.string ⟨(t ++ u).toArray⟩) W := fun W => by
          rw [run_string_add_sum W _ _ (by simp [ByteArray.size]; omega), ByteArray.mk_append_mk]
        have hs2 : ∀ W, (Op.stringOp .add ⟨u.toArray⟩ ⟨t.toArray⟩).run Tryd.prog W = .ok (.string ⟨(u ++ t).toArray⟩) W := fun W => by
          rw [run_string_add_sum W _ _ (by simp [ByteArray.size]; omega), ByteArray.mk_append_mk]
        have hsum' : (t.length : Int) + (u.length : Int) ≤ 65536 := by omega
        clear h2 htop hn0 hn1 hsum
        obtain ⟨k0, k1, k2, k3, k4, k5, k6⟩ := Bx5.out.at
        go_wp2_with fail
        refine (rdv_any2 (t ++ u) _ HT5.out (by rw [List.length_append]; have := Hts.out; have := Hus.out; omega)).mono ?_
        intro e W6 h
        rw [show readR (t ++ u) = .ok x from Htu.out] at h
        obtain ⟨r1, r2, rfl, hv, hb6⟩ := h
        obtain ⟨d1, d3, rfl, _⟩ := hv.parts.2.1.form
        obtain ⟨d2, d4, rfl, _⟩ := hv.parts.2.2.form
        clear k0 k1 k2 k3 k4 k5 k6
        have Hx6 := Lib.hid (Hx5.out.under hb6)
        have Bx6 := Lib.hid (Bx5.out.under hb6)
        have HT6 := Lib.hid (HT5.out.under hb6)
        have Hbel6 := Lib.hid (Hbel5.out.trans (hb6.mono Hbel5.out.size))
        clear Hx5 Bx5 HT5 Hbel5 hb6
        obtain ⟨W7, hW7⟩ : ∃ W, W = W6.alloc (.cells (cv x (.slice d1 x.l.length d3) (.slice d2 x.p.length d4)) 27) := ⟨_, rfl⟩
        have hb7 : Below W6.heap.size W6 W7 := by rw [hW7]; exact al W6 _
        have Bv7 := Lib.hid (show Box W7 W6.heap.size x _ _ by rw [hW7]; exact Box.new W6 x (.slice d1 x.l.length d3) (.slice d2 x.p.length d4))
        have Hv7 := Lib.hid ((hv.keep (Kept.of_below (Below.refl _ _) _) fun _ _ _ => trivial : Rep Any W6 _ _ x).under hb7)
        have HW7 := Lib.hid hW7
        clear hW7 hv
        have Hx7 := Lib.hid (Hx6.out.under hb7)
        have Bx7 := Lib.hid (Bx6.out.under hb7)
        have HT7 := Lib.hid (HT6.out.under hb7)
        have Hbel7 := Lib.hid (Hbel6.out.trans (hb7.mono Hbel6.out.size))
        clear Hx6 Bx6 HT6 Hbel6 hb7
        obtain ⟨k0, k1, k2, k3, k4, k5, k6⟩ := Bx7.out.at
        go_wp2_with fail
        rw [← HW7.out]
        refine (rdv_any2 (u ++ t) _ HT7.out (by rw [List.length_append]; have := Hts.out; have := Hus.out; omega)).mono ?_
        intro e W8 h
        rw [show readR (u ++ t) = .ok x from Hut.out] at h
        obtain ⟨r1, r2, rfl, hv, hb8⟩ := h
        obtain ⟨g1, g3, rfl, _⟩ := hv.parts.2.1.form
        obtain ⟨g2, g4, rfl, _⟩ := hv.parts.2.2.form
        clear k0 k1 k2 k3 k4 k5 k6
        have Hx8 := Lib.hid (Hx7.out.under hb8)
        have Bx8 := Lib.hid (Bx7.out.under hb8)
        have HT8 := Lib.hid (HT7.out.under hb8)
        have Hv8 := Lib.hid (Hv7.out.under hb8)
        have Bv8 := Lib.hid (Bv7.out.under hb8)
        have Hbel8 := Lib.hid (Hbel7.out.trans (hb8.mono Hbel7.out.size))
        clear Hx7 Bx7 HT7 Hv7 Bv7 Hbel7 hb8
        obtain ⟨W9, hW9⟩ : ∃ W, W = W8.alloc (.cells (cv x (.slice g1 x.l.length g3) (.slice g2 x.p.length g4)) 27) := ⟨_, rfl⟩
        have hb9 : Below W8.heap.size W8 W9 := by rw [hW9]; exact al W8 _
        have Bu9 := Lib.hid (show Box W9 W8.heap.size x _ _ by rw [hW9]; exact Box.new W8 x (.slice g1 x.l.length g3) (.slice g2 x.p.length g4))
        have Hu9 := Lib.hid ((hv.keep (Kept.of_below (Below.refl _ _) _) fun _ _ _ => trivial : Rep Any W8 _ _ x).under hb9)
        have HW9 := Lib.hid hW9
        clear hW9 hv
        have Hx9 := Lib.hid (Hx8.out.under hb9)
        have Bx9 := Lib.hid (Bx8.out.under hb9)
        have HT9 := Lib.hid (HT8.out.under hb9)
        have Hv9 := Lib.hid (Hv8.out.under hb9)
        have Bv9 := Lib.hid (Bv8.out.under hb9)
        have Hbel9 := Lib.hid (Hbel8.out.trans (hb9.mono Hbel8.out.size))
        clear Hx8 Bx8 HT8 Hv8 Bv8 Hbel8 hb9
        obtain ⟨k0, k1, k2, k3, k4, k5, k6⟩ := Bx9.out.at
        obtain ⟨v0, v1, v2, v3, v4, v5, v6⟩ := Bv9.out.at
        go_upto_region 14 with (fail)
        rw [← HW9.out]
        go_wp2_with fail
        refine (vs_any x x _ _ _ _ _ Hv9.out Hx9.out).mono ?_
        rintro e W10 ⟨rfl, hb10⟩
        rw [one_refl]
        clear k0 k1 k2 k3 k4 k5 k6 v0 v1 v2 v3 v4 v5 v6
        have Hx10 := Lib.hid (Hx9.out.under hb10)
        have Bx10 := Lib.hid (Bx9.out.under hb10)
        have HT10 := Lib.hid (HT9.out.under hb10)
        have Hv10 := Lib.hid (Hv9.out.under hb10)
        have Bv10 := Lib.hid (Bv9.out.under hb10)
        have Hu10 := Lib.hid (Hu9.out.under hb10)
        have Bu10 := Lib.hid (Bu9.out.under hb10)
        have Hbel10 := Lib.hid (Hbel9.out.trans (hb10.mono Hbel9.out.size))
        clear Hx9 Bx9 HT9 Hv9 Bv9 Hu9 Bu9 Hbel9 hb10
        obtain ⟨k0, k1, k2, k3, k4, k5, k6⟩ := Bx10.out.at
        obtain ⟨v0, v1, v2, v3, v4, v5, v6⟩ := Bu10.out.at
        go_wp2_with fail
        refine (vs_any x x _ _ _ _ _ Hu10.out Hx10.out).mono ?_
        rintro e W11 ⟨rfl, hb11⟩
        rw [one_refl]
        have Hbel11 := Lib.hid (Hbel10.out.trans (hb11.mono Hbel10.out.size))
        clear k0 k1 k2 k3 k4 k5 k6 v0 v1 v2 v3 v4 v5 v6 hb11
        go_wp2
        go_ret
        exact ⟨rfl, Hbel11.out⟩

theorem top_of (x : V) (num : Int) (hn0 : -9223372036854775808 ≤ num) (hn1 : num ≤ 9223372036854775807) (extra : List UInt8) (hext : extra.length ≤ 140737488353000) (w : World) (q1 q2 : Value) (hT : Tabs w) (hx : Rep Any w q1 q2 x) :
    Calls Tryd.prog 12 #[.agg (cv x q1 q2), .int .i64 num, .string ⟨extra.toArray⟩] w fun e w' => e = .returned (.bool true) ∧ Below w.heap.size w w' := by
  cases hw : writeR x with
  | error c => exact top_err x c hw num extra w q1 q2 hT hx
  | ok t =>
    obtain ⟨fs, hr, ⟨hk, rfl⟩ | ⟨hk, f, rfl⟩⟩ := top_fields hx.fitD hw
    · exact top_none x t hw [] hr rfl hk num hn0 hn1 extra hext w q1 q2 hT hx
    · exact top_some x t hw [f] hr rfl hk num hn0 hn1 extra hext w q1 q2 hT hx
end Go.Proofs.YtnnnnlcpmocnfaaDoor
