/- SERVER: THE WALKS OVER Look, at a request with the target /x and no heads, and at what is none. -/
import Derived.Test.YtomicdkmbgckkaaGreatDoorGat
namespace Go.Proofs.YtomicdkmbgckkaaGreatDoor
open Go.RowKit
set_option maxRecDepth 100000
set_option linter.unusedVariables false
set_option linter.unusedSimpArgs false

set_option maxHeartbeats 8000000 in
theorem cn_look_a (w : World) (buf out : H.T) (last : Bool) (since m idle now : Int) (mth body s : H.T) (n : Nat) (hm : 0 ≤ m ∧ m ≤ 65536) (hout : out.length ≤ 65536) (hsl : s.length ≤ 1000) (hk : chk ⟨buf, out, false, false, last, since⟩ m = 0) (hn : n ≤ buf.length)
    (hR : H.readRequest buf m = (⟨mth, [47, 120], [], body⟩, n, 0)) (hW : WrC w 404 [] s) (hT : Tabs w) :
    Calls Tryz.prog 10 #[.agg #[S buf, S out, .bool false, .bool false, .bool last, .int .u64 since], .agg #[.int .i64 m, .int .u64 idle], .int .u64 now] w fun e w' => e = .returned (.tuple #[.agg #[S (buf.drop n), S (out ++ s), .bool false, .bool false, .bool last, .int .u64 now], .agg #[.int .u8 0, .slice none 0 0], .int .u8 1, .int .i64 0]) ∧ Below w.heap.size w w' := by
  obtain ⟨X, hX⟩ : ∃ X, X = (((w.alloc (.cells #[S buf, S out, .bool false, .bool false, .bool last, .int .u64 since] 24)).alloc (.cells #[.int .i64 m, .int .u64 idle] 26)).alloc (.cells #[S [], S [], .bool false, .bool false, .bool false, .int .u64 0] 24)).alloc (.cells #[.int .u8 0, .slice none 0 0] 40) := ⟨_, rfl⟩
  have hb : Below w.heap.size w X := by rw [hX]; exact ((((Below.refl _ w).alloc (Nat.le_refl _) _).alloc (by simp) _).alloc (by simp; omega) _).alloc (by simp; omega) _
  have hx : X.heap[w.heap.size]? = some (.cells #[S buf, S out, .bool false, .bool false, .bool last, .int .u64 since] 24 (0, 0)) := by rw [hX]; exact blk_alloc (blk_alloc (blk_alloc (blk_new w _) _) _) _
  have hr : X.heap[w.heap.size + 1]? = some (.cells #[.int .i64 m, .int .u64 idle] 26 (0, 0)) := by rw [hX]; exact blk_alloc (blk_alloc (blk_at (by simp)) _) _
  have ho : X.heap[w.heap.size + 1 + 1]? = some (.cells #[S [], S [], .bool false, .bool false, .bool false, .int .u64 0] 24 (0, 0)) := by rw [hX]; exact blk_alloc (blk_at (by simp)) _
  have hd : X.heap[w.heap.size + 1 + 1 + 1]? = some (.cells #[.int .u8 0, .slice none 0 0] 40 (0, 0)) := by rw [hX]; exact blk_at (by simp)
  have hch := cn_check X ⟨buf, out, false, false, last, since⟩ m idle
  rw [hk] at hch
  have hbl := (chk_out hk).2
  simp only at hbl
  have HTX := Lib.hid (hT.under hb)
  have HWX := Lib.hid (hW.under hb)
  have Hb := Lib.hid hb
  have Hx := Lib.hid hx
  have Hr := Lib.hid hr
  have Ho := Lib.hid ho
  have Hd := Lib.hid hd
  have Hch := Lib.hid hch
  have HR := Lib.hid hR
  obtain ⟨c0, c1, c2, c3, c4, c5⟩ := box6 hx
  obtain ⟨r0, r1⟩ := box2 hr
  have hla := blk_lt hx
  have hlb := blk_lt hr
  have hol : ¬ (65536 : Int) < (out.length : Int) := by omega
  clear hb hx hr ho hd hch hk hW hT hR
  go_enter Tryz.func10, Tryz.ntmps10
  go_upto_region 1 with (fail)
  rw [← hX]
  clear hX
  go_wp2_with fail
  refine Hch.out.mono ?_
  rintro e w1 ⟨rfl, h1⟩
  have hx1 := blk_under Hx.out h1
  have hr1 := blk_under Hr.out h1
  obtain ⟨c0, c1, c2, c3, c4, c5⟩ := box6 hx1
  obtain ⟨r0, r1⟩ := box2 hr1
  have hla := blk_lt hx1
  have hlb := blk_lt hr1
  obtain ⟨Y, hY⟩ : ∃ Y, Y = w1.alloc (.cells #[S buf, S out, .bool false, .bool false, .bool last, .int .u64 since] 46) := ⟨_, rfl⟩
  have hbY : Below w1.heap.size w1 Y := by rw [hY]; exact (Below.refl _ w1).alloc (Nat.le_refl _) _
  have hkY : Y.heap[w1.heap.size]? = some (.cells (Cn.mk buf out false false last since).cells 46 (0, 0)) := by rw [hY]; exact blk_new w1 _
  have hbXY : Below X.heap.size X Y := h1.trans (hbY.mono h1.size)
  have hxY := blk_under hx1 hbY
  have hrY := blk_under hr1 hbY
  have hrd := readRequest_any Y buf m (by omega) (by omega) (HTX.out.under hbXY)
  rw [HR.out] at hrd
  simp only at hrd
  have Hrd := Lib.hid hrd
  have HkY := Lib.hid hkY
  have HxY := Lib.hid hxY
  have HbXY := Lib.hid hbXY
  have hs1 := h1.size
  go_upto_region 7 with (fail)
  rw [← hY]
  clear c0 c1 c2 c3 c4 c5 r0 r1 hla hlb
  obtain ⟨c0, c1, c2, c3, c4, c5⟩ := box6 hxY
  obtain ⟨r0, r1⟩ := box2 hrY
  have hla := blk_lt hxY
  have hlb := blk_lt hrY
  clear hY hx1 hr1 h1 hbY hkY hbXY hxY hrY hrd
  go_wp2_with fail
  refine Hrd.out.mono ?_
  rintro e w2 ⟨hb2, x, rfl, v, rfl, hrow⟩
  simp only at hrow ⊢
  obtain ⟨adv, capv, rfl⟩ := row_form hrow
  clear hrow
  simp only [qcells]
  obtain ⟨U, hU⟩ : ∃ U, U = w2.alloc (.cells #[S mth, S [47, 120], .slice adv 0 capv, S body] 50) := ⟨_, rfl⟩
  have hbU : Below w2.heap.size w2 U := by rw [hU]; exact (Below.refl _ w2).alloc (Nat.le_refl _) _
  have hqU : U.heap[w2.heap.size]? = some (.cells #[S mth, S [47, 120], .slice adv 0 capv, S body] 50 (0, 0)) := by rw [hU]; exact blk_new w2 _
  have hbYU : Below Y.heap.size Y U := hb2.trans (hbU.mono hb2.size)
  have hbXU : Below X.heap.size X U := HbXY.out.trans (hbYU.mono HbXY.out.size)
  have hcu := cn_cut U w1.heap.size ⟨buf, out, false, false, last, since⟩ n now hn hbl (blk_under HkY.out hbYU)
  have Hcu := Lib.hid hcu
  have HqU := Lib.hid hqU
  have HXU := Lib.hid hbXU
  have hsU := hb2.size
  have hlgY := blk_lt HkY.out
  have hxU := blk_under HxY.out hbYU
  clear c0 c1 c2 c3 c4 c5 r0 r1 hla hlb hbU hqU hbYU hbXU hcu hb2
  go_upto_region 9 with (fail)
  rw [← hU]
  clear hU
  go_wp2_with fail
  refine Hcu.out.mono ?_
  rintro e w3 ⟨rfl, hk3, hg3⟩
  have hq3 := (hg3.block w2.heap.size (blk_lt HqU.out) (by intro e; injection e with e; omega)).trans HqU.out
  obtain ⟨q0, q1, q2, q3⟩ := box4 hq3
  have hlq := blk_lt hq3
  have hx3 := Below.refl
  have hW3 : WrC w3 404 [] s := fun W ad cap h1 h2 => HWX.out W ad cap ⟨h1.os.trans (hg3.os.trans HXU.out.os), h1.tape.trans (hg3.tape.trans HXU.out.tape), h1.output.trans (hg3.output.trans HXU.out.output), by have := HXU.out.size; have := hg3.size; have := h1.size; omega, fun k hk => (h1.block k (by have := HXU.out.size; have := hg3.size; omega)).trans ((hg3.block k (by have := HXU.out.size; omega) (by intro e; injection e with e; omega)).trans (HXU.out.block k hk))⟩ h2
  have hlo := cn_look w3 w1.heap.size ⟨buf.drop n, out, false, false, last, now⟩ mth body s adv capv hW3 (by simp only; omega) hk3
  have Hlo := Lib.hid hlo
  have Hg3 := Lib.hid hg3
  clear hk3 hg3 hq3 hW3 hlo hx3
  go_wp2_with fail
  refine Hlo.out.mono ?_
  rintro e w4 ⟨rfl, hk4, hg4⟩
  have hg4' := Hg3.out.trans hg4
  obtain ⟨T, hT⟩ : ∃ T, T = w4.alloc (.cells #[.int .u8 0, .slice none 0 0] 40) := ⟨_, rfl⟩
  have hbT : Below w4.heap.size w4 T := by rw [hT]; exact (Below.refl _ w4).alloc (Nat.le_refl _) _
  have hdT : T.heap[w4.heap.size]? = some (.cells #[.int .u8 0, .slice none 0 0] 40 (0, 0)) := by rw [hT]; exact blk_new w4 _
  have hXT : ∀ k o, k < X.heap.size → X.heap[k]? = some o → T.heap[k]? = some o := fun k o hk h => (hbT.block k (by have := HXU.out.size; have := hg4'.size; omega)).trans ((hg4'.block k (by have := HXU.out.size; omega) (by intro e; injection e with e; omega)).trans ((HXU.out.block k hk).trans h))
  have hoT := hXT _ _ (blk_lt Ho.out) Ho.out
  have hzT := hXT _ _ (blk_lt Hd.out) Hd.out
  have hkT := blk_under hk4 hbT
  have HbT : Below w.heap.size w T := Hb.out.trans ⟨hbT.os.trans (hg4'.os.trans HXU.out.os), hbT.tape.trans (hg4'.tape.trans HXU.out.tape), hbT.output.trans (hg4'.output.trans HXU.out.output), by have := HXU.out.size; have := hg4'.size; have := hbT.size; omega, fun k hk => by
    have hkX : k < X.heap.size := Nat.lt_of_lt_of_le hk Hb.out.size
    exact (hbT.block k (by have := HXU.out.size; have := hg4'.size; omega)).trans ((hg4'.block k (by have := HXU.out.size; omega) (by intro e; injection e with e; omega)).trans (HXU.out.block k hkX))⟩
  obtain ⟨k0, k1, k2, k3, k4, k5⟩ := box6 hkT
  obtain ⟨d0, d1⟩ := box2 hdT
  obtain ⟨f0, f1, f2, f3, f4, f5⟩ := frz6 hoT
  obtain ⟨z0, z1⟩ := box2' hzT
  obtain ⟨o0, o1, o2, o3, o4, o5⟩ := box6 hoT
  obtain ⟨y0, y1⟩ := box2 hzT
  have l1 := blk_lt hkT
  have l2 := blk_lt hdT
  have l3 := blk_lt hoT
  have l4 := blk_lt hzT
  have n1 : w.heap.size + 1 + 1 + 1 < w4.heap.size := by have := blk_lt Hd.out; have := HXU.out.size; have := hg4'.size; omega
  have n2 : w.heap.size + 1 + 1 + 1 < w1.heap.size := by have := blk_lt Hd.out; omega
  have HoT := Lib.hid hoT
  have HzT := Lib.hid hzT
  have HBT := Lib.hid HbT
  clear hoT hzT hkT hdT HbT hXT hbT hg4' hk4 hg4 q0 q1 q2 q3
  go_upto_region 12 with (fail)
  rw [← hT]
  clear hT
  go_region
  all_goals go_wp2
  obtain ⟨V1, hV1⟩ : ∃ V1, V1 = (((((T.setCell ⟨w.heap.size + 1 + 1, 0, none⟩ (S (buf.drop n))).setCell ⟨w.heap.size + 1 + 1, 1, none⟩ (S (out ++ s))).setCell ⟨w.heap.size + 1 + 1, 2, none⟩ (.bool false)).setCell ⟨w.heap.size + 1 + 1, 3, none⟩ (.bool false)).setCell ⟨w.heap.size + 1 + 1, 4, none⟩ (.bool last)).setCell ⟨w.heap.size + 1 + 1, 5, none⟩ (.int .u64 now) := ⟨_, rfl⟩
  rw [← hV1]
  obtain ⟨hk1, hg1⟩ := put6 HoT.out _ _ _ _ _ _ hV1
  have hz1 := (hg1.block (w.heap.size + 1 + 1 + 1) l4 (by intro e; injection e with e; omega)).trans HzT.out
  obtain ⟨V, hV⟩ : ∃ V, V = (V1.setCell ⟨w.heap.size + 1 + 1 + 1, 0, none⟩ (.int .u8 0)).setCell ⟨w.heap.size + 1 + 1 + 1, 1, none⟩ (.slice none 0 0) := ⟨_, rfl⟩
  rw [← hV]
  obtain ⟨hk2, hg2⟩ := put2 hz1 _ _ hV
  have hkV := (hg2.block (w.heap.size + 1 + 1) (blk_lt hk1) (by intro e; injection e with e; omega)).trans hk1
  obtain ⟨D, hD⟩ : ∃ D, D = V.drew := ⟨_, rfl⟩
  have hbD : Below V.heap.size V D := by rw [hD]; exact (Below.refl _ V).drew
  have HbV := Lib.hid ((grown_below (grown_below HBT.out hg1 (by omega) l3) hg2 (by omega) (blk_lt hz1)).trans (hbD.mono (by have := hg1.size; have := hg2.size; omega)))
  rw [← hD]
  obtain ⟨p0, p1, p2, p3, p4, p5⟩ := box6 (blk_under hkV hbD)
  obtain ⟨x0, x1⟩ := box2 (blk_under hk2 hbD)
  clear hV hV1 hD o0 o1 o2 o3 o4 o5 f0 f1 f2 f3 f4 f5 y0 y1 z0 z1 k0 k1 k2 k3 k4 k5 hk1 hk2 hkV hz1 hbD
  refine bodyPost_ret (by simp [results, Tryz.results10, go_sem, p0, p1, p2, p3, p4, p5, x0, x1]; try rfl) rfl ?_
  exact ⟨rfl, HbV.out⟩
set_option maxHeartbeats 8000000 in
theorem cn_look_b (w : World) (buf out : H.T) (last : Bool) (since m idle now : Int) (q : H.Rq) (s : H.T) (n : Nat) (hm : 0 ≤ m ∧ m ≤ 65536) (hout : out.length ≤ 65536) (hsl : s.length ≤ 1000) (hk : chk ⟨buf, out, false, false, last, since⟩ m = 0)
    (hR : H.readRequest buf m = (q, n, 13)) (hW : WrC w 400 [cnClose] s) (hT : Tabs w) :
    Calls Tryz.prog 10 #[.agg #[S buf, S out, .bool false, .bool false, .bool last, .int .u64 since], .agg #[.int .i64 m, .int .u64 idle], .int .u64 now] w fun e w' => e = .returned (.tuple #[.agg #[S [], S (out ++ s), .bool true, .bool false, .bool false, .int .u64 since], .agg #[.int .u8 0, .slice none 0 0], .int .u8 1, .int .i64 0]) ∧ Below w.heap.size w w' := by
  obtain ⟨X, hX⟩ : ∃ X, X = (((w.alloc (.cells #[S buf, S out, .bool false, .bool false, .bool last, .int .u64 since] 24)).alloc (.cells #[.int .i64 m, .int .u64 idle] 26)).alloc (.cells #[S [], S [], .bool false, .bool false, .bool false, .int .u64 0] 24)).alloc (.cells #[.int .u8 0, .slice none 0 0] 40) := ⟨_, rfl⟩
  have hb : Below w.heap.size w X := by rw [hX]; exact ((((Below.refl _ w).alloc (Nat.le_refl _) _).alloc (by simp) _).alloc (by simp; omega) _).alloc (by simp; omega) _
  have hx : X.heap[w.heap.size]? = some (.cells #[S buf, S out, .bool false, .bool false, .bool last, .int .u64 since] 24 (0, 0)) := by rw [hX]; exact blk_alloc (blk_alloc (blk_alloc (blk_new w _) _) _) _
  have hr : X.heap[w.heap.size + 1]? = some (.cells #[.int .i64 m, .int .u64 idle] 26 (0, 0)) := by rw [hX]; exact blk_alloc (blk_alloc (blk_at (by simp)) _) _
  have ho : X.heap[w.heap.size + 1 + 1]? = some (.cells #[S [], S [], .bool false, .bool false, .bool false, .int .u64 0] 24 (0, 0)) := by rw [hX]; exact blk_alloc (blk_at (by simp)) _
  have hd : X.heap[w.heap.size + 1 + 1 + 1]? = some (.cells #[.int .u8 0, .slice none 0 0] 40 (0, 0)) := by rw [hX]; exact blk_at (by simp)
  have hch := cn_check X ⟨buf, out, false, false, last, since⟩ m idle
  rw [hk] at hch
  have hbl := (chk_out hk).2
  simp only at hbl
  have HTX := Lib.hid (hT.under hb)
  have HWX := Lib.hid (hW.under hb)
  have Hb := Lib.hid hb
  have Hx := Lib.hid hx
  have Hr := Lib.hid hr
  have Ho := Lib.hid ho
  have Hd := Lib.hid hd
  have Hch := Lib.hid hch
  have HR := Lib.hid hR
  obtain ⟨c0, c1, c2, c3, c4, c5⟩ := box6 hx
  obtain ⟨r0, r1⟩ := box2 hr
  have hla := blk_lt hx
  have hlb := blk_lt hr
  have hol : ¬ (65536 : Int) < (out.length : Int) := by omega
  clear hb hx hr ho hd hch hk hW hT hR
  go_enter Tryz.func10, Tryz.ntmps10
  go_upto_region 1 with (fail)
  rw [← hX]
  clear hX
  go_wp2_with fail
  refine Hch.out.mono ?_
  rintro e w1 ⟨rfl, h1⟩
  have hx1 := blk_under Hx.out h1
  have hr1 := blk_under Hr.out h1
  obtain ⟨c0, c1, c2, c3, c4, c5⟩ := box6 hx1
  obtain ⟨r0, r1⟩ := box2 hr1
  have hla := blk_lt hx1
  have hlb := blk_lt hr1
  obtain ⟨Y, hY⟩ : ∃ Y, Y = w1.alloc (.cells #[S buf, S out, .bool false, .bool false, .bool last, .int .u64 since] 46) := ⟨_, rfl⟩
  have hbY : Below w1.heap.size w1 Y := by rw [hY]; exact (Below.refl _ w1).alloc (Nat.le_refl _) _
  have hkY : Y.heap[w1.heap.size]? = some (.cells (Cn.mk buf out false false last since).cells 46 (0, 0)) := by rw [hY]; exact blk_new w1 _
  have hbXY : Below X.heap.size X Y := h1.trans (hbY.mono h1.size)
  have hxY := blk_under hx1 hbY
  have hrY := blk_under hr1 hbY
  have hrd := readRequest_any Y buf m (by omega) (by omega) (HTX.out.under hbXY)
  rw [HR.out] at hrd
  simp only at hrd
  have Hrd := Lib.hid hrd
  have HkY := Lib.hid hkY
  have HxY := Lib.hid hxY
  have HbXY := Lib.hid hbXY
  have hs1 := h1.size
  go_upto_region 7 with (fail)
  rw [← hY]
  clear c0 c1 c2 c3 c4 c5 r0 r1 hla hlb
  obtain ⟨c0, c1, c2, c3, c4, c5⟩ := box6 hxY
  obtain ⟨r0, r1⟩ := box2 hrY
  have hla := blk_lt hxY
  have hlb := blk_lt hrY
  clear hY hx1 hr1 h1 hbY hkY hbXY hxY hrY hrd
  go_wp2_with fail
  refine Hrd.out.mono ?_
  rintro e w2 ⟨hb2, x, rfl, v, rfl, hrow⟩
  simp only at hrow ⊢
  obtain ⟨adv, capv, rfl⟩ := row_form hrow
  clear hrow
  simp only [qcells]
  obtain ⟨U, hU⟩ : ∃ U, U = w2.alloc (.cells #[S q.method, S q.target, .slice adv q.hs.length capv, S q.body] 50) := ⟨_, rfl⟩
  have hbU : Below w2.heap.size w2 U := by rw [hU]; exact (Below.refl _ w2).alloc (Nat.le_refl _) _
  have hbYU : Below Y.heap.size Y U := hb2.trans (hbU.mono hb2.size)
  have hbXU : Below X.heap.size X U := HbXY.out.trans (hbYU.mono HbXY.out.size)
  have hre := cn_reply1 U w1.heap.size ⟨buf, out, false, false, last, since⟩ 400 s (by omega) (HWX.out.under hbXU) (by simp only; omega) (blk_under HkY.out hbYU)
  have Hre := Lib.hid hre
  have HXU := Lib.hid hbXU
  have hsU := hb2.size
  have hxU := blk_under HxY.out hbYU
  have hlX := Lib.hid (HbXY.out.size)
  clear c0 c1 c2 c3 c4 c5 r0 r1 hla hlb
  obtain ⟨c0, c1, c2, c3, c4, c5⟩ := box6 hxU
  have hla := blk_lt hxU
  clear hbU hbYU hbXU hre hb2 hxU
  go_upto_region 9 with (fail)
  rw [← hU]
  clear hU
  go_wp2_with fail
  refine Hre.out.mono ?_
  rintro e w3 ⟨rfl, hk3, hg3⟩
  have hX3 : ∀ k o, k < X.heap.size → X.heap[k]? = some o → w3.heap[k]? = some o := fun k o hk h => (hg3.block k (by have := HXU.out.size; omega) (by intro e; injection e with e; omega)).trans ((HXU.out.block k hk).trans h)
  have hoT := hX3 _ _ (blk_lt Ho.out) Ho.out
  have hzT := hX3 _ _ (blk_lt Hd.out) Hd.out
  have HBT := Lib.hid (show Below w.heap.size w w3 from Hb.out.trans ⟨hg3.os.trans HXU.out.os, hg3.tape.trans HXU.out.tape, hg3.output.trans HXU.out.output, by have := HXU.out.size; have := hg3.size; omega, fun k hk => by
    have hkX : k < X.heap.size := Nat.lt_of_lt_of_le hk Hb.out.size
    exact (hg3.block k (by have := HXU.out.size; omega) (by intro e; injection e with e; omega)).trans (HXU.out.block k hkX)⟩)
  obtain ⟨k0, k1, k2, k3, k4, k5⟩ := box6 hk3
  obtain ⟨f0, f1, f2, f3, f4, f5⟩ := frz6 hoT
  obtain ⟨z0, z1⟩ := box2' hzT
  obtain ⟨o0, o1, o2, o3, o4, o5⟩ := box6 hoT
  obtain ⟨y0, y1⟩ := box2 hzT
  have l1 := blk_lt hk3
  have l3 := blk_lt hoT
  have l4 := blk_lt hzT
  have HoT := Lib.hid hoT
  have HzT := Lib.hid hzT
  clear hoT hzT hX3 hg3 hk3 c0 c1 c2 c3 c4 c5 hla
  go_wp2
  obtain ⟨V1, hV1⟩ : ∃ V1, V1 = (((((w3.setCell ⟨w.heap.size + 1 + 1, 0, none⟩ (S [])).setCell ⟨w.heap.size + 1 + 1, 1, none⟩ (S (out ++ s))).setCell ⟨w.heap.size + 1 + 1, 2, none⟩ (.bool true)).setCell ⟨w.heap.size + 1 + 1, 3, none⟩ (.bool false)).setCell ⟨w.heap.size + 1 + 1, 4, none⟩ (.bool false)).setCell ⟨w.heap.size + 1 + 1, 5, none⟩ (.int .u64 since) := ⟨_, rfl⟩
  rw [← hV1]
  obtain ⟨hk1, hg1⟩ := put6 HoT.out _ _ _ _ _ _ hV1
  have hz1 := (hg1.block (w.heap.size + 1 + 1 + 1) l4 (by intro e; injection e with e; omega)).trans HzT.out
  obtain ⟨V, hV⟩ : ∃ V, V = (V1.setCell ⟨w.heap.size + 1 + 1 + 1, 0, none⟩ (.int .u8 0)).setCell ⟨w.heap.size + 1 + 1 + 1, 1, none⟩ (.slice none 0 0) := ⟨_, rfl⟩
  rw [← hV]
  obtain ⟨hk2, hg2⟩ := put2 hz1 _ _ hV
  have hkV := (hg2.block (w.heap.size + 1 + 1) (blk_lt hk1) (by intro e; injection e with e; omega)).trans hk1
  have HbV := Lib.hid (grown_below (grown_below HBT.out hg1 (by omega) l3) hg2 (by omega) (blk_lt hz1))
  obtain ⟨p0, p1, p2, p3, p4, p5⟩ := box6 hkV
  obtain ⟨x0, x1⟩ := box2 hk2
  clear hV hV1 o0 o1 o2 o3 o4 o5 f0 f1 f2 f3 f4 f5 y0 y1 z0 z1 k0 k1 k2 k3 k4 k5 hk1 hk2 hkV hz1
  refine bodyPost_ret (by simp [results, Tryz.results10, go_sem, p0, p1, p2, p3, p4, p5, x0, x1]; try rfl) rfl ?_
  exact ⟨rfl, HbV.out⟩
end Go.Proofs.YtomicdkmbgckkaaGreatDoor

/- SERVER: WHAT lives ASKS: the literals, and what WriteResponse comes to. -/
namespace Go.Proofs.YtomicdkmbgckkaaGreatDoor
open Go.RowKit
set_option maxRecDepth 100000
set_option linter.unusedVariables false
set_option linter.unusedSimpArgs false

theorem wrc_of {w : World} {st : Int} {hs : List H.Hd} {s : H.T} (h : H.writeRes st hs [] = (s, 0)) (hst : 0 ≤ st ∧ st ≤ 1000) (hbig : Big hs) (hn : hs.length ≤ 10) (hT : Tabs w) : WrC w st hs s := fun W ad cap hb hH => by
  have := writeRes_any W st (by omega) hs [] ad cap ⟨hH, hbig, by omega, by simp⟩ (hT.under hb)
  rw [h] at this
  exact this
theorem big_nil : Big [] := fun h hm => by cases hm
theorem big_close : Big [cnClose] := fun h hm => by
  simp at hm
  subst hm
  simp [cnClose]
def lText : H.T := [71, 69, 84, 32, 47, 120, 32, 72, 84, 84, 80, 47, 49, 46, 49, 13, 10, 13, 10, 120, 13, 10]
theorem lRead : H.readRequest lText 1000 = (⟨[71, 69, 84], [47, 120], [], []⟩, 19, 0) := by rfl
theorem lRead2 : H.readRequest [120, 13, 10] 1000 = (⟨[], [], [], []⟩, 0, 13) := by rfl
def l404 : H.T := [72, 84, 84, 80, 47, 49, 46, 49, 32, 52, 48, 52, 32, 78, 111, 116, 32, 70, 111, 117, 110, 100, 13, 10, 67, 111, 110, 116, 101, 110, 116, 45, 76, 101, 110, 103, 116, 104, 58, 32, 48, 13, 10, 13, 10]
theorem lWrite : H.writeRes 404 [] [] = (l404, 0) := by decide +kernel
theorem lWrite400 : ∃ s, H.writeRes 400 [cnClose] [] = (s, 0) ∧ s.length ≤ 1000 := ⟨(H.writeRes 400 [cnClose] []).1, by decide +kernel, by decide +kernel⟩
theorem lWrite408 : ∃ s, H.writeRes 408 [cnClose] [] = (s, 0) ∧ s.length ≤ 1000 ∧ s ≠ [] := ⟨(H.writeRes 408 [cnClose] []).1, by decide +kernel, by decide +kernel, by decide +kernel⟩
theorem lFeed : feedM cn0 1000 lText 5 = (⟨lText, [], false, false, false, 5⟩, 0) := by rfl
theorem lChk1 : chk ⟨lText, [], false, false, false, 5⟩ 1000 = 0 := by rfl
theorem lChk2 : chk ⟨[120, 13, 10], l404, false, false, false, 6⟩ 1000 = 0 := by rfl
theorem lChk3 : chk ⟨[120, 13, 10], l404, false, false, false, 6⟩ (-1) = 2 := by rfl
end Go.Proofs.YtomicdkmbgckkaaGreatDoor
