/- THE LAW ValueMessages, WALKED. -/
import Derived.Test.YtnnnnlcpmocnfaaGreatDoorDr5
import Derived.Test.YtnnnnlcpmocnfaaGreatDoorSm
import Derived.Test.YtnnnnlcpmocnfaaGreatDoorCp5
import Derived.Test.YtnnnnlcpmocnfaaGreatDoorVal6
import Derived.Outline
import Derived.WalkLawsBesides
import Derived.Deep.Cut
namespace Go.Proofs.YtnnnnlcpmocnfaaGreatDoor
open Go.RowKit
set_option linter.unusedVariables false
set_option linter.unusedSimpArgs false
attribute [local go_sem] run_store_float

/-- what reading a value comes to, the error at hand or not -/
noncomputable def rz (r : Except Int V) : V × Int := match r with | .error c => (zeroV, c) | .ok x => (x, 0)
noncomputable def rzp (r : Except Int (ByteArray × V)) : (ByteArray × V) × Int := match r with | .error c => ((⟨#[]⟩, zeroV), c) | .ok x => (x, 0)
def RD (z : V) (E : Int) (w : World) (e : Ending) (w' : World) : Prop := ∃ u1 n1 v1 u2 n2 v2, e = .returned (.tuple #[.agg (cv z (.slice u1 n1 v1) (.slice u2 n2 v2)), .int .i64 E]) ∧ Rep Any w' (.slice u1 n1 v1) (.slice u2 n2 v2) z ∧ Below w.heap.size w w'
def RDP (key : ByteArray) (z : V) (E : Int) (w : World) (e : Ending) (w' : World) : Prop := ∃ u1 n1 v1 u2 n2 v2, e = .returned (.tuple #[.agg (pv key z (.slice u1 n1 v1) (.slice u2 n2 v2)), .int .i64 E]) ∧ Rep Any w' (.slice u1 n1 v1) (.slice u2 n2 v2) z ∧ Below w.heap.size w w'
theorem rep_anyN {B : Nat} {w : World} {q1 q2 : Value} {x : V} (h : Rep (New B w) w q1 q2 x) : Rep Any w q1 q2 x := h.keep (Kept.of_below (Below.refl _ _) _) fun _ _ _ => trivial
theorem rdv_is {r : Except Int V} {w : World} {e : Ending} {w' : World} (h : rdvP r w e w') : RD (rz r).1 (rz r).2 w e w' := by
  cases r with
  | error c => obtain ⟨he, hb⟩ := h; exact ⟨none, 0, 0, none, 0, 0, he, zero_rep _ _, hb⟩
  | ok x =>
    obtain ⟨r1, r2, he, hr, hb⟩ := h
    obtain ⟨u1, v1, e1, _⟩ := hr.parts.2.1.form
    obtain ⟨u2, v2, e2, _⟩ := hr.parts.2.2.form
    subst e1; subst e2
    exact ⟨_, _, _, _, _, _, he, rep_anyN hr, hb⟩
theorem rdp_is {r : Except Int (ByteArray × V)} {w : World} {e : Ending} {w' : World} (h : rdpP r w e w') : RDP (rzp r).1.1 (rzp r).1.2 (rzp r).2 w e w' := by
  cases r with
  | error c => obtain ⟨he, hb⟩ := h; exact ⟨none, 0, 0, none, 0, 0, he, zero_rep _ _, hb⟩
  | ok x =>
    obtain ⟨r1, r2, _, he, hr, hb⟩ := h
    obtain ⟨u1, v1, e1, _⟩ := hr.parts.2.1.form
    obtain ⟨u2, v2, e2, _⟩ := hr.parts.2.2.form
    subst e1; subst e2
    exact ⟨_, _, _, _, _, _, he, rep_anyN hr, hb⟩
theorem wtup_form (r : Except Int (List UInt8)) : ∃ S E, wtup r = .tuple #[.string S, .int .i64 E] := by
  cases r with
  | ok t => exact ⟨_, _, rfl⟩
  | error c => exact ⟨_, _, rfl⟩
theorem wb_t {r : Except Int (List UInt8)} {S : ByteArray} {E : Int} (h : wtup r = .tuple #[.string S, .int .i64 E]) {w : World} {e : Ending} {w' : World} (hd : WroteBoth r w e w') : DT S E w e w' := ⟨by rw [hd.1, h], hd.2⟩

set_option maxRecDepth 100000 in
set_option maxHeartbeats 16000000 in
theorem mess_of (x y : V) (key : ByteArray) (hk : key.size ≤ 140737488353000) (s : List UInt8) (hs : s.length ≤ 9223372036854775807) (w : World) (q1 q2 r1 r2 : Value) (hT : Tabs w) (hx : Rep Any w q1 q2 x) (hy : Rep Any w r1 r2 y) :
    Calls Tryz.prog 3 #[.agg (cv x q1 q2), .agg (pv key y r1 r2), .string ⟨s.toArray⟩] w fun e w' => e = .returned (.bool true) ∧ Below w.heap.size w w' := by
  obtain ⟨a1, c1, rfl, _⟩ := hx.parts.2.1.form
  obtain ⟨a2, c2, rfl, _⟩ := hx.parts.2.2.form
  obtain ⟨d1, e1, rfl, _⟩ := hy.parts.2.1.form
  obtain ⟨d2, e2, rfl, _⟩ := hy.parts.2.2.form
  obtain ⟨S, E, hSE⟩ := wtup_form (writeR x)
  obtain ⟨SP, EP, hSP⟩ := wtup_form (writePR key y)
  obtain ⟨z, F, hz⟩ : ∃ z F, rz (readR s) = (z, F) := ⟨_, _, rfl⟩
  obtain ⟨kz, zp, FP, hzp⟩ : ∃ kz zp FP, rzp (readPR s) = ((kz, zp), FP) := ⟨_, _, _, rfl⟩
  have Cw := Lib.hid (fun (W : World) (u1 u2 : Value) (hW : Below w.heap.size w W) (h : Rep Any W u1 u2 x) => (wrt_any2 x W u1 u2 (hT.under hW) h).mono (R' := DT S E W) fun _ _ => wb_t hSE)
  have Dw := Lib.hid (fun (W : World) (u1 u2 : Value) (h : Rep Any W u1 u2 x) => (rwrt_any x W u1 u2 h).mono (R' := DT S E W) fun _ _ => wb_t hSE)
  have Cp := Lib.hid (fun (W : World) (u1 u2 : Value) (hW : Below w.heap.size w W) (h : Rep Any W u1 u2 y) => (wrtp_any2 key hk y W u1 u2 (hT.under hW) h).mono (R' := DT SP EP W) fun _ _ => wb_t hSP)
  have Dp := Lib.hid (fun (W : World) (u1 u2 : Value) (h : Rep Any W u1 u2 y) => (rwrtp_any key hk y W u1 u2 h).mono (R' := DT SP EP W) fun _ _ => wb_t hSP)
  have Cr := Lib.hid (fun (W : World) (hW : Below w.heap.size w W) => (rdv_any2 s W (hT.under hW) hs).mono (R' := RD z F W) fun e w' h => by have := rdv_is h; rwa [hz] at this)
  have Dr := Lib.hid (fun (W : World) => (rrd_any s W hs).mono (R' := RD z F W) fun e w' h => by have := rdv_is h; rwa [hz] at this)
  have Cq := Lib.hid (fun (W : World) (hW : Below w.heap.size w W) => (rdp_any2 s W (hT.under hW) hs).mono (R' := RDP kz zp FP W) fun e w' h => by have := rdp_is h; rwa [hzp] at this)
  have Dq := Lib.hid (fun (W : World) => (rrdp_any s W hs).mono (R' := RDP kz zp FP W) fun e w' h => by have := rdp_is h; rwa [hzp] at this)
  have Sx := Lib.hid (fun (W : World) (u1 u2 t1 t2 : Value) (h : Rep Any W u1 u2 x) (h2 : Rep Any W t1 t2 x) => show Calls Tryz.prog 14 #[.agg (cv x u1 u2), .agg (cv x t1 t2)] W fun e w' => e = .returned (.bool true) ∧ Below W.heap.size W w' from by have := rs_any x x W u1 u2 t1 t2 h h2; rwa [one_refl] at this)
  have Sz := Lib.hid (fun (W : World) (u1 u2 t1 t2 : Value) (h : Rep Any W u1 u2 z) (h2 : Rep Any W t1 t2 z) => show Calls Tryz.prog 14 #[.agg (cv z u1 u2), .agg (cv z t1 t2)] W fun e w' => e = .returned (.bool true) ∧ Below W.heap.size W w' from by have := rs_any z z W u1 u2 t1 t2 h h2; rwa [one_refl] at this)
  have Szp := Lib.hid (fun (W : World) (u1 u2 t1 t2 : Value) (h : Rep Any W u1 u2 zp) (h2 : Rep Any W t1 t2 zp) => show Calls Tryz.prog 14 #[.agg (cv zp u1 u2), .agg (cv zp t1 t2)] W fun e w' => e = .returned (.bool true) ∧ Below W.heap.size W w' from by have := rs_any zp zp W u1 u2 t1 t2 h h2; rwa [one_refl] at this)
  obtain ⟨W0, hW0⟩ : ∃ W0, W0 = (w.alloc (.cells (cv x (.slice a1 x.l.length c1) (.slice a2 x.p.length c2)) 27)).alloc (.cells (pv key y (.slice d1 y.l.length e1) (.slice d2 y.p.length e2)) 29) := ⟨_, rfl⟩
  have hb0 : Below w.heap.size w W0 := by rw [hW0]; exact (al w _).alloc (by simp) _
  have BV0 := Lib.hid (show W0.heap[w.heap.size]? = some (.cells (cv x (.slice a1 x.l.length c1) (.slice a2 x.p.length c2)) 27 (0, 0)) by rw [hW0]; exact blk_alloc (blk_new w _) _)
  have BP0 := Lib.hid (show W0.heap[w.heap.size + 1]? = some (.cells (pv key y (.slice d1 y.l.length e1) (.slice d2 y.p.length e2)) 29 (0, 0)) by rw [hW0]; exact blk_at (by simp))
  have Rx0 := Lib.hid (hx.under hb0)
  have Ry0 := Lib.hid (hy.under hb0)
  have HW0 := Lib.hid hW0
  have Hb0 := Lib.hid hb0
  clear hW0 hb0 hx hy hT hs hk hSE hSP hz hzp
  go_enter Tryz.func3, Tryz.ntmps3
  go_upto_region 1 with (fail)
  rw [← HW0.out]
  obtain ⟨k0, k1, k2, k3, k4, k5, k6⟩ := box7v BV0.out
  go_wp2_with fail
  refine (rcopy_any x W0 _ _ Rx0.out).mono ?_
  rintro e w1 ⟨g1, g2, rfl, hg, hb1⟩
  obtain ⟨f1, n1, rfl, _⟩ := hg.parts.2.1.form
  obtain ⟨f2, n2, rfl, _⟩ := hg.parts.2.2.form
  clear k0 k1 k2 k3 k4 k5 k6
  obtain ⟨W1, hW1⟩ : ∃ W1, W1 = w1.alloc (.cells (cv x (.slice f1 x.l.length n1) (.slice f2 x.p.length n2)) 27) := ⟨_, rfl⟩
  have h1b : Below w1.heap.size w1 W1 := by rw [hW1]; exact al _ _
  have h01 : Below W0.heap.size W0 W1 := hb1.trans (h1b.mono hb1.size)
  have BG1 := Lib.hid (show W1.heap[w1.heap.size]? = some (.cells (cv x (.slice f1 x.l.length n1) (.slice f2 x.p.length n2)) 27 (0, 0)) by rw [hW1]; exact blk_new w1 _)
  have Rg1 := Lib.hid ((rep_anyN hg).under h1b)
  have BV1 := Lib.hid ((h01.block _ (lt_of_block BV0.out)).trans BV0.out)
  have BP1 := Lib.hid ((h01.block _ (lt_of_block BP0.out)).trans BP0.out)
  have Rx1 := Lib.hid (Rx0.out.under h01)
  have Ry1 := Lib.hid (Ry0.out.under h01)
  have Hb1 := Lib.hid (Hb0.out.trans (h01.mono Hb0.out.size))
  clear BV0 BP0 Rx0 Ry0
  go_upto_region 2 with (fail)
  rw [← hW1]
  clear hW1 h1b h01 hb1 hg
  obtain ⟨k0, k1, k2, k3, k4, k5, k6⟩ := box7v BG1.out
  go_wp2_with fail
  refine (Cw.out W1 _ _ Hb1.out Rg1.out).mono ?_
  rintro e w2 ⟨rfl, hb2⟩
  clear k0 k1 k2 k3 k4 k5 k6
  have BV2 := Lib.hid ((hb2.block _ (lt_of_block BV1.out)).trans BV1.out)
  have BP2 := Lib.hid ((hb2.block _ (lt_of_block BP1.out)).trans BP1.out)
  have BG2 := Lib.hid ((hb2.block _ (lt_of_block BG1.out)).trans BG1.out)
  have Rx2 := Lib.hid (Rx1.out.under hb2)
  have Ry2 := Lib.hid (Ry1.out.under hb2)
  have Rg2 := Lib.hid (Rg1.out.under hb2)
  have Hb2 := Lib.hid (Hb1.out.trans (hb2.mono Hb1.out.size))
  clear BV1 BP1 BG1 Rx1 Ry1 Rg1
  clear hb2
  obtain ⟨k0, k1, k2, k3, k4, k5, k6⟩ := box7v BV2.out
  go_wp2_with fail
  refine (Dw.out w2 _ _ Rx2.out).mono ?_
  rintro e w3 ⟨rfl, hb3⟩
  clear k0 k1 k2 k3 k4 k5 k6
  have BV3 := Lib.hid ((hb3.block _ (lt_of_block BV2.out)).trans BV2.out)
  have BP3 := Lib.hid ((hb3.block _ (lt_of_block BP2.out)).trans BP2.out)
  have BG3 := Lib.hid ((hb3.block _ (lt_of_block BG2.out)).trans BG2.out)
  have Rx3 := Lib.hid (Rx2.out.under hb3)
  have Ry3 := Lib.hid (Ry2.out.under hb3)
  have Rg3 := Lib.hid (Rg2.out.under hb3)
  have Hb3 := Lib.hid (Hb2.out.trans (hb3.mono Hb2.out.size))
  clear BV2 BP2 BG2 Rx2 Ry2 Rg2
  clear hb3
  go_wp2_with fail
  refine (Cr.out w3 Hb3.out).mono ?_
  rintro e w4 ⟨u4, m4, v4, u4b, m4b, v4b, rfl, hg4, hb4⟩
  obtain ⟨W4, hW4⟩ : ∃ W4, W4 = w4.alloc (.cells (cv z (.slice u4 m4 v4) (.slice u4b m4b v4b)) 27) := ⟨_, rfl⟩
  have h4b : Below w4.heap.size w4 W4 := by rw [hW4]; exact al _ _
  have h4s : Below w3.heap.size w3 W4 := hb4.trans (h4b.mono hb4.size)
  have BA4 := Lib.hid (show W4.heap[w4.heap.size]? = some (.cells (cv z (.slice u4 m4 v4) (.slice u4b m4b v4b)) 27 (0, 0)) by rw [hW4]; exact blk_new w4 _)
  have Ra4 := Lib.hid (hg4.under h4b)
  have BV4 := Lib.hid ((h4s.block _ (lt_of_block BV3.out)).trans BV3.out)
  have BP4 := Lib.hid ((h4s.block _ (lt_of_block BP3.out)).trans BP3.out)
  have BG4 := Lib.hid ((h4s.block _ (lt_of_block BG3.out)).trans BG3.out)
  have Rx4 := Lib.hid (Rx3.out.under h4s)
  have Ry4 := Lib.hid (Ry3.out.under h4s)
  have Rg4 := Lib.hid (Rg3.out.under h4s)
  have Hb4 := Lib.hid (Hb3.out.trans (h4s.mono Hb3.out.size))
  clear BV3 BP3 BG3 Rx3 Ry3 Rg3
  go_upto_region 5 with (fail)
  rw [← hW4]
  clear hW4 h4b h4s hb4 hg4
  go_wp2_with fail
  refine (Dr.out W4).mono ?_
  rintro e w5 ⟨u5, m5, v5, u5b, m5b, v5b, rfl, hg5, hb5⟩
  obtain ⟨W5, hW5⟩ : ∃ W5, W5 = w5.alloc (.cells (cv z (.slice u5 m5 v5) (.slice u5b m5b v5b)) 27) := ⟨_, rfl⟩
  have h5b : Below w5.heap.size w5 W5 := by rw [hW5]; exact al _ _
  have h5s : Below W4.heap.size W4 W5 := hb5.trans (h5b.mono hb5.size)
  have BB5 := Lib.hid (show W5.heap[w5.heap.size]? = some (.cells (cv z (.slice u5 m5 v5) (.slice u5b m5b v5b)) 27 (0, 0)) by rw [hW5]; exact blk_new w5 _)
  have Rb5 := Lib.hid (hg5.under h5b)
  have BV5 := Lib.hid ((h5s.block _ (lt_of_block BV4.out)).trans BV4.out)
  have BP5 := Lib.hid ((h5s.block _ (lt_of_block BP4.out)).trans BP4.out)
  have BG5 := Lib.hid ((h5s.block _ (lt_of_block BG4.out)).trans BG4.out)
  have BA5 := Lib.hid ((h5s.block _ (lt_of_block BA4.out)).trans BA4.out)
  have Rx5 := Lib.hid (Rx4.out.under h5s)
  have Ry5 := Lib.hid (Ry4.out.under h5s)
  have Rg5 := Lib.hid (Rg4.out.under h5s)
  have Ra5 := Lib.hid (Ra4.out.under h5s)
  have Hb5 := Lib.hid (Hb4.out.trans (h5s.mono Hb4.out.size))
  clear BV4 BP4 BG4 BA4 Rx4 Ry4 Rg4 Ra4
  go_upto_region 6 with (fail)
  rw [← hW5]
  clear hW5 h5b h5s hb5 hg5
  obtain ⟨k0, k1, k2, k3, k4, k5, k6, k7⟩ := box8v BP5.out
  go_wp2_with fail
  refine (Cp.out W5 _ _ Hb5.out Ry5.out).mono ?_
  rintro e w6 ⟨rfl, hb6⟩
  clear k0 k1 k2 k3 k4 k5 k6 k7
  have BV6 := Lib.hid ((hb6.block _ (lt_of_block BV5.out)).trans BV5.out)
  have BP6 := Lib.hid ((hb6.block _ (lt_of_block BP5.out)).trans BP5.out)
  have BG6 := Lib.hid ((hb6.block _ (lt_of_block BG5.out)).trans BG5.out)
  have BA6 := Lib.hid ((hb6.block _ (lt_of_block BA5.out)).trans BA5.out)
  have BB6 := Lib.hid ((hb6.block _ (lt_of_block BB5.out)).trans BB5.out)
  have Rx6 := Lib.hid (Rx5.out.under hb6)
  have Ry6 := Lib.hid (Ry5.out.under hb6)
  have Rg6 := Lib.hid (Rg5.out.under hb6)
  have Ra6 := Lib.hid (Ra5.out.under hb6)
  have Rb6 := Lib.hid (Rb5.out.under hb6)
  have Hb6 := Lib.hid (Hb5.out.trans (hb6.mono Hb5.out.size))
  clear BV5 BP5 BG5 BA5 BB5 Rx5 Ry5 Rg5 Ra5 Rb5
  clear hb6
  obtain ⟨k0, k1, k2, k3, k4, k5, k6, k7⟩ := box8v BP6.out
  go_wp2_with fail
  refine (Dp.out w6 _ _ Ry6.out).mono ?_
  rintro e w7 ⟨rfl, hb7⟩
  clear k0 k1 k2 k3 k4 k5 k6 k7
  have BV7 := Lib.hid ((hb7.block _ (lt_of_block BV6.out)).trans BV6.out)
  have BP7 := Lib.hid ((hb7.block _ (lt_of_block BP6.out)).trans BP6.out)
  have BG7 := Lib.hid ((hb7.block _ (lt_of_block BG6.out)).trans BG6.out)
  have BA7 := Lib.hid ((hb7.block _ (lt_of_block BA6.out)).trans BA6.out)
  have BB7 := Lib.hid ((hb7.block _ (lt_of_block BB6.out)).trans BB6.out)
  have Rx7 := Lib.hid (Rx6.out.under hb7)
  have Ry7 := Lib.hid (Ry6.out.under hb7)
  have Rg7 := Lib.hid (Rg6.out.under hb7)
  have Ra7 := Lib.hid (Ra6.out.under hb7)
  have Rb7 := Lib.hid (Rb6.out.under hb7)
  have Hb7 := Lib.hid (Hb6.out.trans (hb7.mono Hb6.out.size))
  clear BV6 BP6 BG6 BA6 BB6 Rx6 Ry6 Rg6 Ra6 Rb6
  clear hb7
  go_wp2_with fail
  refine (Cq.out w7 Hb7.out).mono ?_
  rintro e w8 ⟨u8, m8, v8, u8b, m8b, v8b, rfl, hg8, hb8⟩
  obtain ⟨W8, hW8⟩ : ∃ W8, W8 = w8.alloc (.cells (pv kz zp (.slice u8 m8 v8) (.slice u8b m8b v8b)) 29) := ⟨_, rfl⟩
  have h8b : Below w8.heap.size w8 W8 := by rw [hW8]; exact al _ _
  have h8s : Below w7.heap.size w7 W8 := hb8.trans (h8b.mono hb8.size)
  have BC8 := Lib.hid (show W8.heap[w8.heap.size]? = some (.cells (pv kz zp (.slice u8 m8 v8) (.slice u8b m8b v8b)) 29 (0, 0)) by rw [hW8]; exact blk_new w8 _)
  have Rc8 := Lib.hid (hg8.under h8b)
  have BV8 := Lib.hid ((h8s.block _ (lt_of_block BV7.out)).trans BV7.out)
  have BP8 := Lib.hid ((h8s.block _ (lt_of_block BP7.out)).trans BP7.out)
  have BG8 := Lib.hid ((h8s.block _ (lt_of_block BG7.out)).trans BG7.out)
  have BA8 := Lib.hid ((h8s.block _ (lt_of_block BA7.out)).trans BA7.out)
  have BB8 := Lib.hid ((h8s.block _ (lt_of_block BB7.out)).trans BB7.out)
  have Rx8 := Lib.hid (Rx7.out.under h8s)
  have Ry8 := Lib.hid (Ry7.out.under h8s)
  have Rg8 := Lib.hid (Rg7.out.under h8s)
  have Ra8 := Lib.hid (Ra7.out.under h8s)
  have Rb8 := Lib.hid (Rb7.out.under h8s)
  have Hb8 := Lib.hid (Hb7.out.trans (h8s.mono Hb7.out.size))
  clear BV7 BP7 BG7 BA7 BB7 Rx7 Ry7 Rg7 Ra7 Rb7
  go_upto_region 9 with (fail)
  rw [← hW8]
  clear hW8 h8b h8s hb8 hg8
  go_wp2_with fail
  refine (Dq.out W8).mono ?_
  rintro e w9 ⟨u9, m9, v9, u9b, m9b, v9b, rfl, hg9, hb9⟩
  obtain ⟨W9, hW9⟩ : ∃ W9, W9 = w9.alloc (.cells (pv kz zp (.slice u9 m9 v9) (.slice u9b m9b v9b)) 29) := ⟨_, rfl⟩
  have h9b : Below w9.heap.size w9 W9 := by rw [hW9]; exact al _ _
  have h9s : Below W8.heap.size W8 W9 := hb9.trans (h9b.mono hb9.size)
  have BD9 := Lib.hid (show W9.heap[w9.heap.size]? = some (.cells (pv kz zp (.slice u9 m9 v9) (.slice u9b m9b v9b)) 29 (0, 0)) by rw [hW9]; exact blk_new w9 _)
  have Rd9 := Lib.hid (hg9.under h9b)
  have BV9 := Lib.hid ((h9s.block _ (lt_of_block BV8.out)).trans BV8.out)
  have BP9 := Lib.hid ((h9s.block _ (lt_of_block BP8.out)).trans BP8.out)
  have BG9 := Lib.hid ((h9s.block _ (lt_of_block BG8.out)).trans BG8.out)
  have BA9 := Lib.hid ((h9s.block _ (lt_of_block BA8.out)).trans BA8.out)
  have BB9 := Lib.hid ((h9s.block _ (lt_of_block BB8.out)).trans BB8.out)
  have BC9 := Lib.hid ((h9s.block _ (lt_of_block BC8.out)).trans BC8.out)
  have Rx9 := Lib.hid (Rx8.out.under h9s)
  have Ry9 := Lib.hid (Ry8.out.under h9s)
  have Rg9 := Lib.hid (Rg8.out.under h9s)
  have Ra9 := Lib.hid (Ra8.out.under h9s)
  have Rb9 := Lib.hid (Rb8.out.under h9s)
  have Rc9 := Lib.hid (Rc8.out.under h9s)
  have Hb9 := Lib.hid (Hb8.out.trans (h9s.mono Hb8.out.size))
  clear BV8 BP8 BG8 BA8 BB8 BC8 Rx8 Ry8 Rg8 Ra8 Rb8 Rc8
  go_upto_region 10 with (fail)
  rw [← hW9]
  clear hW9 h9b h9s hb9 hg9
  have hSS : (S.toList == S.toList) = true := by simp
  have hEE : (E == E) = true := by simp
  go_wp2_with fail
  refine (lives_any W9).mono ?_
  rintro e w10 ⟨rfl, hb10⟩
  have BV10 := Lib.hid ((hb10.block _ (lt_of_block BV9.out)).trans BV9.out)
  have BP10 := Lib.hid ((hb10.block _ (lt_of_block BP9.out)).trans BP9.out)
  have BG10 := Lib.hid ((hb10.block _ (lt_of_block BG9.out)).trans BG9.out)
  have BA10 := Lib.hid ((hb10.block _ (lt_of_block BA9.out)).trans BA9.out)
  have BB10 := Lib.hid ((hb10.block _ (lt_of_block BB9.out)).trans BB9.out)
  have BC10 := Lib.hid ((hb10.block _ (lt_of_block BC9.out)).trans BC9.out)
  have BD10 := Lib.hid ((hb10.block _ (lt_of_block BD9.out)).trans BD9.out)
  have Rx10 := Lib.hid (Rx9.out.under hb10)
  have Ry10 := Lib.hid (Ry9.out.under hb10)
  have Rg10 := Lib.hid (Rg9.out.under hb10)
  have Ra10 := Lib.hid (Ra9.out.under hb10)
  have Rb10 := Lib.hid (Rb9.out.under hb10)
  have Rc10 := Lib.hid (Rc9.out.under hb10)
  have Rd10 := Lib.hid (Rd9.out.under hb10)
  have Hb10 := Lib.hid (Hb9.out.trans (hb10.mono Hb9.out.size))
  clear BV9 BP9 BG9 BA9 BB9 BC9 BD9 Rx9 Ry9 Rg9 Ra9 Rb9 Rc9 Rd9
  clear hb10
  obtain ⟨k0, k1, k2, k3, k4, k5, k6⟩ := box7v BA10.out
  obtain ⟨j0, j1, j2, j3, j4, j5, j6⟩ := box7v BB10.out
  go_wp2_with fail
  refine (Sz.out w10 _ _ _ _ Ra10.out Rb10.out).mono ?_
  rintro e w11 ⟨rfl, hb11⟩
  clear k0 k1 k2 k3 k4 k5 k6 j0 j1 j2 j3 j4 j5 j6
  have BV11 := Lib.hid ((hb11.block _ (lt_of_block BV10.out)).trans BV10.out)
  have BP11 := Lib.hid ((hb11.block _ (lt_of_block BP10.out)).trans BP10.out)
  have BG11 := Lib.hid ((hb11.block _ (lt_of_block BG10.out)).trans BG10.out)
  have BA11 := Lib.hid ((hb11.block _ (lt_of_block BA10.out)).trans BA10.out)
  have BB11 := Lib.hid ((hb11.block _ (lt_of_block BB10.out)).trans BB10.out)
  have BC11 := Lib.hid ((hb11.block _ (lt_of_block BC10.out)).trans BC10.out)
  have BD11 := Lib.hid ((hb11.block _ (lt_of_block BD10.out)).trans BD10.out)
  have Rx11 := Lib.hid (Rx10.out.under hb11)
  have Ry11 := Lib.hid (Ry10.out.under hb11)
  have Rg11 := Lib.hid (Rg10.out.under hb11)
  have Ra11 := Lib.hid (Ra10.out.under hb11)
  have Rb11 := Lib.hid (Rb10.out.under hb11)
  have Rc11 := Lib.hid (Rc10.out.under hb11)
  have Rd11 := Lib.hid (Rd10.out.under hb11)
  have Hb11 := Lib.hid (Hb10.out.trans (hb11.mono Hb10.out.size))
  clear BV10 BP10 BG10 BA10 BB10 BC10 BD10 Rx10 Ry10 Rg10 Ra10 Rb10 Rc10 Rd10
  clear hb11
  obtain ⟨k0, k1, k2, k3, k4, k5, k6, k7⟩ := box8v BC11.out
  obtain ⟨j0, j1, j2, j3, j4, j5, j6, j7⟩ := box8v BD11.out
  go_wp2_with fail
  refine (Szp.out w11 _ _ _ _ Rc11.out Rd11.out).mono ?_
  rintro e w12 ⟨rfl, hb12⟩
  clear k0 k1 k2 k3 k4 k5 k6 k7 j0 j1 j2 j3 j4 j5 j6 j7
  have BV12 := Lib.hid ((hb12.block _ (lt_of_block BV11.out)).trans BV11.out)
  have BP12 := Lib.hid ((hb12.block _ (lt_of_block BP11.out)).trans BP11.out)
  have BG12 := Lib.hid ((hb12.block _ (lt_of_block BG11.out)).trans BG11.out)
  have BA12 := Lib.hid ((hb12.block _ (lt_of_block BA11.out)).trans BA11.out)
  have BB12 := Lib.hid ((hb12.block _ (lt_of_block BB11.out)).trans BB11.out)
  have BC12 := Lib.hid ((hb12.block _ (lt_of_block BC11.out)).trans BC11.out)
  have BD12 := Lib.hid ((hb12.block _ (lt_of_block BD11.out)).trans BD11.out)
  have Rx12 := Lib.hid (Rx11.out.under hb12)
  have Ry12 := Lib.hid (Ry11.out.under hb12)
  have Rg12 := Lib.hid (Rg11.out.under hb12)
  have Ra12 := Lib.hid (Ra11.out.under hb12)
  have Rb12 := Lib.hid (Rb11.out.under hb12)
  have Rc12 := Lib.hid (Rc11.out.under hb12)
  have Rd12 := Lib.hid (Rd11.out.under hb12)
  have Hb12 := Lib.hid (Hb11.out.trans (hb12.mono Hb11.out.size))
  clear BV11 BP11 BG11 BA11 BB11 BC11 BD11 Rx11 Ry11 Rg11 Ra11 Rb11 Rc11 Rd11
  clear hb12
  obtain ⟨k0, k1, k2, k3, k4, k5, k6⟩ := box7v BG12.out
  obtain ⟨j0, j1, j2, j3, j4, j5, j6⟩ := box7v BV12.out
  go_wp2_with fail
  refine (Sx.out w12 _ _ _ _ Rg12.out Rx12.out).mono ?_
  rintro e w13 ⟨rfl, hb13⟩
  clear k0 k1 k2 k3 k4 k5 k6 j0 j1 j2 j3 j4 j5 j6
  go_wp2
  go_ret
  exact ⟨rfl, Hb12.out.trans (hb13.mono Hb12.out.size)⟩
end Go.Proofs.YtnnnnlcpmocnfaaGreatDoor
