/- QUEUE, MATHEMATICS: a queue that is filled; one entry acked makes room. -/
import Derived.Test.YtlgbehagflnfgaaGreatDoorGba
namespace Go.Proofs.YtlgbehagflnfgaaGreatDoor
open Go.RowKit
set_option maxRecDepth 100000
set_option linter.unusedVariables false
set_option linter.unusedSimpArgs false

theorem QG.tight {q : Q} {fs : List F} {fr : Nat} {rs : List Rec} {fu fa size : Int} {K : Nat} (h : QG q fs fr rs fu fa size K) : QG q fs fr rs fu fa size (fr + rs.length) := ⟨h.l, h.kk, h.es, h.sz, h.mo, h.ln, h.fr1, Nat.le_refl _⟩
abbrev xB : ByteArray := ⟨#[120]⟩
abbrev yB : ByteArray := ⟨#[121]⟩
/-- a queue into which was put i times -/
def FI (most : Int) (i : Nat) (q : Q) : Prop := ∃ fs rs, QG q fs 1 rs (-1) (-1) 262144 (1 + rs.length) ∧ rs.length = min i most.toNat ∧ q.es.length = rs.length ∧ (∀ e ∈ q.es, e.leased = false) ∧ fs.length ≤ i ∧ q.most = most
theorem fi_zero {most : Int} (hm : 1 ≤ most ∧ most ≤ 1024) : FI most 0 (q0Q 262144 most) :=
  ⟨[], [], qg_nil (by omega) hm, by simp, rfl, (fun e h => by simp at h), Nat.le_refl _, rfl⟩
theorem fi_put {most : Int} {i : Nat} {q : Q} (h : FI most i q) (hi : i < 12) (hlt : (i : Int) < most) : ∃ q2, ansQ q (.put xB) = (q2, ⟨i + 1, ⟨#[]⟩, false⟩, 0) ∧ FI most (i + 1) q2 := by
  obtain ⟨fs, rs, hg, hl, he, hf, hfs, hmo⟩ := h
  have hrs : rs.length = i := by omega
  have ha := hg.ans (by omega) (.put xB)
  rcases qg_put (d := xB) hg (by omega) (by rw [hmo]; omega) (by decide) with ⟨c1, fs1, a1, b1, g1, l1, s1, v1, m1⟩ | ⟨_, hn, _⟩
  rotate_left
  · omega
  obtain ⟨⟨q2, v, c⟩, hq⟩ : ∃ r, putM q xB = r := ⟨_, rfl⟩
  rw [hq] at c1 g1 s1 v1 m1
  simp only at c1 g1 s1 v1 m1
  subst c1 v1
  refine ⟨q2, ?_, fs1, _, g1.tight, ?_, ?_, ?_, by omega, by rw [m1, hmo]⟩
  · rw [ha]
    show putM q xB = _
    rw [hq, hrs, Nat.add_comm 1 i]
  · simp only [List.length_append, List.length_singleton]; omega
  · rw [s1]; simp only [List.length_append, List.length_singleton]; omega
  · intro e h
    rw [s1] at h
    rcases List.mem_append.1 h with k | k
    · exact hf e k
    · rw [List.mem_singleton] at k; subst k; rfl
theorem fi_full {most : Int} {i : Nat} {q : Q} (h : FI most i q) (hi : i < 12) (hm : 1 ≤ most) (hlt : most ≤ (i : Int)) : ansQ q (.put xB) = (q, zE, 8) ∧ FI most (i + 1) q := by
  obtain ⟨fs, rs, hg, hl, he, hf, hfs, hmo⟩ := h
  have ha := hg.ans (by omega) (.put xB)
  refine ⟨?_, fs, rs, hg, by omega, he, hf, by omega, hmo⟩
  rw [ha]
  show putM q xB = _
  unfold putM
  rw [if_pos (by rw [hmo, he]; omega)]
theorem fi_none {most : Int} {i : Nat} {q : Q} (h : FI most i q) (hi : i ≤ 12) (he0 : q.es.length = 0) : ansQ q .lease = (q, zE, 7) := by
  obtain ⟨fs, rs, hg, hl, he, hf, hfs, hmo⟩ := h
  rw [hg.ans (by omega) .lease]
  show leaseM q = _
  unfold leaseM
  have : q.es = [] := List.length_eq_zero_iff.1 he0
  rw [this]
  rfl
theorem fi_end {most : Int} {i : Nat} {q : Q} (h : FI most i q) (hi : i ≤ 12) (hm : 1 ≤ most ∧ most ≤ 1024) (he0 : q.es.length ≠ 0) : ∃ q1 e q2 q3 v, ansQ q .lease = (q1, e, 0) ∧ ansQ q1 (.ack e.seq) = (q2, zE, 0) ∧ ansQ q2 (.put yB) = (q3, v, 0) ∧ q3.es.length = q.es.length ∧ e.seq < 4611686018427387904 := by
  obtain ⟨fs, rs, hg, hl, he, hf, hfs, hmo⟩ := h
  obtain ⟨e0, t0, hes⟩ : ∃ e t, q.es = e :: t := by
    cases hx : q.es with
    | nil => rw [hx] at he0; simp at he0
    | cons e t => exact ⟨e, t, rfl⟩
  have hfr : freeAt q.es = some 0 := by
    rw [hes]; unfold freeAt
    rw [List.findIdx?_cons, hf e0 (by rw [hes]; exact List.mem_cons_self)]
    rfl
  have hx : q.es[0]? = some e0 := by rw [hes]; rfl
  have hl1 : leaseM q = (⟨q.l, q.es.set 0 (leaseE e0), q.most⟩, leaseE e0, 0) := by
    unfold leaseM; rw [hfr]; simp only [hx]
  have g1 := hg.set hx (e2 := leaseE e0) rfl
  have hR1 := g1.R (by omega)
  have hso := sort_in hR1.2.2.2
  have hx1 : (q.es.set 0 (leaseE e0))[0]? = some (leaseE e0) := by rw [hes]; rfl
  have hh := held_of hso hx1 rfl
  have hsq := (inM_lt hg.inE (List.mem_of_getElem? hx)).1
  have hal := hg.ans (by omega) .lease
  have haa := g1.ans (by omega) (.ack (leaseE e0).seq)
  rcases qg_ack (s := (leaseE e0).seq) (i := 0) (e := leaseE e0) g1 (by omega) hh hx1 rfl with ⟨c4, fs4, fr4, rs4, g4, l4, s4, v4, m4⟩ | ⟨_, hn, _⟩
  rotate_left
  · omega
  obtain ⟨⟨q4, v4', c4'⟩, hq4⟩ : ∃ r, ackM ⟨q.l, q.es.set 0 (leaseE e0), q.most⟩ (leaseE e0).seq = r := ⟨_, rfl⟩
  rw [hq4] at c4 g4 s4 v4 m4
  simp only at c4 g4 s4 v4 m4
  subst c4 v4
  have hlen4 : q4.es.length + 1 = q.es.length := by
    rw [s4, List.length_eraseIdx, set_len]
    split <;> omega
  have hap := g4.ans (by omega) (.put yB)
  rcases qg_put (d := yB) g4 (by omega) (by rw [m4, hmo]; omega) (by decide) with ⟨c5, fs5, a5, b5, g5, l5, s5, v5, m5⟩ | ⟨_, hn, _⟩
  rotate_left
  · omega
  obtain ⟨⟨q5, v5', c5'⟩, hq5⟩ : ∃ r, putM q4 yB = r := ⟨_, rfl⟩
  rw [hq5] at c5 g5 s5 v5 m5
  simp only at c5 g5 s5 v5 m5
  subst c5
  refine ⟨_, leaseE e0, q4, q5, v5', hal.trans hl1, haa.trans hq4, hap.trans hq5, by rw [s5, List.length_append, List.length_singleton]; omega, ?_⟩
  show e0.seq < _
  omega
end Go.Proofs.YtlgbehagflnfgaaGreatDoor

/- QUEUE: THE WALK OVER QueueFull. -/
namespace Go.Proofs.YtlgbehagflnfgaaGreatDoor
open Go.RowKit
set_option maxRecDepth 100000
set_option linter.unusedVariables false
set_option linter.unusedSimpArgs false

theorem openQ_most {size most : Int} (hm : ¬ (1 ≤ most ∧ most ≤ 1024)) : openQ ⟨[], false, -1, -1⟩ size most = (zQ, 2) := by
  unfold openQ
  rw [if_neg (fun h => h right_nil), if_pos hm]
set_option maxHeartbeats 4000000 in
theorem full_any (w : World) (most k : Int) (hmo : Num most) (hk : Num k) (hT : Tabs w) (hw : 3 < w.heap.size) :
    Calls Tryz.prog 9 #[.int .i64 most, .int .i64 k] w fun e w' => e = .returned (.bool true) ∧ Below w.heap.size w w' := by
  have HT := Lib.hid hT
  have HB := Lib.hid (Below.refl w.heap.size w)
  have Hk := Lib.hid hk
  obtain ⟨hk0, hk1⟩ := hk
  clear hT
  go_enter Tryz.func9, Tryz.ntmps9
  go_wp2_with fail
  refine (qlives_any w (HT.out.under HB.out) (by have := HB.out.size; omega)).mono ?_
  rintro e w0 ⟨rfl, hb⟩
  replace HB := Lib.hid (HB.out.trans (hb.mono HB.out.size))
  clear hb
  go_wp2_with fail
  refine (qwhole_any w0).mono ?_
  rintro e w1 ⟨rfl, hb⟩
  replace HB := Lib.hid (HB.out.trans (hb.mono HB.out.size))
  clear hb
  obtain ⟨a, ha⟩ : ∃ a, openQ ⟨[], false, -1, -1⟩ 262144 most = a := ⟨_, rfl⟩
  obtain ⟨⟨⟨⟨fs0, dn0, fu0, fa0⟩, sz0, fr0, nx0, br0⟩, es0, mo0⟩, c⟩ := a
  have HA := Lib.hid ha
  clear ha
  go_wp2_with fail
  refine (qopen_any w1 none 0 0 ⟨[], false, -1, -1⟩ 262144 most (DIn.nothing w1 (fu := -1) (fa := -1) (by unfold Num; omega) (by unfold Num; omega)) (by unfold Num; omega) hmo (HT.out.under HB.out) (by have := HB.out.size; omega)).mono ?_
  rintro e w2 hP
  rw [HA.out] at hP
  obtain ⟨hb, ad0, n0, cap0, be0, m0, cp0, rfl, hq⟩ := hP
  replace HB := Lib.hid (HB.out.trans (hb.mono HB.out.size))
  clear hb
  obtain ⟨W2, hW⟩ : ∃ W, W = w2.alloc (.cells #[.slice ad0 n0 cap0, .bool dn0, .int .i64 fu0, .int .i64 fa0, .int .i64 sz0, .int .u64 fr0, .int .u64 nx0, .bool br0, .slice be0 m0 cp0, .int .i64 mo0] 30) := ⟨_, rfl⟩
  have hbW : Below w2.heap.size w2 W2 := by rw [hW]; exact (Below.refl _ w2).alloc (Nat.le_refl _) _
  have HV := Lib.hid (show QV w W2 w2.heap.size ⟨⟨⟨fs0, dn0, fu0, fa0⟩, sz0, fr0, nx0, br0⟩, es0, mo0⟩ ad0 n0 cap0 be0 m0 cp0 from ⟨by rw [hW]; exact blk_new w2 _, hq.under hbW, HB.out.trans (hbW.mono HB.out.size), HB.out.size⟩)
  replace HB := Lib.hid (HB.out.trans (hbW.mono HB.out.size))
  have HbW2 := Lib.hid hbW
  clear hbW hq
  go_upto_region 4 with (fail)
  rw [← hW]
  clear hW
  by_cases hm : 1 ≤ most ∧ most ≤ 1024
  rotate_left
  · have e := HA.out.symm.trans (openQ_most hm)
    simp only [Prod.mk.injEq] at e
    obtain ⟨_, rfl⟩ := e
    clear HA HV hm
    go_wp2
    go_ret
    exact ⟨rfl, HB.out⟩
  have e := HA.out.symm.trans (openQ_nil (by omega) hm)
  simp only [Prod.mk.injEq] at e
  obtain ⟨hq0, rfl⟩ := e
  have Hm := Lib.hid hm
  obtain ⟨hm1, hm2⟩ := hm
  have hFI := fi_zero Hm.out
  rw [← hq0] at hFI
  have HFI := Lib.hid hFI
  clear hFI hq0 HA
  go_wp2
  go_loopw [7] (fun i wr => ∃ (j : Nat) (q : Q) (ad0 : Option Addr) (n0 cap0 : Nat) (be0 : Option Addr) (m0 cp0 : Nat), i = .int .i64 (j : Int) ∧ j ≤ 12 ∧ FI most j q ∧ QV w wr w2.heap.size q ad0 n0 cap0 be0 m0 cp0) (fun i _ => 12 - (intOf i).toNat)
  case atStart => exact ⟨0, _, _, _, _, _, _, _, rfl, by omega, HFI.out, HV.out⟩
  case round =>
    clear HFI HV
    obtain ⟨j, q, ad0, n0, cap0, be0, m0, cp0, rfl, hj, hfi, hv⟩ := hrel
    obtain ⟨⟨⟨fs0, dn0, fu0, fa0⟩, sz0, fr0, nx0, br0⟩, es0, mo0⟩ := q
    have HV := Lib.hid hv
    have HFI := Lib.hid hfi
    have HB := Lib.hid HV.out.b
    clear hv hfi
    by_cases hlt : (j : Int) < k ∧ (j : Int) < 12
    · obtain ⟨hlt1, hlt2⟩ := hlt
      obtain ⟨a, ha⟩ : ∃ a, ansQ ⟨⟨⟨fs0, dn0, fu0, fa0⟩, sz0, fr0, nx0, br0⟩, es0, mo0⟩ (.put xB) = a := ⟨_, rfl⟩
      obtain ⟨⟨⟨⟨fs1, dn1, fu1, fa1⟩, sz1, fr1, nx1, br1⟩, es1, mo1⟩, ⟨se1, da1, le1⟩, c⟩ := a
      have HA := Lib.hid ha
      clear ha
      obtain ⟨c0, c1, c2, c3, c4, c5, c6, c7, c8, c9⟩ := box10 HV.out.h
      have hlc := (Array.getElem?_eq_some_iff.1 HV.out.h).1
      go_wp2_with fail
      refine (put24_any wr ad0 n0 cap0 be0 m0 cp0 _ HV.out.i (HT.out.under HB.out) (by have := HB.out.size; omega) xB (by decide)).mono ?_
      rintro e w5 hP
      rw [HA.out] at hP
      obtain ⟨hb, ad1, n1, cap1, be1, m1, cp1, rfl, hq, ho, hp⟩ := hP
      clear c0 c1 c2 c3 c4 c5 c6 c7 c8 c9 hlc
      have Hq := Lib.hid hq
      have Ho := Lib.hid ho
      have Hp := Lib.hid hp
      have HU := Lib.hid (HV.out.under hb)
      have Hb5 := Lib.hid hb
      replace HB := Lib.hid (HB.out.trans (hb.mono HB.out.size))
      clear hb ho hp
      obtain ⟨W5, hW⟩ : ∃ W, W = w5.alloc (.cells #[.slice ad1 n1 cap1, .bool dn1, .int .i64 fu1, .int .i64 fa1, .int .i64 sz1, .int .u64 fr1, .int .u64 nx1, .bool br1, .slice be1 m1 cp1, .int .i64 mo1] 30) := ⟨_, rfl⟩
      have hbW : Below w5.heap.size w5 W5 := by rw [hW]; exact (Below.refl _ w5).alloc (Nat.le_refl _) _
      have HP := Lib.hid (show QV w W5 w5.heap.size ⟨⟨⟨fs1, dn1, fu1, fa1⟩, sz1, fr1, nx1, br1⟩, es1, mo1⟩ ad1 n1 cap1 be1 m1 cp1 from ⟨by rw [hW]; exact blk_new w5 _, hq.under hbW, HB.out.trans (hbW.mono HB.out.size), HB.out.size⟩)
      replace HU := Lib.hid (HU.out.under hbW)
      replace HB := Lib.hid (HB.out.trans (hbW.mono HB.out.size))
      have HbW5 := Lib.hid hbW
      clear hbW hq
      go_upto_region 10 with (fail)
      rw [← hW]
      clear hW
      by_cases hjm : (j : Int) < most
      · obtain ⟨q2, e, hf2⟩ := fi_put HFI.out (by omega) hjm
        have e2 := HA.out.symm.trans e
        simp only [Prod.mk.injEq, E.mk.injEq] at e2
        obtain ⟨rfl, ⟨rfl, rfl, rfl⟩, rfl⟩ := e2
        have HF2 := Lib.hid hf2
        clear e hf2 HA
        go_upto_region 12 with (fail)
        obtain ⟨d0, d1, d2, d3, d4, d5, d6, d7, d8, d9⟩ := box10 HP.out.h
        have hld := (Array.getElem?_eq_some_iff.1 HP.out.h).1
        obtain ⟨y0, y1, y2, y3, y4, y5, y6, y7, y8, y9⟩ := box10 HU.out.h
        have hly := (Array.getElem?_eq_some_iff.1 HU.out.h).1
        obtain ⟨z0, z1, z2, z3, z4, z5, z6, z7, z8, z9⟩ := frz10 HU.out.h
        go_upto_region 8 with (fail)
        obtain ⟨G, hG⟩ : ∃ G, G = ((((((((((W5).setCell ⟨w2.heap.size, 0, none⟩ (.slice ad1 n1 cap1)).setCell ⟨w2.heap.size, 1, none⟩ (.bool dn1)).setCell ⟨w2.heap.size, 2, none⟩ (.int .i64 fu1)).setCell ⟨w2.heap.size, 3, none⟩ (.int .i64 fa1)).setCell ⟨w2.heap.size, 4, none⟩ (.int .i64 sz1)).setCell ⟨w2.heap.size, 5, none⟩ (.int .u64 fr1)).setCell ⟨w2.heap.size, 6, none⟩ (.int .u64 nx1)).setCell ⟨w2.heap.size, 7, none⟩ (.bool br1)).setCell ⟨w2.heap.size, 8, none⟩ (.slice be1 m1 cp1)).setCell ⟨w2.heap.size, 9, none⟩ (.int .i64 mo1) := ⟨_, rfl⟩
        rw [← hG]
        have HV2 := Lib.hid (HV.out.put (Hb5.out.trans (HbW5.out.mono Hb5.out.size)) HP.out.i Ho.out Hp.out hG)
        clear d0 d1 d2 d3 d4 d5 d6 d7 d8 d9 hld y0 y1 y2 y3 y4 y5 y6 y7 y8 y9 hly z0 z1 z2 z3 z4 z5 z6 z7 z8 z9 hG
        go_wp2
        go_roundw
        case rel => exact ⟨j + 1, _, _, _, _, _, _, _, by go_num, by omega, HF2.out, HV2.out⟩
        case measure => simp [intOf]; omega
      · obtain ⟨e, hf2⟩ := fi_full HFI.out (by omega) hm1 (by omega)
        have e2 := HA.out.symm.trans e
        simp only [Prod.mk.injEq, zE, E.mk.injEq, Q.mk.injEq, L.mk.injEq, D.mk.injEq] at e2
        obtain ⟨⟨⟨⟨rfl, rfl, rfl, rfl⟩, rfl, rfl, rfl, rfl⟩, rfl, rfl⟩, ⟨rfl, rfl, rfl⟩, rfl⟩ := e2
        have HF2 := Lib.hid hf2
        clear e hf2 HA
        go_upto_region 12 with (fail)
        obtain ⟨d0, d1, d2, d3, d4, d5, d6, d7, d8, d9⟩ := box10 HP.out.h
        have hld := (Array.getElem?_eq_some_iff.1 HP.out.h).1
        obtain ⟨y0, y1, y2, y3, y4, y5, y6, y7, y8, y9⟩ := box10 HU.out.h
        have hly := (Array.getElem?_eq_some_iff.1 HU.out.h).1
        obtain ⟨z0, z1, z2, z3, z4, z5, z6, z7, z8, z9⟩ := frz10 HU.out.h
        go_upto_region 8 with (fail)
        obtain ⟨G, hG⟩ : ∃ G, G = ((((((((((W5).setCell ⟨w2.heap.size, 0, none⟩ (.slice ad1 n1 cap1)).setCell ⟨w2.heap.size, 1, none⟩ (.bool dn1)).setCell ⟨w2.heap.size, 2, none⟩ (.int .i64 fu1)).setCell ⟨w2.heap.size, 3, none⟩ (.int .i64 fa1)).setCell ⟨w2.heap.size, 4, none⟩ (.int .i64 sz1)).setCell ⟨w2.heap.size, 5, none⟩ (.int .u64 fr1)).setCell ⟨w2.heap.size, 6, none⟩ (.int .u64 nx1)).setCell ⟨w2.heap.size, 7, none⟩ (.bool br1)).setCell ⟨w2.heap.size, 8, none⟩ (.slice be1 m1 cp1)).setCell ⟨w2.heap.size, 9, none⟩ (.int .i64 mo1) := ⟨_, rfl⟩
        rw [← hG]
        have HV2 := Lib.hid (HV.out.put (Hb5.out.trans (HbW5.out.mono Hb5.out.size)) HP.out.i Ho.out Hp.out hG)
        clear d0 d1 d2 d3 d4 d5 d6 d7 d8 d9 hld y0 y1 y2 y3 y4 y5 y6 y7 y8 y9 hly z0 z1 z2 z3 z4 z5 z6 z7 z8 z9 hG
        go_wp2
        go_roundw
        case rel => exact ⟨j + 1, _, _, _, _, _, _, _, by go_num, by omega, HF2.out, HV2.out⟩
        case measure => simp [intOf]; omega
    · by_cases hlt1 : (j : Int) < k
      · have hlt2 : ¬ (j : Int) < 12 := fun h => hlt ⟨hlt1, h⟩
        clear hlt
        obtain ⟨c0, c1, c2, c3, c4, c5, c6, c7, c8, c9⟩ := box10 HV.out.h
        have hlc := (Array.getElem?_eq_some_iff.1 HV.out.h).1
        go_upto_region 14 with (fail)
        clear c0 c1 c2 c3 c4 c5 c6 c7 c8 c9 hlc
        have hm0 : m0 = es0.length := HV.out.i.e.1
        by_cases he0 : es0.length = 0
        · have hA := fi_none HFI.out hj he0
          obtain rfl : m0 = 0 := hm0.trans he0
          have HA := Lib.hid hA
          clear hA hm0 he0
          obtain ⟨c0, c1, c2, c3, c4, c5, c6, c7, c8, c9⟩ := box10 HV.out.h
          have hlc := (Array.getElem?_eq_some_iff.1 HV.out.h).1
          go_wp2_with fail
          refine (lease25_any wr _ _ _ _ _ _ _ HV.out.i (HT.out.under HB.out) (by have := HB.out.size; omega)).mono ?_
          rintro e w5 hP
          rw [HA.out] at hP
          obtain ⟨hb, ad1, n1, cap1, be1, m1, cp1, rfl, hq, ho, hp⟩ := hP
          clear c0 c1 c2 c3 c4 c5 c6 c7 c8 c9 hlc
          replace HV := Lib.hid (HV.out.under hb)
          replace HB := Lib.hid (HB.out.trans (hb.mono HB.out.size))
          clear hb ho hp
          obtain ⟨W5, hW⟩ : ∃ W, W = (w5.alloc (.cells #[.slice ad1 n1 cap1, .bool dn0, .int .i64 fu0, .int .i64 fa0, .int .i64 sz0, .int .u64 fr0, .int .u64 nx0, .bool br0, .slice be1 m1 cp1, .int .i64 mo0] 30)).alloc (.cells #[.int .u64 0, .string ⟨#[]⟩, .bool false] 39) := ⟨_, rfl⟩
          have hbW : Below w5.heap.size w5 W5 := by rw [hW]; exact ((Below.refl _ w5).alloc (Nat.le_refl _) _).alloc (by simp) _
          have HP := Lib.hid (show QV w W5 w5.heap.size ⟨⟨⟨fs0, dn0, fu0, fa0⟩, sz0, fr0, nx0, br0⟩, es0, mo0⟩ ad1 n1 cap1 be1 m1 cp1 from ⟨by rw [hW]; exact blk_alloc (blk_new w5 _) _, hq.under hbW, HB.out.trans (hbW.mono HB.out.size), HB.out.size⟩)
          have HE := Lib.hid (show Blk W5 (w5.heap.size + 1) #[.int .u64 0, .string ⟨#[]⟩, .bool false] 39 from by rw [hW]; exact blk_at (by simp))
          replace HV := Lib.hid (HV.out.under hbW)
          replace HB := Lib.hid (HB.out.trans (hbW.mono HB.out.size))
          have HbW5 := Lib.hid hbW
          clear hbW hq
          go_upto_region 15 with (fail)
          rw [← hW]
          clear hW
          go_wp2
          go_ret
          exact ⟨rfl, HB.out⟩
        · obtain ⟨q1, e, q2, q3, v, h1, h2, h3, hlen, hse⟩ := fi_end HFI.out hj Hm.out he0
          obtain ⟨⟨⟨fs1, dn1, fu1, fa1⟩, sz1, fr1, nx1, br1⟩, es1, mo1⟩ := q1
          obtain ⟨se1, da1, le1⟩ := e
          obtain ⟨⟨⟨fs2, dn2, fu2, fa2⟩, sz2, fr2, nx2, br2⟩, es2, mo2⟩ := q2
          obtain ⟨⟨⟨fs3, dn3, fu3, fa3⟩, sz3, fr3, nx3, br3⟩, es3, mo3⟩ := q3
          obtain ⟨se3, da3, le3⟩ := v
          have H1 := Lib.hid h1
          have H2 := Lib.hid h2
          have H3 := Lib.hid h3
          have Hlen := Lib.hid hlen
          simp only at hse
          have hm1' : ¬ m0 = 0 := by omega
          have hm1I : ¬ (m0 : Int) = 0 := by omega
          have Hm0 := Lib.hid hm0
          clear h1 h2 h3 hlen hm0 he0
          obtain ⟨c0, c1, c2, c3, c4, c5, c6, c7, c8, c9⟩ := box10 HV.out.h
          have hlc := (Array.getElem?_eq_some_iff.1 HV.out.h).1
          go_wp2_with fail
          refine (lease25_any wr ad0 n0 cap0 be0 m0 cp0 _ HV.out.i (HT.out.under HB.out) (by have := HB.out.size; omega) ).mono ?_
          rintro e w5 hP
          rw [H1.out] at hP
          obtain ⟨hb, ad1, n1, cap1, be1, m1, cp1, rfl, hq, ho, hp⟩ := hP
          clear c0 c1 c2 c3 c4 c5 c6 c7 c8 c9 hlc
          replace HV := Lib.hid (HV.out.under hb)
          replace HB := Lib.hid (HB.out.trans (hb.mono HB.out.size))
          clear hb ho hp
          obtain ⟨W5, hW⟩ : ∃ W, W = (w5.alloc (.cells #[.slice ad1 n1 cap1, .bool dn1, .int .i64 fu1, .int .i64 fa1, .int .i64 sz1, .int .u64 fr1, .int .u64 nx1, .bool br1, .slice be1 m1 cp1, .int .i64 mo1] 30)).alloc (.cells #[.int .u64 (se1 : Int), .string da1, .bool le1] 39) := ⟨_, rfl⟩
          have hbW : Below w5.heap.size w5 W5 := by rw [hW]; exact ((Below.refl _ w5).alloc (Nat.le_refl _) _).alloc (by simp) _
          have HP := Lib.hid (show QV w W5 w5.heap.size ⟨⟨⟨fs1, dn1, fu1, fa1⟩, sz1, fr1, nx1, br1⟩, es1, mo1⟩ ad1 n1 cap1 be1 m1 cp1 from ⟨by rw [hW]; exact blk_alloc (blk_new w5 _) _, hq.under hbW, HB.out.trans (hbW.mono HB.out.size), HB.out.size⟩)
          have HE := Lib.hid (show Blk W5 (w5.heap.size + 1) #[.int .u64 (se1 : Int), .string da1, .bool le1] 39 from by rw [hW]; exact blk_at (by simp))
          replace HV := Lib.hid (HV.out.under hbW)
          replace HB := Lib.hid (HB.out.trans (hbW.mono HB.out.size))
          have HbW5 := Lib.hid hbW
          clear hbW hq
          go_upto_region 15 with (fail)
          rw [← hW]
          clear hW
          obtain ⟨x0, x1, x2⟩ := box3 HE.out
          have hlx := HE.out.lt
          obtain ⟨c0, c1, c2, c3, c4, c5, c6, c7, c8, c9⟩ := box10 HP.out.h
          have hlc := (Array.getElem?_eq_some_iff.1 HP.out.h).1
          go_wp2_with fail
          refine (ack26_any W5 ad1 n1 cap1 be1 m1 cp1 _ HP.out.i (HT.out.under HB.out) (by have := HB.out.size; omega) se1 (by omega)).mono ?_
          rintro e w6 hP
          rw [H2.out] at hP
          obtain ⟨hb, ad2, n2, cap2, be2, m2, cp2, rfl, hq, ho, hp⟩ := hP
          clear c0 c1 c2 c3 c4 c5 c6 c7 c8 c9 hlc
          replace HV := Lib.hid (HV.out.under hb)
          replace HP := Lib.hid (HP.out.under hb)
          replace HE := Lib.hid (HE.out.under hb)
          replace HB := Lib.hid (HB.out.trans (hb.mono HB.out.size))
          clear hb ho hp
          clear x0 x1 x2 hlx
          obtain ⟨W6, hW⟩ : ∃ W, W = w6.alloc (.cells #[.slice ad2 n2 cap2, .bool dn2, .int .i64 fu2, .int .i64 fa2, .int .i64 sz2, .int .u64 fr2, .int .u64 nx2, .bool br2, .slice be2 m2 cp2, .int .i64 mo2] 30) := ⟨_, rfl⟩
          have hbW : Below w6.heap.size w6 W6 := by rw [hW]; exact (Below.refl _ w6).alloc (Nat.le_refl _) _
          have HQ := Lib.hid (show QV w W6 w6.heap.size ⟨⟨⟨fs2, dn2, fu2, fa2⟩, sz2, fr2, nx2, br2⟩, es2, mo2⟩ ad2 n2 cap2 be2 m2 cp2 from ⟨by rw [hW]; exact blk_new w6 _, hq.under hbW, HB.out.trans (hbW.mono HB.out.size), HB.out.size⟩)
          replace HV := Lib.hid (HV.out.under hbW)
          replace HP := Lib.hid (HP.out.under hbW)
          replace HE := Lib.hid (HE.out.under hbW)
          replace HB := Lib.hid (HB.out.trans (hbW.mono HB.out.size))
          have HbW6 := Lib.hid hbW
          clear hbW hq
          go_upto_region 18 with (fail)
          rw [← hW]
          clear hW
          obtain ⟨c0, c1, c2, c3, c4, c5, c6, c7, c8, c9⟩ := box10 HQ.out.h
          have hlc := (Array.getElem?_eq_some_iff.1 HQ.out.h).1
          go_wp2_with fail
          refine (put24_any W6 ad2 n2 cap2 be2 m2 cp2 _ HQ.out.i (HT.out.under HB.out) (by have := HB.out.size; omega) yB (by decide)).mono ?_
          rintro e w7 hP
          rw [H3.out] at hP
          obtain ⟨hb, ad3, n3, cap3, be3, m3, cp3, rfl, hq, ho, hp⟩ := hP
          clear c0 c1 c2 c3 c4 c5 c6 c7 c8 c9 hlc
          replace HV := Lib.hid (HV.out.under hb)
          replace HP := Lib.hid (HP.out.under hb)
          replace HE := Lib.hid (HE.out.under hb)
          replace HQ := Lib.hid (HQ.out.under hb)
          replace HB := Lib.hid (HB.out.trans (hb.mono HB.out.size))
          clear hb ho hp
          obtain ⟨W7, hW⟩ : ∃ W, W = w7.alloc (.cells #[.slice ad3 n3 cap3, .bool dn3, .int .i64 fu3, .int .i64 fa3, .int .i64 sz3, .int .u64 fr3, .int .u64 nx3, .bool br3, .slice be3 m3 cp3, .int .i64 mo3] 30) := ⟨_, rfl⟩
          have hbW : Below w7.heap.size w7 W7 := by rw [hW]; exact (Below.refl _ w7).alloc (Nat.le_refl _) _
          have HR := Lib.hid (show QV w W7 w7.heap.size ⟨⟨⟨fs3, dn3, fu3, fa3⟩, sz3, fr3, nx3, br3⟩, es3, mo3⟩ ad3 n3 cap3 be3 m3 cp3 from ⟨by rw [hW]; exact blk_new w7 _, hq.under hbW, HB.out.trans (hbW.mono HB.out.size), HB.out.size⟩)
          replace HV := Lib.hid (HV.out.under hbW)
          replace HP := Lib.hid (HP.out.under hbW)
          replace HE := Lib.hid (HE.out.under hbW)
          replace HQ := Lib.hid (HQ.out.under hbW)
          replace HB := Lib.hid (HB.out.trans (hbW.mono HB.out.size))
          have HbW7 := Lib.hid hbW
          clear hbW hq
          go_upto_region 19 with (fail)
          rw [← hW]
          clear hW
          have hm3 : m3 = m0 := by have h1 : m3 = es3.length := HR.out.i.e.1; have h2 : es3.length = es0.length := Hlen.out; have h3 := Hm0.out; omega
          subst hm3
          obtain ⟨d0, d1, d2, d3, d4, d5, d6, d7, d8, d9⟩ := box10 HR.out.h
          have hld := (Array.getElem?_eq_some_iff.1 HR.out.h).1
          go_wp2
          go_ret
          exact ⟨rfl, HB.out⟩
      · clear hlt
        obtain ⟨c0, c1, c2, c3, c4, c5, c6, c7, c8, c9⟩ := box10 HV.out.h
        have hlc := (Array.getElem?_eq_some_iff.1 HV.out.h).1
        go_upto_region 14 with (fail)
        clear c0 c1 c2 c3 c4 c5 c6 c7 c8 c9 hlc
        have hm0 : m0 = es0.length := HV.out.i.e.1
        by_cases he0 : es0.length = 0
        · have hA := fi_none HFI.out hj he0
          obtain rfl : m0 = 0 := hm0.trans he0
          have HA := Lib.hid hA
          clear hA hm0 he0
          obtain ⟨c0, c1, c2, c3, c4, c5, c6, c7, c8, c9⟩ := box10 HV.out.h
          have hlc := (Array.getElem?_eq_some_iff.1 HV.out.h).1
          go_wp2_with fail
          refine (lease25_any wr _ _ _ _ _ _ _ HV.out.i (HT.out.under HB.out) (by have := HB.out.size; omega)).mono ?_
          rintro e w5 hP
          rw [HA.out] at hP
          obtain ⟨hb, ad1, n1, cap1, be1, m1, cp1, rfl, hq, ho, hp⟩ := hP
          clear c0 c1 c2 c3 c4 c5 c6 c7 c8 c9 hlc
          replace HV := Lib.hid (HV.out.under hb)
          replace HB := Lib.hid (HB.out.trans (hb.mono HB.out.size))
          clear hb ho hp
          obtain ⟨W5, hW⟩ : ∃ W, W = (w5.alloc (.cells #[.slice ad1 n1 cap1, .bool dn0, .int .i64 fu0, .int .i64 fa0, .int .i64 sz0, .int .u64 fr0, .int .u64 nx0, .bool br0, .slice be1 m1 cp1, .int .i64 mo0] 30)).alloc (.cells #[.int .u64 0, .string ⟨#[]⟩, .bool false] 39) := ⟨_, rfl⟩
          have hbW : Below w5.heap.size w5 W5 := by rw [hW]; exact ((Below.refl _ w5).alloc (Nat.le_refl _) _).alloc (by simp) _
          have HP := Lib.hid (show QV w W5 w5.heap.size ⟨⟨⟨fs0, dn0, fu0, fa0⟩, sz0, fr0, nx0, br0⟩, es0, mo0⟩ ad1 n1 cap1 be1 m1 cp1 from ⟨by rw [hW]; exact blk_alloc (blk_new w5 _) _, hq.under hbW, HB.out.trans (hbW.mono HB.out.size), HB.out.size⟩)
          have HE := Lib.hid (show Blk W5 (w5.heap.size + 1) #[.int .u64 0, .string ⟨#[]⟩, .bool false] 39 from by rw [hW]; exact blk_at (by simp))
          replace HV := Lib.hid (HV.out.under hbW)
          replace HB := Lib.hid (HB.out.trans (hbW.mono HB.out.size))
          have HbW5 := Lib.hid hbW
          clear hbW hq
          go_upto_region 15 with (fail)
          rw [← hW]
          clear hW
          go_wp2
          go_ret
          exact ⟨rfl, HB.out⟩
        · obtain ⟨q1, e, q2, q3, v, h1, h2, h3, hlen, hse⟩ := fi_end HFI.out hj Hm.out he0
          obtain ⟨⟨⟨fs1, dn1, fu1, fa1⟩, sz1, fr1, nx1, br1⟩, es1, mo1⟩ := q1
          obtain ⟨se1, da1, le1⟩ := e
          obtain ⟨⟨⟨fs2, dn2, fu2, fa2⟩, sz2, fr2, nx2, br2⟩, es2, mo2⟩ := q2
          obtain ⟨⟨⟨fs3, dn3, fu3, fa3⟩, sz3, fr3, nx3, br3⟩, es3, mo3⟩ := q3
          obtain ⟨se3, da3, le3⟩ := v
          have H1 := Lib.hid h1
          have H2 := Lib.hid h2
          have H3 := Lib.hid h3
          have Hlen := Lib.hid hlen
          simp only at hse
          have hm1' : ¬ m0 = 0 := by omega
          have hm1I : ¬ (m0 : Int) = 0 := by omega
          have Hm0 := Lib.hid hm0
          clear h1 h2 h3 hlen hm0 he0
          obtain ⟨c0, c1, c2, c3, c4, c5, c6, c7, c8, c9⟩ := box10 HV.out.h
          have hlc := (Array.getElem?_eq_some_iff.1 HV.out.h).1
          go_wp2_with fail
          refine (lease25_any wr ad0 n0 cap0 be0 m0 cp0 _ HV.out.i (HT.out.under HB.out) (by have := HB.out.size; omega) ).mono ?_
          rintro e w5 hP
          rw [H1.out] at hP
          obtain ⟨hb, ad1, n1, cap1, be1, m1, cp1, rfl, hq, ho, hp⟩ := hP
          clear c0 c1 c2 c3 c4 c5 c6 c7 c8 c9 hlc
          replace HV := Lib.hid (HV.out.under hb)
          replace HB := Lib.hid (HB.out.trans (hb.mono HB.out.size))
          clear hb ho hp
          obtain ⟨W5, hW⟩ : ∃ W, W = (w5.alloc (.cells #[.slice ad1 n1 cap1, .bool dn1, .int .i64 fu1, .int .i64 fa1, .int .i64 sz1, .int .u64 fr1, .int .u64 nx1, .bool br1, .slice be1 m1 cp1, .int .i64 mo1] 30)).alloc (.cells #[.int .u64 (se1 : Int), .string da1, .bool le1] 39) := ⟨_, rfl⟩
          have hbW : Below w5.heap.size w5 W5 := by rw [hW]; exact ((Below.refl _ w5).alloc (Nat.le_refl _) _).alloc (by simp) _
          have HP := Lib.hid (show QV w W5 w5.heap.size ⟨⟨⟨fs1, dn1, fu1, fa1⟩, sz1, fr1, nx1, br1⟩, es1, mo1⟩ ad1 n1 cap1 be1 m1 cp1 from ⟨by rw [hW]; exact blk_alloc (blk_new w5 _) _, hq.under hbW, HB.out.trans (hbW.mono HB.out.size), HB.out.size⟩)
          have HE := Lib.hid (show Blk W5 (w5.heap.size + 1) #[.int .u64 (se1 : Int), .string da1, .bool le1] 39 from by rw [hW]; exact blk_at (by simp))
          replace HV := Lib.hid (HV.out.under hbW)
          replace HB := Lib.hid (HB.out.trans (hbW.mono HB.out.size))
          have HbW5 := Lib.hid hbW
          clear hbW hq
          go_upto_region 15 with (fail)
          rw [← hW]
          clear hW
          obtain ⟨x0, x1, x2⟩ := box3 HE.out
          have hlx := HE.out.lt
          obtain ⟨c0, c1, c2, c3, c4, c5, c6, c7, c8, c9⟩ := box10 HP.out.h
          have hlc := (Array.getElem?_eq_some_iff.1 HP.out.h).1
          go_wp2_with fail
          refine (ack26_any W5 ad1 n1 cap1 be1 m1 cp1 _ HP.out.i (HT.out.under HB.out) (by have := HB.out.size; omega) se1 (by omega)).mono ?_
          rintro e w6 hP
          rw [H2.out] at hP
          obtain ⟨hb, ad2, n2, cap2, be2, m2, cp2, rfl, hq, ho, hp⟩ := hP
          clear c0 c1 c2 c3 c4 c5 c6 c7 c8 c9 hlc
          replace HV := Lib.hid (HV.out.under hb)
          replace HP := Lib.hid (HP.out.under hb)
          replace HE := Lib.hid (HE.out.under hb)
          replace HB := Lib.hid (HB.out.trans (hb.mono HB.out.size))
          clear hb ho hp
          clear x0 x1 x2 hlx
          obtain ⟨W6, hW⟩ : ∃ W, W = w6.alloc (.cells #[.slice ad2 n2 cap2, .bool dn2, .int .i64 fu2, .int .i64 fa2, .int .i64 sz2, .int .u64 fr2, .int .u64 nx2, .bool br2, .slice be2 m2 cp2, .int .i64 mo2] 30) := ⟨_, rfl⟩
          have hbW : Below w6.heap.size w6 W6 := by rw [hW]; exact (Below.refl _ w6).alloc (Nat.le_refl _) _
          have HQ := Lib.hid (show QV w W6 w6.heap.size ⟨⟨⟨fs2, dn2, fu2, fa2⟩, sz2, fr2, nx2, br2⟩, es2, mo2⟩ ad2 n2 cap2 be2 m2 cp2 from ⟨by rw [hW]; exact blk_new w6 _, hq.under hbW, HB.out.trans (hbW.mono HB.out.size), HB.out.size⟩)
          replace HV := Lib.hid (HV.out.under hbW)
          replace HP := Lib.hid (HP.out.under hbW)
          replace HE := Lib.hid (HE.out.under hbW)
          replace HB := Lib.hid (HB.out.trans (hbW.mono HB.out.size))
          have HbW6 := Lib.hid hbW
          clear hbW hq
          go_upto_region 18 with (fail)
          rw [← hW]
          clear hW
          obtain ⟨c0, c1, c2, c3, c4, c5, c6, c7, c8, c9⟩ := box10 HQ.out.h
          have hlc := (Array.getElem?_eq_some_iff.1 HQ.out.h).1
          go_wp2_with fail
          refine (put24_any W6 ad2 n2 cap2 be2 m2 cp2 _ HQ.out.i (HT.out.under HB.out) (by have := HB.out.size; omega) yB (by decide)).mono ?_
          rintro e w7 hP
          rw [H3.out] at hP
          obtain ⟨hb, ad3, n3, cap3, be3, m3, cp3, rfl, hq, ho, hp⟩ := hP
          clear c0 c1 c2 c3 c4 c5 c6 c7 c8 c9 hlc
          replace HV := Lib.hid (HV.out.under hb)
          replace HP := Lib.hid (HP.out.under hb)
          replace HE := Lib.hid (HE.out.under hb)
          replace HQ := Lib.hid (HQ.out.under hb)
          replace HB := Lib.hid (HB.out.trans (hb.mono HB.out.size))
          clear hb ho hp
          obtain ⟨W7, hW⟩ : ∃ W, W = w7.alloc (.cells #[.slice ad3 n3 cap3, .bool dn3, .int .i64 fu3, .int .i64 fa3, .int .i64 sz3, .int .u64 fr3, .int .u64 nx3, .bool br3, .slice be3 m3 cp3, .int .i64 mo3] 30) := ⟨_, rfl⟩
          have hbW : Below w7.heap.size w7 W7 := by rw [hW]; exact (Below.refl _ w7).alloc (Nat.le_refl _) _
          have HR := Lib.hid (show QV w W7 w7.heap.size ⟨⟨⟨fs3, dn3, fu3, fa3⟩, sz3, fr3, nx3, br3⟩, es3, mo3⟩ ad3 n3 cap3 be3 m3 cp3 from ⟨by rw [hW]; exact blk_new w7 _, hq.under hbW, HB.out.trans (hbW.mono HB.out.size), HB.out.size⟩)
          replace HV := Lib.hid (HV.out.under hbW)
          replace HP := Lib.hid (HP.out.under hbW)
          replace HE := Lib.hid (HE.out.under hbW)
          replace HQ := Lib.hid (HQ.out.under hbW)
          replace HB := Lib.hid (HB.out.trans (hbW.mono HB.out.size))
          have HbW7 := Lib.hid hbW
          clear hbW hq
          go_upto_region 19 with (fail)
          rw [← hW]
          clear hW
          have hm3 : m3 = m0 := by have h1 : m3 = es3.length := HR.out.i.e.1; have h2 : es3.length = es0.length := Hlen.out; have h3 := Hm0.out; omega
          subst hm3
          obtain ⟨d0, d1, d2, d3, d4, d5, d6, d7, d8, d9⟩ := box10 HR.out.h
          have hld := (Array.getElem?_eq_some_iff.1 HR.out.h).1
          go_wp2
          go_ret
          exact ⟨rfl, HB.out⟩
end Go.Proofs.YtlgbehagflnfgaaGreatDoor
