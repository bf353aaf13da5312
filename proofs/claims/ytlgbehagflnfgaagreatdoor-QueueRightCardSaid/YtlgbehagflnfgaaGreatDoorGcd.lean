/- QUEUE: THE WALK OVER QueueRight. -/
import Derived.Test.YtlgbehagflnfgaaGreatDoorGca
namespace Go.Proofs.YtlgbehagflnfgaaGreatDoor
open Go.RowKit
set_option maxRecDepth 100000
set_option linter.unusedVariables false
set_option linter.unusedSimpArgs false

theorem qri_no {q : Q} (h : ¬ QRight q) (s : QS) : ansQ q s = (zQ, zE, 6) := by unfold ansQ; rw [if_neg h]
theorem qri_yes {q : Q} (h : QRight q) (s : QS) : ansQ q s = chQ q s := by unfold ansQ; rw [if_pos h]
theorem tk {P : Program} {ops : Array Oper} {Q : Exit → Act → World → Prop} {md : Region.Mode} (i : Nat) {oi : Oper} (v : Value) {fuel : Nat} {listed : Array Bool} {a : Act} {w : World} (hi : ops[i]? = some oi)
    (hb : (Region.noSelect ops && Region.free md ops listed i && (Region.ready md ops listed).contains i && Region.wanted oi (yielded ops a.tmps)) = true)
    (hQ : ∀ c a w, Q (.panic c) (a.put oi.dst v) w → Q (.panic c) a w) (hy : ∀ w, (execOp a.eval oi).run P w = .ok (.value v) w) (h : wpAny P md ops Q fuel (listed.setIfInBounds i true) (a.put oi.dst v) w) : wpAny P md ops Q (fuel + 1) listed a w := by
  simp only [Bool.and_eq_true] at hb
  exact wpAny_take hi hb.1.1.1 hb.1.1.2 hb.1.2 hQ (.inl ⟨hb.2, hy⟩) h
theorem tu {P : Program} {ops : Array Oper} {Q : Exit → Act → World → Prop} {md : Region.Mode} (i : Nat) {oi : Oper} {fuel : Nat} {listed : Array Bool} {a : Act} {w : World} (hi : ops[i]? = some oi)
    (hb : (Region.noSelect ops && Region.free md ops listed i && (Region.ready md ops listed).contains i && !Region.wanted oi (yielded ops a.tmps)) = true)
    (hQ : ∀ c a w, Q (.panic c) (a.put oi.dst undef) w → Q (.panic c) a w) (h : wpAny P md ops Q fuel (listed.setIfInBounds i true) (a.put oi.dst undef) w) : wpAny P md ops Q (fuel + 1) listed a w := by
  simp only [Bool.and_eq_true, Bool.not_eq_true'] at hb
  exact wpAny_take hi hb.1.1.1 hb.1.1.2 hb.1.2 hQ (.inr ⟨hb.2, rfl⟩) h
set_option maxHeartbeats 4000000 in
theorem right_any (w : World) (ad : Option Addr) (n cap : Nat) (be : Option Addr) (m cp : Nat) (q : Q) (h : QIn w ad n cap be m cp q) (hT : Tabs w) (hw : 3 < w.heap.size) (k : Int) (data : ByteArray) (s : Nat) (hs : s < 18446744073709551616) (hds : data.size ≤ 9223372036854775000) :
    Calls Tryz.prog 6 #[.agg (q.cells (.slice ad n cap) (.slice be m cp)), .agg (stepC k data s)] w fun e w' => e = .returned (.bool true) ∧ Below w.heap.size w w' := by
  obtain ⟨W0, hW0⟩ : ∃ W, W = (w.alloc (.cells (q.cells (.slice ad n cap) (.slice be m cp)) 30)).alloc (.cells (stepC k data s) 33) := ⟨_, rfl⟩
  have hb0 : Below w.heap.size w W0 := by rw [hW0]; exact ((Below.refl _ w).alloc (Nat.le_refl _) _).alloc (by simp) _
  have HV := Lib.hid (show QV w W0 w.heap.size q ad n cap be m cp from ⟨by rw [hW0]; exact blk_alloc (blk_new w _) _, h.under hb0, hb0, Nat.le_refl _⟩)
  have HS := Lib.hid (show Blk W0 (w.heap.size + 1) (stepC k data s) 33 from by rw [hW0]; exact blk_at (by simp))
  have HT := Lib.hid hT
  have HB := Lib.hid hb0
  have Hh := Lib.hid h
  clear hT hb0 h
  obtain ⟨⟨⟨fs, dn, fu, fa⟩, sz, fr, nx, br⟩, es, mo⟩ := q
  obtain ⟨a, ha⟩ : ∃ a, ansQ ⟨⟨⟨fs, dn, fu, fa⟩, sz, fr, nx, br⟩, es, mo⟩ (qsOf k data s) = a := ⟨_, rfl⟩
  obtain ⟨⟨⟨⟨fs1, dn1, fu1, fa1⟩, sz1, fr1, nx1, br1⟩, es1, mo1⟩, ⟨se1, da1, le1⟩, c⟩ := a
  have HA := Lib.hid ha
  clear ha
  go_enter Tryz.func6, Tryz.ntmps6
  go_upto_region 1 with (fail)
  rw [← hW0]
  clear hW0
  go_wp2_with fail
  refine (qlives_any W0 (HT.out.under HB.out) (by have := HB.out.size; omega)).mono ?_
  rintro e w1 ⟨rfl, hb⟩
  replace HV := Lib.hid (HV.out.under hb)
  replace HS := Lib.hid (HS.out.under hb)
  replace HB := Lib.hid (HB.out.trans (hb.mono HB.out.size))
  clear hb
  obtain ⟨c0, c1, c2, c3, c4, c5, c6, c7, c8, c9⟩ := box10 HV.out.h
  have hlc := (Array.getElem?_eq_some_iff.1 HV.out.h).1
  obtain ⟨x0, x1, x2⟩ := box3 HS.out
  have hls := HS.out.lt
  go_wp2_with fail
  refine (do13_any w1 ad n cap be m cp _ HV.out.i (HT.out.under HB.out) (by have := HB.out.size; omega) k data s hs hds).mono ?_
  rintro e w2 hP
  rw [HA.out] at hP
  obtain ⟨hb, ad1, n1, cap1, be1, m1, cp1, rfl, hq, ho, hp⟩ := hP
  clear c0 c1 c2 c3 c4 c5 c6 c7 c8 c9 hlc
  clear x0 x1 x2 hls HS
  replace HV := Lib.hid (HV.out.under hb)
  replace HB := Lib.hid (HB.out.trans (hb.mono HB.out.size))
  clear hb ho hp
  obtain ⟨W2, hW⟩ : ∃ W, W = (w2.alloc (.cells #[.slice ad1 n1 cap1, .bool dn1, .int .i64 fu1, .int .i64 fa1, .int .i64 sz1, .int .u64 fr1, .int .u64 nx1, .bool br1, .slice be1 m1 cp1, .int .i64 mo1] 30)).alloc (.cells #[.int .u64 (se1 : Int), .string da1, .bool le1] 39) := ⟨_, rfl⟩
  have hbW : Below w2.heap.size w2 W2 := by rw [hW]; exact ((Below.refl _ w2).alloc (Nat.le_refl _) _).alloc (by simp) _
  have HP := Lib.hid (show QV w W2 w2.heap.size ⟨⟨⟨fs1, dn1, fu1, fa1⟩, sz1, fr1, nx1, br1⟩, es1, mo1⟩ ad1 n1 cap1 be1 m1 cp1 from ⟨by rw [hW]; exact blk_alloc (blk_new w2 _) _, hq.under hbW, HB.out.trans (hbW.mono HB.out.size), HB.out.size⟩)
  have HE := Lib.hid (show Blk W2 (w2.heap.size + 1) #[.int .u64 (se1 : Int), .string da1, .bool le1] 39 from by rw [hW]; exact blk_at (by simp))
  replace HV := Lib.hid (HV.out.under hbW)
  replace HB := Lib.hid (HB.out.trans (hbW.mono HB.out.size))
  have HbW2 := Lib.hid hbW
  clear hbW hq
  go_upto_region 4 with (fail)
  rw [← hW]
  clear hW
  obtain ⟨c0, c1, c2, c3, c4, c5, c6, c7, c8, c9⟩ := box10 HV.out.h
  have hlc := (Array.getElem?_eq_some_iff.1 HV.out.h).1
  go_wp2_with fail
  refine (qcheck_any W2 ad n cap be m cp _ HV.out.i).mono ?_
  rintro e w3 ⟨er3, rfl, hcase, hb⟩
  replace HV := Lib.hid (HV.out.under hb)
  replace HP := Lib.hid (HP.out.under hb)
  replace HE := Lib.hid (HE.out.under hb)
  replace HB := Lib.hid (HB.out.trans (hb.mono HB.out.size))
  clear hb
  clear c0 c1 c2 c3 c4 c5 c6 c7 c8 c9 hlc
  obtain ⟨d0, d1, d2, d3, d4, d5, d6, d7, d8, d9⟩ := box10 HP.out.h
  have hld := (Array.getElem?_eq_some_iff.1 HP.out.h).1
  obtain ⟨x0, x1, x2⟩ := box3 HE.out
  have hlx := HE.out.lt
  obtain ⟨c0, c1, c2, c3, c4, c5, c6, c7, c8, c9⟩ := box10 HV.out.h
  have hlc := (Array.getElem?_eq_some_iff.1 HV.out.h).1
  rcases hcase with ⟨hR, rfl⟩ | ⟨hR, rfl⟩
  rotate_left
  · have e := HA.out.symm.trans (qri_no hR _)
    simp only [Prod.mk.injEq, zQ, zl, zE, Q.mk.injEq, L.mk.injEq, D.mk.injEq, E.mk.injEq] at e
    obtain ⟨⟨⟨⟨rfl, rfl, rfl, rfl⟩, rfl, rfl, rfl, rfl⟩, rfl, rfl⟩, ⟨rfl, rfl, rfl⟩, rfl⟩ := e
    clear HA hR
    go_wp2_with fail
    refine (qsame_yes w3 ad1 none n1 cap1 0 0 be1 none m1 cp1 0 0 zQ HP.out.i (zQ_in w3) (by have := HP.out.i.l.d.i.1; simp at this; omega) (by have := HP.out.i.e.1; simp at this; omega)).mono ?_
    rintro e w4 ⟨rfl, hb⟩
    replace HV := Lib.hid (HV.out.under hb)
    replace HP := Lib.hid (HP.out.under hb)
    replace HE := Lib.hid (HE.out.under hb)
    replace HB := Lib.hid (HB.out.trans (hb.mono HB.out.size))
    clear hb
    clear x0 x1 x2 hlx
    obtain ⟨x0, x1, x2⟩ := box3 HE.out
    have hlx := HE.out.lt
    go_wp2
    go_ret
    exact ⟨rfl, HB.out⟩
  have hA := HA.out.symm.trans (qri_yes hR _)
  have hF := st_facts hR Hh.out.l.f0 ⟨Hh.out.l.d.u0, Hh.out.l.d.u1⟩ ⟨Hh.out.l.d.f0, Hh.out.l.d.f1⟩ (qsOf k data s) (fun k' hk' => by
    unfold qsOf at hk'
    split at hk'
    · cases hk'
    split at hk'
    · cases hk'
    split at hk'
    · cases hk'
    split at hk'
    · injection hk' with e; omega
    · cases hk')
  have hSo := st_sorted hR Hh.out.l.f0 (qsOf k data s)
  rw [← hA] at hF hSo
  have HSo := Lib.hid hSo
  have HF := Lib.hid hF
  have HR := Lib.hid hR
  obtain ⟨M1, hM1⟩ : ∃ M, es1.length = M := ⟨_, rfl⟩
  have hm1 : m1 = M1 := by rw [← hM1]; exact HP.out.i.e.1
  have hm0 : m = es.length := HV.out.i.e.1
  subst hm1
  have HM1 := Lib.hid hM1
  have HM0 := Lib.hid hm0
  have hlen := hF.len
  simp only at hlen
  rw [hM1] at hlen
  rw [← hm0] at hlen
  have hmo : 1 ≤ mo := hR.2.1.1
  have hlenI : (m1 : Int) ≤ (m : Int) ∨ (m1 : Int) ≤ mo := by omega
  clear hA hF hSo hR hM1 hm0 hlen HA
  obtain ⟨X6, hX⟩ : ∃ X, w3.drew = X := ⟨_, rfl⟩
  have hbX : Below w3.heap.size w3 X6 := by rw [← hX]; exact (Below.refl _ w3).drew
  clear d0 d1 d2 d3 d4 d5 d6 d7 d8 d9 hld
  clear c0 c1 c2 c3 c4 c5 c6 c7 c8 c9 hlc
  clear x0 x1 x2 hlx
  have Hx3 := Lib.hid hX
  replace HV := Lib.hid (HV.out.under hbX)
  replace HP := Lib.hid (HP.out.under hbX)
  replace HE := Lib.hid (HE.out.under hbX)
  replace HB := Lib.hid (HB.out.trans (hbX.mono HB.out.size))
  clear hbX
  have h3 : (c ≠ 0 ∧ br1 = false) ∨ (c = 0 ∨ c ≠ 0 ∧ se1 = 0 ∧ da1 = ⟨#[]⟩ ∧ le1 = false ∧ br1 = true) := by
    by_cases hc : c = 0
    · exact .inr (.inl hc)
    cases hb : br1 with
    | false => exact .inl ⟨hc, rfl⟩
    | true =>
      have hzE := (HF.out.no hc).1
      simp only [E.mk.injEq] at hzE
      exact .inr (.inr ⟨hc, hzE.1, hzE.2.1, hzE.2.2, rfl⟩)
  rcases h3 with ⟨hc0, hbrf⟩ | hsm
  · have hzE := (HF.out.no hc0).1
    simp only [E.mk.injEq] at hzE
    obtain ⟨rfl, rfl, rfl⟩ := hzE
    have hqq := (HF.out.no hc0).2.resolve_right (by simp [hbrf])
    have hR2 : QRight ⟨⟨⟨fs1, dn1, fu1, fa1⟩, sz1, fr1, nx1, br1⟩, es1, mo1⟩ := by rw [show (⟨⟨⟨fs1, dn1, fu1, fa1⟩, sz1, fr1, nx1, br1⟩, es1, mo1⟩ : Q) = _ from hqq]; exact HR.out
    simp only [Q.mk.injEq, L.mk.injEq, D.mk.injEq] at hqq
    obtain ⟨⟨⟨rfl, rfl, rfl, rfl⟩, rfl, rfl, rfl, rfl⟩, rfl, rfl⟩ := hqq
    subst hbrf
    obtain ⟨d0, d1, d2, d3, d4, d5, d6, d7, d8, d9⟩ := box10 HP.out.h
    have hld := (Array.getElem?_eq_some_iff.1 HP.out.h).1
    go_upto_region 6 with (fail)
    refine wp_region_any (by kernel_rfl) ?_
    change wpAny _ _ _ _ _ _ _ w3.drew
    rw [Hx3.out]
    refine wpAny_ready (rs := [0]) (by kernel_rfl) (by simp) ?_
    refine AllReady.cons rfl (fun K hK => ?_) AllReady.nil
    go_simp
    refine hK _ _ ?_
    clear hK K
    refine wpAny_ready (rs := [1]) (by kernel_rfl) (by simp) ?_
    refine AllReady.cons rfl (fun K hK => ?_) AllReady.nil
    obtain ⟨d0, d1, d2, d3, d4, d5, d6, d7, d8, d9⟩ := box10 HP.out.h
    have hld := (Array.getElem?_eq_some_iff.1 HP.out.h).1
    go_simp
    go_at_call 18
    refine (qcheck_any X6 _ _ _ _ _ _ _ HP.out.i).mono ?_
    rintro e w5 ⟨er5, rfl, hc5, hb⟩
    obtain rfl : er5 = 0 := by
      rcases hc5 with ⟨_, h⟩ | ⟨h, _⟩
      · exact h
      · exact absurd hR2 h
    replace HV := Lib.hid (HV.out.under hb)
    replace HP := Lib.hid (HP.out.under hb)
    replace HE := Lib.hid (HE.out.under hb)
    replace HB := Lib.hid (HB.out.trans (hb.mono HB.out.size))
    clear hb
    clear d0 d1 d2 d3 d4 d5 d6 d7 d8 d9 hld
    obtain ⟨d0, d1, d2, d3, d4, d5, d6, d7, d8, d9⟩ := box10 HP.out.h
    have hld := (Array.getElem?_eq_some_iff.1 HP.out.h).1
    obtain ⟨c0, c1, c2, c3, c4, c5, c6, c7, c8, c9⟩ := box10 HV.out.h
    have hlc := (Array.getElem?_eq_some_iff.1 HV.out.h).1
    obtain ⟨x0, x1, x2⟩ := box3 HE.out
    have hlx := HE.out.lt
    refine hK _ _ ?_
    clear hK K
    refine tk 2 ?vs1 rfl (by kernel_rfl) (fun _ _ _ h => h) ?hs1 ?rs1
    case hs1 => (intro w; go_simp; first | done | (with_reducible rfl))
    refine tk 3 ?vs2 rfl (by kernel_rfl) (fun _ _ _ h => h) ?hs2 ?rs2
    case hs2 => (intro w; go_simp; first | done | (with_reducible rfl))
    refine tu 4 rfl (by kernel_rfl) (fun _ _ _ h => h) ?_
    refine tu 5 rfl (by kernel_rfl) (fun _ _ _ h => h) ?_
    refine tu 6 rfl (by kernel_rfl) (fun _ _ _ h => h) ?_
    refine tu 7 rfl (by kernel_rfl) (fun _ _ _ h => h) ?_
    refine tu 8 rfl (by kernel_rfl) (fun _ _ _ h => h) ?_
    refine tu 9 rfl (by kernel_rfl) (fun _ _ _ h => h) ?_
    refine tu 10 rfl (by kernel_rfl) (fun _ _ _ h => h) ?_
    refine tk 11 ?vs10 rfl (by kernel_rfl) (fun _ _ _ h => h) ?hs10 ?rs10
    case hs10 => (intro w; go_simp; first | done | (with_reducible rfl))
    refine tk 12 ?vs11 rfl (by kernel_rfl) (fun _ _ _ h => h) ?hs11 ?rs11
    case hs11 => (intro w; go_simp; first | done | (with_reducible rfl))
    refine tu 13 rfl (by kernel_rfl) (fun _ _ _ h => h) ?_
    refine tu 14 rfl (by kernel_rfl) (fun _ _ _ h => h) ?_
    refine tu 15 rfl (by kernel_rfl) (fun _ _ _ h => h) ?_
    refine tu 16 rfl (by kernel_rfl) (fun _ _ _ h => h) ?_
    refine tk 17 ?vs16 rfl (by kernel_rfl) (fun _ _ _ h => h) ?hs16 ?rs16
    case hs16 => (intro w; go_simp; first | done | (with_reducible rfl))
    refine tk 18 ?vs17 rfl (by kernel_rfl) (fun _ _ _ h => h) ?hs17 ?rs17
    case hs17 => (intro w; go_simp; first | done | (with_reducible rfl))
    refine tu 19 rfl (by kernel_rfl) (fun _ _ _ h => h) ?_
    refine tu 20 rfl (by kernel_rfl) (fun _ _ _ h => h) ?_
    refine tu 21 rfl (by kernel_rfl) (fun _ _ _ h => h) ?_
    refine tu 22 rfl (by kernel_rfl) (fun _ _ _ h => h) ?_
    refine tu 23 rfl (by kernel_rfl) (fun _ _ _ h => h) ?_
    refine tu 24 rfl (by kernel_rfl) (fun _ _ _ h => h) ?_
    refine tu 25 rfl (by kernel_rfl) (fun _ _ _ h => h) ?_
    refine tu 26 rfl (by kernel_rfl) (fun _ _ _ h => h) ?_
    refine tu 27 rfl (by kernel_rfl) (fun _ _ _ h => h) ?_
    refine tk 28 ?vs27 rfl (by kernel_rfl) (fun _ _ _ h => h) ?hs27 ?rs27
    case hs27 => (intro w; go_simp; first | done | (with_reducible rfl))
    refine wpAny_done (by kernel_rfl) ?_ _
    try go_simp
    go_wp2_with fail
    refine (qsame_yes w5 _ _ _ _ _ _ _ _ _ _ _ _ _ HP.out.i HV.out.i (by have h1 := HP.out.i.l.d.i.1; have h2 := (qright_len HR.out).1; simp only at h1 h2; omega) (by have h2 := (qright_len HR.out).2; have := HM1.out; simp only at h2; omega)).mono ?_
    rintro e w6 ⟨rfl, hb⟩
    replace HV := Lib.hid (HV.out.under hb)
    replace HP := Lib.hid (HP.out.under hb)
    replace HE := Lib.hid (HE.out.under hb)
    replace HB := Lib.hid (HB.out.trans (hb.mono HB.out.size))
    clear hb
    clear d0 d1 d2 d3 d4 d5 d6 d7 d8 d9 hld
    clear c0 c1 c2 c3 c4 c5 c6 c7 c8 c9 hlc
    clear x0 x1 x2 hlx
    obtain ⟨d0, d1, d2, d3, d4, d5, d6, d7, d8, d9⟩ := box10 HP.out.h
    have hld := (Array.getElem?_eq_some_iff.1 HP.out.h).1
    obtain ⟨c0, c1, c2, c3, c4, c5, c6, c7, c8, c9⟩ := box10 HV.out.h
    have hlc := (Array.getElem?_eq_some_iff.1 HV.out.h).1
    obtain ⟨x0, x1, x2⟩ := box3 HE.out
    have hlx := HE.out.lt
    by_cases hmx : (m : Int) < mo1 <;> (go_wp2; all_goals (go_ret; exact ⟨rfl, HB.out⟩))
  by_cases hR2 : QRight ⟨⟨⟨fs1, dn1, fu1, fa1⟩, sz1, fr1, nx1, br1⟩, es1, mo1⟩
  · obtain ⟨d0, d1, d2, d3, d4, d5, d6, d7, d8, d9⟩ := box10 HP.out.h
    have hld := (Array.getElem?_eq_some_iff.1 HP.out.h).1
    go_upto_region 6 with (fail)
    refine wp_region_any (by kernel_rfl) ?_
    change wpAny _ _ _ _ _ _ _ w3.drew
    rw [Hx3.out]
    refine wpAny_ready (rs := [0]) (by kernel_rfl) (by simp) ?_
    refine AllReady.cons rfl (fun K hK => ?_) AllReady.nil
    go_simp
    refine hK _ _ ?_
    clear hK K
    refine wpAny_ready (rs := [1]) (by kernel_rfl) (by simp) ?_
    refine AllReady.cons rfl (fun K hK => ?_) AllReady.nil
    obtain ⟨d0, d1, d2, d3, d4, d5, d6, d7, d8, d9⟩ := box10 HP.out.h
    have hld := (Array.getElem?_eq_some_iff.1 HP.out.h).1
    go_simp
    go_at_call 18
    refine (qcheck_any X6 _ _ _ _ _ _ _ HP.out.i).mono ?_
    rintro e w5 ⟨er5, rfl, hc5, hb⟩
    obtain rfl : er5 = 0 := by
      rcases hc5 with ⟨_, h⟩ | ⟨h, _⟩
      · exact h
      · exact absurd hR2 h
    replace HV := Lib.hid (HV.out.under hb)
    replace HP := Lib.hid (HP.out.under hb)
    replace HE := Lib.hid (HE.out.under hb)
    replace HB := Lib.hid (HB.out.trans (hb.mono HB.out.size))
    clear hb
    clear d0 d1 d2 d3 d4 d5 d6 d7 d8 d9 hld
    obtain ⟨d0, d1, d2, d3, d4, d5, d6, d7, d8, d9⟩ := box10 HP.out.h
    have hld := (Array.getElem?_eq_some_iff.1 HP.out.h).1
    obtain ⟨c0, c1, c2, c3, c4, c5, c6, c7, c8, c9⟩ := box10 HV.out.h
    have hlc := (Array.getElem?_eq_some_iff.1 HV.out.h).1
    obtain ⟨x0, x1, x2⟩ := box3 HE.out
    have hlx := HE.out.lt
    refine hK _ _ ?_
    clear hK K
    refine tk 2 ?va1 rfl (by kernel_rfl) (fun _ _ _ h => h) ?ha1 ?ra1
    case ha1 => (intro w; go_simp; first | done | (with_reducible rfl))
    refine tk 3 ?va2 rfl (by kernel_rfl) (fun _ _ _ h => h) ?ha2 ?ra2
    case ha2 => (intro w; go_simp; first | done | (with_reducible rfl))
    refine tu 4 rfl (by kernel_rfl) (fun _ _ _ h => h) ?_
    refine tu 5 rfl (by kernel_rfl) (fun _ _ _ h => h) ?_
    refine tu 6 rfl (by kernel_rfl) (fun _ _ _ h => h) ?_
    refine tu 7 rfl (by kernel_rfl) (fun _ _ _ h => h) ?_
    refine tu 8 rfl (by kernel_rfl) (fun _ _ _ h => h) ?_
    refine tu 9 rfl (by kernel_rfl) (fun _ _ _ h => h) ?_
    refine tu 10 rfl (by kernel_rfl) (fun _ _ _ h => h) ?_
    refine tk 11 ?va10 rfl (by kernel_rfl) (fun _ _ _ h => h) ?ha10 ?ra10
    case ha10 => (intro w; go_simp; first | done | (with_reducible rfl))
    refine tk 12 ?va11 rfl (by kernel_rfl) (fun _ _ _ h => h) ?ha11 ?ra11
    case ha11 => (intro w; go_simp; first | done | (with_reducible rfl))
    refine tu 13 rfl (by kernel_rfl) (fun _ _ _ h => h) ?_
    refine tu 14 rfl (by kernel_rfl) (fun _ _ _ h => h) ?_
    refine tu 15 rfl (by kernel_rfl) (fun _ _ _ h => h) ?_
    refine tu 16 rfl (by kernel_rfl) (fun _ _ _ h => h) ?_
    refine tk 17 ?va16 rfl (by kernel_rfl) (fun _ _ _ h => h) ?ha16 ?ra16
    case ha16 => (intro w; go_simp; first | done | (with_reducible rfl))
    refine tk 18 ?va17 rfl (by kernel_rfl) (fun _ _ _ h => h) ?ha17 ?ra17
    case ha17 => (intro w; go_simp; first | done | (with_reducible rfl))
    refine tu 19 rfl (by kernel_rfl) (fun _ _ _ h => h) ?_
    refine tu 20 rfl (by kernel_rfl) (fun _ _ _ h => h) ?_
    refine tu 21 rfl (by kernel_rfl) (fun _ _ _ h => h) ?_
    refine tu 22 rfl (by kernel_rfl) (fun _ _ _ h => h) ?_
    refine tu 23 rfl (by kernel_rfl) (fun _ _ _ h => h) ?_
    refine tu 24 rfl (by kernel_rfl) (fun _ _ _ h => h) ?_
    refine tu 25 rfl (by kernel_rfl) (fun _ _ _ h => h) ?_
    refine tu 26 rfl (by kernel_rfl) (fun _ _ _ h => h) ?_
    refine tu 27 rfl (by kernel_rfl) (fun _ _ _ h => h) ?_
    refine tk 28 ?va27 rfl (by kernel_rfl) (fun _ _ _ h => h) ?ha27 ?ra27
    case ha27 => (intro w; go_simp; first | done | (with_reducible rfl))
    refine wpAny_done (by kernel_rfl) ?_ _
    try go_simp
    rcases hsm with rfl | ⟨hc0, rfl, rfl, rfl, rfl⟩ <;> by_cases hmx : (m : Int) < mo <;> (go_wp2; all_goals (go_ret; exact ⟨rfl, HB.out⟩))
  have hRf : Right fs1 := HF.out.Rf
  by_cases hfn : fr1 ≤ nx1
  rotate_left
  · have hd1 : decide (fr1 ≤ nx1) = false := by simp [hfn]
    have hd1b : nx1 < fr1 := by omega
    obtain ⟨d0, d1, d2, d3, d4, d5, d6, d7, d8, d9⟩ := box10 HP.out.h
    have hld := (Array.getElem?_eq_some_iff.1 HP.out.h).1
    go_upto_region 6 with (fail)
    refine wp_region_any (by kernel_rfl) ?_
    change wpAny _ _ _ _ _ _ _ w3.drew
    rw [Hx3.out]
    refine wpAny_ready (rs := [0]) (by kernel_rfl) (by simp) ?_
    refine AllReady.cons rfl (fun K hK => ?_) AllReady.nil
    go_simp
    refine hK _ _ ?_
    clear hK K
    refine wpAny_ready (rs := [1]) (by kernel_rfl) (by simp) ?_
    refine AllReady.cons rfl (fun K hK => ?_) AllReady.nil
    obtain ⟨d0, d1, d2, d3, d4, d5, d6, d7, d8, d9⟩ := box10 HP.out.h
    have hld := (Array.getElem?_eq_some_iff.1 HP.out.h).1
    go_simp
    go_at_call 18
    refine (qcheck_any X6 _ _ _ _ _ _ _ HP.out.i).mono ?_
    rintro e w5 ⟨er5, rfl, hc5, hb⟩
    obtain rfl : er5 = 6 := by
      rcases hc5 with ⟨h, _⟩ | ⟨_, h⟩
      · exact absurd h hR2
      · exact h
    replace HV := Lib.hid (HV.out.under hb)
    replace HP := Lib.hid (HP.out.under hb)
    replace HE := Lib.hid (HE.out.under hb)
    replace HB := Lib.hid (HB.out.trans (hb.mono HB.out.size))
    clear hb
    clear d0 d1 d2 d3 d4 d5 d6 d7 d8 d9 hld
    obtain ⟨d0, d1, d2, d3, d4, d5, d6, d7, d8, d9⟩ := box10 HP.out.h
    have hld := (Array.getElem?_eq_some_iff.1 HP.out.h).1
    obtain ⟨c0, c1, c2, c3, c4, c5, c6, c7, c8, c9⟩ := box10 HV.out.h
    have hlc := (Array.getElem?_eq_some_iff.1 HV.out.h).1
    obtain ⟨x0, x1, x2⟩ := box3 HE.out
    have hlx := HE.out.lt
    refine hK _ _ ?_
    clear hK K
    refine tk 2 ?vb1 rfl (by kernel_rfl) (fun _ _ _ h => h) ?hb1 ?rb1
    case hb1 => (intro w; go_simp; first | done | (with_reducible rfl))
    refine tk 3 ?vb2 rfl (by kernel_rfl) (fun _ _ _ h => h) ?hb2 ?rb2
    case hb2 => (intro w; go_simp; first | done | (with_reducible rfl))
    refine tk 4 ?vb3 rfl (by kernel_rfl) (fun _ _ _ h => h) ?hb3 ?rb3
    case hb3 => (intro w; go_simp; first | done | (with_reducible rfl))
    refine tk 5 ?vb4 rfl (by kernel_rfl) (fun _ _ _ h => h) ?hb4 ?rb4
    case hb4 => (intro w; go_simp; first | done | (with_reducible rfl))
    refine tk 7 ?vb5 rfl (by kernel_rfl) (fun _ _ _ h => h) ?hb5 ?rb5
    case hb5 => (intro w; go_simp; first | done | (with_reducible rfl))
    refine tk 8 ?vb6 rfl (by kernel_rfl) (fun _ _ _ h => h) ?hb6 ?rb6
    case hb6 => (intro w; go_simp; first | done | (with_reducible rfl))
    refine wpAny_ready (rs := [6, 9]) (by kernel_rfl) (by simp) ?_
    refine AllReady.cons rfl (fun K hK => ?_) ?_
    · skip
      go_simp
      refine hK _ _ ?_
      clear hK K
      refine wpAny_ready (rs := [9]) (by kernel_rfl) (by simp) ?_
      refine AllReady.cons rfl (fun K hK => ?_) AllReady.nil
      go_simp
      refine hK _ _ ?_
      clear hK K
      refine tk 10 ?vb7 rfl (by kernel_rfl) (fun _ _ _ h => h) ?hb7 ?rb7
      case hb7 => (intro w; go_simp; first | done | (with_reducible rfl))
      refine tk 11 ?vb8 rfl (by kernel_rfl) (fun _ _ _ h => h) ?hb8 ?rb8
      case hb8 => (intro w; go_simp; first | done | (with_reducible rfl))
      refine tk 12 ?vb9 rfl (by kernel_rfl) (fun _ _ _ h => h) ?hb9 ?rb9
      case hb9 => (intro w; go_simp; first | done | (with_reducible rfl))
      refine tu 13 rfl (by kernel_rfl) (fun _ _ _ h => h) ?_
      refine tu 14 rfl (by kernel_rfl) (fun _ _ _ h => h) ?_
      refine tu 15 rfl (by kernel_rfl) (fun _ _ _ h => h) ?_
      refine tu 16 rfl (by kernel_rfl) (fun _ _ _ h => h) ?_
      refine tk 17 ?vb14 rfl (by kernel_rfl) (fun _ _ _ h => h) ?hb14 ?rb14
      case hb14 => (intro w; go_simp; first | done | (with_reducible rfl))
      refine tk 18 ?vb15 rfl (by kernel_rfl) (fun _ _ _ h => h) ?hb15 ?rb15
      case hb15 => (intro w; go_simp; first | done | (with_reducible rfl))
      refine tu 19 rfl (by kernel_rfl) (fun _ _ _ h => h) ?_
      refine tu 20 rfl (by kernel_rfl) (fun _ _ _ h => h) ?_
      refine tu 21 rfl (by kernel_rfl) (fun _ _ _ h => h) ?_
      refine tu 22 rfl (by kernel_rfl) (fun _ _ _ h => h) ?_
      refine tu 23 rfl (by kernel_rfl) (fun _ _ _ h => h) ?_
      refine tu 24 rfl (by kernel_rfl) (fun _ _ _ h => h) ?_
      refine tu 25 rfl (by kernel_rfl) (fun _ _ _ h => h) ?_
      refine tu 26 rfl (by kernel_rfl) (fun _ _ _ h => h) ?_
      refine tu 27 rfl (by kernel_rfl) (fun _ _ _ h => h) ?_
      refine tk 28 ?vb25 rfl (by kernel_rfl) (fun _ _ _ h => h) ?hb25 ?rb25
      case hb25 => (intro w; go_simp; first | done | (with_reducible rfl))
      refine wpAny_done (by kernel_rfl) ?_ _
      try go_simp
      rcases hsm with rfl | ⟨hc0, rfl, rfl, rfl, rfl⟩ <;> by_cases hmx : (m : Int) < mo <;> (go_wp2; all_goals (go_ret; exact ⟨rfl, HB.out⟩))
    refine AllReady.cons rfl (fun K hK => ?_) AllReady.nil
    go_simp
    refine hK _ _ ?_
    clear hK K
    refine wpAny_ready (rs := [6]) (by kernel_rfl) (by simp) ?_
    refine AllReady.cons rfl (fun K hK => ?_) AllReady.nil
    go_simp
    refine hK _ _ ?_
    clear hK K
    refine tk 10 ?vb26 rfl (by kernel_rfl) (fun _ _ _ h => h) ?hb26 ?rb26
    case hb26 => (intro w; go_simp; first | done | (with_reducible rfl))
    refine tk 11 ?vb27 rfl (by kernel_rfl) (fun _ _ _ h => h) ?hb27 ?rb27
    case hb27 => (intro w; go_simp; first | done | (with_reducible rfl))
    refine tk 12 ?vb28 rfl (by kernel_rfl) (fun _ _ _ h => h) ?hb28 ?rb28
    case hb28 => (intro w; go_simp; first | done | (with_reducible rfl))
    refine tu 13 rfl (by kernel_rfl) (fun _ _ _ h => h) ?_
    refine tu 14 rfl (by kernel_rfl) (fun _ _ _ h => h) ?_
    refine tu 15 rfl (by kernel_rfl) (fun _ _ _ h => h) ?_
    refine tu 16 rfl (by kernel_rfl) (fun _ _ _ h => h) ?_
    refine tk 17 ?vb33 rfl (by kernel_rfl) (fun _ _ _ h => h) ?hb33 ?rb33
    case hb33 => (intro w; go_simp; first | done | (with_reducible rfl))
    refine tk 18 ?vb34 rfl (by kernel_rfl) (fun _ _ _ h => h) ?hb34 ?rb34
    case hb34 => (intro w; go_simp; first | done | (with_reducible rfl))
    refine tu 19 rfl (by kernel_rfl) (fun _ _ _ h => h) ?_
    refine tu 20 rfl (by kernel_rfl) (fun _ _ _ h => h) ?_
    refine tu 21 rfl (by kernel_rfl) (fun _ _ _ h => h) ?_
    refine tu 22 rfl (by kernel_rfl) (fun _ _ _ h => h) ?_
    refine tu 23 rfl (by kernel_rfl) (fun _ _ _ h => h) ?_
    refine tu 24 rfl (by kernel_rfl) (fun _ _ _ h => h) ?_
    refine tu 25 rfl (by kernel_rfl) (fun _ _ _ h => h) ?_
    refine tu 26 rfl (by kernel_rfl) (fun _ _ _ h => h) ?_
    refine tu 27 rfl (by kernel_rfl) (fun _ _ _ h => h) ?_
    refine tk 28 ?vb44 rfl (by kernel_rfl) (fun _ _ _ h => h) ?hb44 ?rb44
    case hb44 => (intro w; go_simp; first | done | (with_reducible rfl))
    refine wpAny_done (by kernel_rfl) ?_ _
    try go_simp
    rcases hsm with rfl | ⟨hc0, rfl, rfl, rfl, rfl⟩ <;> by_cases hmx : (m : Int) < mo <;> (go_wp2; all_goals (go_ret; exact ⟨rfl, HB.out⟩))
  by_cases hes : es1 = []
  · subst hes
    obtain rfl : m1 = 0 := HM1.out.symm
    have hd1 : decide (fr1 ≤ nx1) = true := by simp [hfn]
    obtain ⟨d0, d1, d2, d3, d4, d5, d6, d7, d8, d9⟩ := box10 HP.out.h
    have hld := (Array.getElem?_eq_some_iff.1 HP.out.h).1
    go_upto_region 6 with (fail)
    refine wp_region_any (by kernel_rfl) ?_
    change wpAny _ _ _ _ _ _ _ w3.drew
    rw [Hx3.out]
    refine wpAny_ready (rs := [0]) (by kernel_rfl) (by simp) ?_
    refine AllReady.cons rfl (fun K hK => ?_) AllReady.nil
    go_simp
    refine hK _ _ ?_
    clear hK K
    refine wpAny_ready (rs := [1]) (by kernel_rfl) (by simp) ?_
    refine AllReady.cons rfl (fun K hK => ?_) AllReady.nil
    obtain ⟨d0, d1, d2, d3, d4, d5, d6, d7, d8, d9⟩ := box10 HP.out.h
    have hld := (Array.getElem?_eq_some_iff.1 HP.out.h).1
    go_simp
    go_at_call 18
    refine (qcheck_any X6 _ _ _ _ _ _ _ HP.out.i).mono ?_
    rintro e w5 ⟨er5, rfl, hc5, hb⟩
    obtain rfl : er5 = 6 := by
      rcases hc5 with ⟨h, _⟩ | ⟨_, h⟩
      · exact absurd h hR2
      · exact h
    replace HV := Lib.hid (HV.out.under hb)
    replace HP := Lib.hid (HP.out.under hb)
    replace HE := Lib.hid (HE.out.under hb)
    replace HB := Lib.hid (HB.out.trans (hb.mono HB.out.size))
    clear hb
    clear d0 d1 d2 d3 d4 d5 d6 d7 d8 d9 hld
    obtain ⟨d0, d1, d2, d3, d4, d5, d6, d7, d8, d9⟩ := box10 HP.out.h
    have hld := (Array.getElem?_eq_some_iff.1 HP.out.h).1
    obtain ⟨c0, c1, c2, c3, c4, c5, c6, c7, c8, c9⟩ := box10 HV.out.h
    have hlc := (Array.getElem?_eq_some_iff.1 HV.out.h).1
    obtain ⟨x0, x1, x2⟩ := box3 HE.out
    have hlx := HE.out.lt
    refine hK _ _ ?_
    clear hK K
    refine tk 2 ?vc1 rfl (by kernel_rfl) (fun _ _ _ h => h) ?hc1 ?rc1
    case hc1 => (intro w; go_simp; first | done | (with_reducible rfl))
    refine tk 3 ?vc2 rfl (by kernel_rfl) (fun _ _ _ h => h) ?hc2 ?rc2
    case hc2 => (intro w; go_simp; first | done | (with_reducible rfl))
    refine tk 4 ?vc3 rfl (by kernel_rfl) (fun _ _ _ h => h) ?hc3 ?rc3
    case hc3 => (intro w; go_simp; first | done | (with_reducible rfl))
    refine tk 5 ?vc4 rfl (by kernel_rfl) (fun _ _ _ h => h) ?hc4 ?rc4
    case hc4 => (intro w; go_simp; first | done | (with_reducible rfl))
    refine tk 7 ?vc5 rfl (by kernel_rfl) (fun _ _ _ h => h) ?hc5 ?rc5
    case hc5 => (intro w; go_simp; first | done | (with_reducible rfl))
    refine tk 8 ?vc6 rfl (by kernel_rfl) (fun _ _ _ h => h) ?hc6 ?rc6
    case hc6 => (intro w; go_simp; first | done | (with_reducible rfl))
    refine wpAny_ready (rs := [6, 9]) (by kernel_rfl) (by simp) ?_
    refine AllReady.cons rfl (fun K hK => ?_) ?_
    · skip
      go_simp
      refine hK _ _ ?_
      clear hK K
      refine wpAny_ready (rs := [9]) (by kernel_rfl) (by simp) ?_
      refine AllReady.cons rfl (fun K hK => ?_) AllReady.nil
      go_simp
      refine hK _ _ ?_
      clear hK K
      refine tk 10 ?vc7 rfl (by kernel_rfl) (fun _ _ _ h => h) ?hc7 ?rc7
      case hc7 => (intro w; go_simp; first | done | (with_reducible rfl))
      refine tk 11 ?vc8 rfl (by kernel_rfl) (fun _ _ _ h => h) ?hc8 ?rc8
      case hc8 => (intro w; go_simp; first | done | (with_reducible rfl))
      refine tk 12 ?vc9 rfl (by kernel_rfl) (fun _ _ _ h => h) ?hc9 ?rc9
      case hc9 => (intro w; go_simp; first | done | (with_reducible rfl))
      refine tk 13 ?vc10 rfl (by kernel_rfl) (fun _ _ _ h => h) ?hc10 ?rc10
      case hc10 => (intro w; go_simp; first | done | (with_reducible rfl))
      refine wpAny_ready (rs := [14]) (by kernel_rfl) (by simp) ?_
      refine AllReady.cons rfl (fun K hK => ?_) AllReady.nil
      go_simp
      refine hK _ _ ?_
      clear hK K
      refine tk 15 ?vc11 rfl (by kernel_rfl) (fun _ _ _ h => h) ?hc11 ?rc11
      case hc11 => (intro w; go_simp; first | done | (with_reducible rfl))
      refine tk 16 ?vc12 rfl (by kernel_rfl) (fun _ _ _ h => h) ?hc12 ?rc12
      case hc12 => (intro w; go_simp; first | done | (with_reducible rfl))
      refine tk 17 ?vc13 rfl (by kernel_rfl) (fun _ _ _ h => h) ?hc13 ?rc13
      case hc13 => (intro w; go_simp; first | done | (with_reducible rfl))
      refine tk 18 ?vc14 rfl (by kernel_rfl) (fun _ _ _ h => h) ?hc14 ?rc14
      case hc14 => (intro w; go_simp; first | done | (with_reducible rfl))
      refine tu 19 rfl (by kernel_rfl) (fun _ _ _ h => h) ?_
      refine tu 20 rfl (by kernel_rfl) (fun _ _ _ h => h) ?_
      refine tu 21 rfl (by kernel_rfl) (fun _ _ _ h => h) ?_
      refine tu 22 rfl (by kernel_rfl) (fun _ _ _ h => h) ?_
      refine tu 23 rfl (by kernel_rfl) (fun _ _ _ h => h) ?_
      refine tu 24 rfl (by kernel_rfl) (fun _ _ _ h => h) ?_
      refine tu 25 rfl (by kernel_rfl) (fun _ _ _ h => h) ?_
      refine tu 26 rfl (by kernel_rfl) (fun _ _ _ h => h) ?_
      refine tu 27 rfl (by kernel_rfl) (fun _ _ _ h => h) ?_
      refine tk 28 ?vc24 rfl (by kernel_rfl) (fun _ _ _ h => h) ?hc24 ?rc24
      case hc24 => (intro w; go_simp; first | done | (with_reducible rfl))
      refine wpAny_done (by kernel_rfl) ?_ _
      try go_simp
      rcases hsm with rfl | ⟨hc0, rfl, rfl, rfl, rfl⟩ <;> by_cases hmx : (m : Int) < mo <;> (go_wp2; all_goals (go_ret; exact ⟨rfl, HB.out⟩))
    refine AllReady.cons rfl (fun K hK => ?_) AllReady.nil
    go_simp
    refine hK _ _ ?_
    clear hK K
    refine wpAny_ready (rs := [6]) (by kernel_rfl) (by simp) ?_
    refine AllReady.cons rfl (fun K hK => ?_) AllReady.nil
    go_simp
    refine hK _ _ ?_
    clear hK K
    refine tk 10 ?vc25 rfl (by kernel_rfl) (fun _ _ _ h => h) ?hc25 ?rc25
    case hc25 => (intro w; go_simp; first | done | (with_reducible rfl))
    refine tk 11 ?vc26 rfl (by kernel_rfl) (fun _ _ _ h => h) ?hc26 ?rc26
    case hc26 => (intro w; go_simp; first | done | (with_reducible rfl))
    refine tk 12 ?vc27 rfl (by kernel_rfl) (fun _ _ _ h => h) ?hc27 ?rc27
    case hc27 => (intro w; go_simp; first | done | (with_reducible rfl))
    refine tk 13 ?vc28 rfl (by kernel_rfl) (fun _ _ _ h => h) ?hc28 ?rc28
    case hc28 => (intro w; go_simp; first | done | (with_reducible rfl))
    refine wpAny_ready (rs := [14]) (by kernel_rfl) (by simp) ?_
    refine AllReady.cons rfl (fun K hK => ?_) AllReady.nil
    go_simp
    refine hK _ _ ?_
    clear hK K
    refine tk 15 ?vc29 rfl (by kernel_rfl) (fun _ _ _ h => h) ?hc29 ?rc29
    case hc29 => (intro w; go_simp; first | done | (with_reducible rfl))
    refine tk 16 ?vc30 rfl (by kernel_rfl) (fun _ _ _ h => h) ?hc30 ?rc30
    case hc30 => (intro w; go_simp; first | done | (with_reducible rfl))
    refine tk 17 ?vc31 rfl (by kernel_rfl) (fun _ _ _ h => h) ?hc31 ?rc31
    case hc31 => (intro w; go_simp; first | done | (with_reducible rfl))
    refine tk 18 ?vc32 rfl (by kernel_rfl) (fun _ _ _ h => h) ?hc32 ?rc32
    case hc32 => (intro w; go_simp; first | done | (with_reducible rfl))
    refine tu 19 rfl (by kernel_rfl) (fun _ _ _ h => h) ?_
    refine tu 20 rfl (by kernel_rfl) (fun _ _ _ h => h) ?_
    refine tu 21 rfl (by kernel_rfl) (fun _ _ _ h => h) ?_
    refine tu 22 rfl (by kernel_rfl) (fun _ _ _ h => h) ?_
    refine tu 23 rfl (by kernel_rfl) (fun _ _ _ h => h) ?_
    refine tu 24 rfl (by kernel_rfl) (fun _ _ _ h => h) ?_
    refine tu 25 rfl (by kernel_rfl) (fun _ _ _ h => h) ?_
    refine tu 26 rfl (by kernel_rfl) (fun _ _ _ h => h) ?_
    refine tu 27 rfl (by kernel_rfl) (fun _ _ _ h => h) ?_
    refine tk 28 ?vc42 rfl (by kernel_rfl) (fun _ _ _ h => h) ?hc42 ?rc42
    case hc42 => (intro w; go_simp; first | done | (with_reducible rfl))
    refine wpAny_done (by kernel_rfl) ?_ _
    try go_simp
    rcases hsm with rfl | ⟨hc0, rfl, rfl, rfl, rfl⟩ <;> by_cases hmx : (m : Int) < mo <;> (go_wp2; all_goals (go_ret; exact ⟨rfl, HB.out⟩))
  · obtain ⟨e0, t0, rfl⟩ : ∃ e t, es1 = e :: t := by
      cases hx : es1 with
      | nil => exact absurd hx hes
      | cons e t => exact ⟨e, t, rfl⟩
    have hsq : (e0.seq : Int) < fr1 := by
      rcases Int.lt_trichotomy (e0.seq : Int) fr1 with h | h | h
      · exact h
      · have hle : fr1.toNat ≤ e0.seq := by omega
        exact absurd (HF.out.R hfn (sort_ge HSo.out rfl hle)) hR2
      · have hle : fr1.toNat ≤ e0.seq := by omega
        exact absurd (HF.out.R hfn (sort_ge HSo.out rfl hle)) hR2
    have hm1 : 0 < m1 := by have := HM1.out; simp at this; omega
    have hm1I : (0 : Int) < (m1 : Int) := by omega
    have hd1 : decide (fr1 ≤ nx1) = true := by simp [hfn]
    have hd2 : decide ((0 : Int) < (m1 : Int)) = true := by simp [hm1]
    have hd3 : decide (fr1 ≤ (e0.seq : Int)) = false := by simp; omega
    obtain ⟨ge, oe, rfl, hat, _, _⟩ := els_first HP.out.i.e.2.2.2
    have HAt := Lib.hid hat
    clear hat
    obtain ⟨d0, d1, d2, d3, d4, d5, d6, d7, d8, d9⟩ := box10 HP.out.h
    have hld := (Array.getElem?_eq_some_iff.1 HP.out.h).1
    go_upto_region 6 with (fail)
    refine wp_region_any (by kernel_rfl) ?_
    change wpAny _ _ _ _ _ _ _ w3.drew
    rw [Hx3.out]
    refine wpAny_ready (rs := [0]) (by kernel_rfl) (by simp) ?_
    refine AllReady.cons rfl (fun K hK => ?_) AllReady.nil
    go_simp
    refine hK _ _ ?_
    clear hK K
    refine wpAny_ready (rs := [1]) (by kernel_rfl) (by simp) ?_
    refine AllReady.cons rfl (fun K hK => ?_) AllReady.nil
    obtain ⟨d0, d1, d2, d3, d4, d5, d6, d7, d8, d9⟩ := box10 HP.out.h
    have hld := (Array.getElem?_eq_some_iff.1 HP.out.h).1
    go_simp
    go_at_call 18
    refine (qcheck_any X6 _ _ _ _ _ _ _ HP.out.i).mono ?_
    rintro e w5 ⟨er5, rfl, hc5, hb⟩
    obtain rfl : er5 = 6 := by
      rcases hc5 with ⟨h, _⟩ | ⟨_, h⟩
      · exact absurd h hR2
      · exact h
    replace HV := Lib.hid (HV.out.under hb)
    replace HAt := Lib.hid (HAt.out.under hb)
    replace HP := Lib.hid (HP.out.under hb)
    replace HE := Lib.hid (HE.out.under hb)
    replace HB := Lib.hid (HB.out.trans (hb.mono HB.out.size))
    clear hb
    clear d0 d1 d2 d3 d4 d5 d6 d7 d8 d9 hld
    obtain ⟨d0, d1, d2, d3, d4, d5, d6, d7, d8, d9⟩ := box10 HP.out.h
    have hld := (Array.getElem?_eq_some_iff.1 HP.out.h).1
    obtain ⟨c0, c1, c2, c3, c4, c5, c6, c7, c8, c9⟩ := box10 HV.out.h
    have hlc := (Array.getElem?_eq_some_iff.1 HV.out.h).1
    obtain ⟨x0, x1, x2⟩ := box3 HE.out
    have hlx := HE.out.lt
    obtain ⟨hge, hat⟩ := HAt.out
    refine hK _ _ ?_
    clear hK K
    refine tk 2 ?vd1 rfl (by kernel_rfl) (fun _ _ _ h => h) ?hd1 ?rd1
    case hd1 => (intro w; go_simp; first | done | (with_reducible rfl))
    refine tk 3 ?vd2 rfl (by kernel_rfl) (fun _ _ _ h => h) ?hd2 ?rd2
    case hd2 => (intro w; go_simp; first | done | (with_reducible rfl))
    refine tk 4 ?vd3 rfl (by kernel_rfl) (fun _ _ _ h => h) ?hd3 ?rd3
    case hd3 => (intro w; go_simp; first | done | (with_reducible rfl))
    refine tk 5 ?vd4 rfl (by kernel_rfl) (fun _ _ _ h => h) ?hd4 ?rd4
    case hd4 => (intro w; go_simp; first | done | (with_reducible rfl))
    refine tk 7 ?vd5 rfl (by kernel_rfl) (fun _ _ _ h => h) ?hd5 ?rd5
    case hd5 => (intro w; go_simp; first | done | (with_reducible rfl))
    refine tk 8 ?vd6 rfl (by kernel_rfl) (fun _ _ _ h => h) ?hd6 ?rd6
    case hd6 => (intro w; go_simp; first | done | (with_reducible rfl))
    refine wpAny_ready (rs := [6, 9]) (by kernel_rfl) (by simp) ?_
    refine AllReady.cons rfl (fun K hK => ?_) ?_
    · skip
      go_simp
      refine hK _ _ ?_
      clear hK K
      refine wpAny_ready (rs := [9]) (by kernel_rfl) (by simp) ?_
      refine AllReady.cons rfl (fun K hK => ?_) AllReady.nil
      go_simp
      refine hK _ _ ?_
      clear hK K
      refine tk 10 ?vd7 rfl (by kernel_rfl) (fun _ _ _ h => h) ?hd7 ?rd7
      case hd7 => (intro w; go_simp; first | done | (with_reducible rfl))
      refine tk 11 ?vd8 rfl (by kernel_rfl) (fun _ _ _ h => h) ?hd8 ?rd8
      case hd8 => (intro w; go_simp; first | done | (with_reducible rfl))
      refine tk 12 ?vd9 rfl (by kernel_rfl) (fun _ _ _ h => h) ?hd9 ?rd9
      case hd9 => (intro w; go_simp; first | done | (with_reducible rfl))
      refine tk 13 ?vd10 rfl (by kernel_rfl) (fun _ _ _ h => h) ?hd10 ?rd10
      case hd10 => (intro w; go_simp; first | done | (with_reducible rfl))
      refine wpAny_ready (rs := [14]) (by kernel_rfl) (by simp) ?_
      refine AllReady.cons rfl (fun K hK => ?_) AllReady.nil
      go_simp
      refine hK _ _ ?_
      clear hK K
      refine tk 15 ?vd11 rfl (by kernel_rfl) (fun _ _ _ h => h) ?hd11 ?rd11
      case hd11 => (intro w; go_simp; first | done | (with_reducible rfl))
      refine tk 16 ?vd12 rfl (by kernel_rfl) (fun _ _ _ h => h) ?hd12 ?rd12
      case hd12 => (intro w; go_simp; first | done | (with_reducible rfl))
      refine tk 17 ?vd13 rfl (by kernel_rfl) (fun _ _ _ h => h) ?hd13 ?rd13
      case hd13 => (intro w; go_simp; first | done | (with_reducible rfl))
      refine tk 18 ?vd14 rfl (by kernel_rfl) (fun _ _ _ h => h) ?hd14 ?rd14
      case hd14 => (intro w; go_simp; first | done | (with_reducible rfl))
      refine tk 19 ?vd15 rfl (by kernel_rfl) (fun _ _ _ h => h) ?hd15 ?rd15
      case hd15 => (intro w; go_simp; first | done | (with_reducible rfl))
      refine tk 24 ?vd16 rfl (by kernel_rfl) (fun _ _ _ h => h) ?hd16 ?rd16
      case hd16 => (intro w; go_simp; first | done | (with_reducible rfl))
      refine tk 25 ?vd17 rfl (by kernel_rfl) (fun _ _ _ h => h) ?hd17 ?rd17
      case hd17 => (intro w; go_simp; first | done | (with_reducible rfl))
      refine wpAny_ready (rs := [20, 26]) (by kernel_rfl) (by simp) ?_
      refine AllReady.cons rfl (fun K hK => ?_) ?_
      · skip
        go_simp
        refine hK _ _ ?_
        clear hK K
        refine wpAny_ready (rs := [21, 26]) (by kernel_rfl) (by simp) ?_
        refine AllReady.cons rfl (fun K hK => ?_) ?_
        · skip
          go_simp
          refine hK _ _ ?_
          clear hK K
          refine tk 22 ?vd18 rfl (by kernel_rfl) (fun _ _ _ h => h) ?hd18 ?rd18
          case hd18 => (intro w; go_simp; first | done | (with_reducible rfl))
          refine wpAny_ready (rs := [23, 26]) (by kernel_rfl) (by simp) ?_
          refine AllReady.cons rfl (fun K hK => ?_) ?_
          · skip
            go_simp
            refine hK _ _ ?_
            clear hK K
            refine wpAny_ready (rs := [26]) (by kernel_rfl) (by simp) ?_
            refine AllReady.cons rfl (fun K hK => ?_) AllReady.nil
            go_simp
            refine hK _ _ ?_
            clear hK K
            refine tk 27 ?vd19 rfl (by kernel_rfl) (fun _ _ _ h => h) ?hd19 ?rd19
            case hd19 => (intro w; go_simp; first | done | (with_reducible rfl))
            refine tk 28 ?vd20 rfl (by kernel_rfl) (fun _ _ _ h => h) ?hd20 ?rd20
            case hd20 => (intro w; go_simp; first | done | (with_reducible rfl))
            refine wpAny_done (by kernel_rfl) ?_ _
            try go_simp
            rcases hsm with rfl | ⟨hc0, rfl, rfl, rfl, rfl⟩ <;> by_cases hmx : (m : Int) < mo <;> (go_wp2; all_goals (go_ret; exact ⟨rfl, HB.out⟩))
          refine AllReady.cons rfl (fun K hK => ?_) AllReady.nil
          go_simp
          refine hK _ _ ?_
          clear hK K
          refine wpAny_ready (rs := [23]) (by kernel_rfl) (by simp) ?_
          refine AllReady.cons rfl (fun K hK => ?_) AllReady.nil
          go_simp
          refine hK _ _ ?_
          clear hK K
          refine tk 27 ?vd21 rfl (by kernel_rfl) (fun _ _ _ h => h) ?hd21 ?rd21
          case hd21 => (intro w; go_simp; first | done | (with_reducible rfl))
          refine tk 28 ?vd22 rfl (by kernel_rfl) (fun _ _ _ h => h) ?hd22 ?rd22
          case hd22 => (intro w; go_simp; first | done | (with_reducible rfl))
          refine wpAny_done (by kernel_rfl) ?_ _
          try go_simp
          rcases hsm with rfl | ⟨hc0, rfl, rfl, rfl, rfl⟩ <;> by_cases hmx : (m : Int) < mo <;> (go_wp2; all_goals (go_ret; exact ⟨rfl, HB.out⟩))
        refine AllReady.cons rfl (fun K hK => ?_) AllReady.nil
        go_simp
        refine hK _ _ ?_
        clear hK K
        refine wpAny_ready (rs := [21]) (by kernel_rfl) (by simp) ?_
        refine AllReady.cons rfl (fun K hK => ?_) AllReady.nil
        go_simp
        refine hK _ _ ?_
        clear hK K
        refine tk 22 ?vd23 rfl (by kernel_rfl) (fun _ _ _ h => h) ?hd23 ?rd23
        case hd23 => (intro w; go_simp; first | done | (with_reducible rfl))
        refine wpAny_ready (rs := [23]) (by kernel_rfl) (by simp) ?_
        refine AllReady.cons rfl (fun K hK => ?_) AllReady.nil
        go_simp
        refine hK _ _ ?_
        clear hK K
        refine tk 27 ?vd24 rfl (by kernel_rfl) (fun _ _ _ h => h) ?hd24 ?rd24
        case hd24 => (intro w; go_simp; first | done | (with_reducible rfl))
        refine tk 28 ?vd25 rfl (by kernel_rfl) (fun _ _ _ h => h) ?hd25 ?rd25
        case hd25 => (intro w; go_simp; first | done | (with_reducible rfl))
        refine wpAny_done (by kernel_rfl) ?_ _
        try go_simp
        rcases hsm with rfl | ⟨hc0, rfl, rfl, rfl, rfl⟩ <;> by_cases hmx : (m : Int) < mo <;> (go_wp2; all_goals (go_ret; exact ⟨rfl, HB.out⟩))
      refine AllReady.cons rfl (fun K hK => ?_) AllReady.nil
      go_simp
      refine hK _ _ ?_
      clear hK K
      refine wpAny_ready (rs := [20]) (by kernel_rfl) (by simp) ?_
      refine AllReady.cons rfl (fun K hK => ?_) AllReady.nil
      go_simp
      refine hK _ _ ?_
      clear hK K
      refine wpAny_ready (rs := [21]) (by kernel_rfl) (by simp) ?_
      refine AllReady.cons rfl (fun K hK => ?_) AllReady.nil
      go_simp
      refine hK _ _ ?_
      clear hK K
      refine tk 22 ?vd26 rfl (by kernel_rfl) (fun _ _ _ h => h) ?hd26 ?rd26
      case hd26 => (intro w; go_simp; first | done | (with_reducible rfl))
      refine wpAny_ready (rs := [23]) (by kernel_rfl) (by simp) ?_
      refine AllReady.cons rfl (fun K hK => ?_) AllReady.nil
      go_simp
      refine hK _ _ ?_
      clear hK K
      refine tk 27 ?vd27 rfl (by kernel_rfl) (fun _ _ _ h => h) ?hd27 ?rd27
      case hd27 => (intro w; go_simp; first | done | (with_reducible rfl))
      refine tk 28 ?vd28 rfl (by kernel_rfl) (fun _ _ _ h => h) ?hd28 ?rd28
      case hd28 => (intro w; go_simp; first | done | (with_reducible rfl))
      refine wpAny_done (by kernel_rfl) ?_ _
      try go_simp
      rcases hsm with rfl | ⟨hc0, rfl, rfl, rfl, rfl⟩ <;> by_cases hmx : (m : Int) < mo <;> (go_wp2; all_goals (go_ret; exact ⟨rfl, HB.out⟩))
    refine AllReady.cons rfl (fun K hK => ?_) AllReady.nil
    go_simp
    refine hK _ _ ?_
    clear hK K
    refine wpAny_ready (rs := [6]) (by kernel_rfl) (by simp) ?_
    refine AllReady.cons rfl (fun K hK => ?_) AllReady.nil
    go_simp
    refine hK _ _ ?_
    clear hK K
    refine tk 10 ?vd29 rfl (by kernel_rfl) (fun _ _ _ h => h) ?hd29 ?rd29
    case hd29 => (intro w; go_simp; first | done | (with_reducible rfl))
    refine tk 11 ?vd30 rfl (by kernel_rfl) (fun _ _ _ h => h) ?hd30 ?rd30
    case hd30 => (intro w; go_simp; first | done | (with_reducible rfl))
    refine tk 12 ?vd31 rfl (by kernel_rfl) (fun _ _ _ h => h) ?hd31 ?rd31
    case hd31 => (intro w; go_simp; first | done | (with_reducible rfl))
    refine tk 13 ?vd32 rfl (by kernel_rfl) (fun _ _ _ h => h) ?hd32 ?rd32
    case hd32 => (intro w; go_simp; first | done | (with_reducible rfl))
    refine wpAny_ready (rs := [14]) (by kernel_rfl) (by simp) ?_
    refine AllReady.cons rfl (fun K hK => ?_) AllReady.nil
    go_simp
    refine hK _ _ ?_
    clear hK K
    refine tk 15 ?vd33 rfl (by kernel_rfl) (fun _ _ _ h => h) ?hd33 ?rd33
    case hd33 => (intro w; go_simp; first | done | (with_reducible rfl))
    refine tk 16 ?vd34 rfl (by kernel_rfl) (fun _ _ _ h => h) ?hd34 ?rd34
    case hd34 => (intro w; go_simp; first | done | (with_reducible rfl))
    refine tk 17 ?vd35 rfl (by kernel_rfl) (fun _ _ _ h => h) ?hd35 ?rd35
    case hd35 => (intro w; go_simp; first | done | (with_reducible rfl))
    refine tk 18 ?vd36 rfl (by kernel_rfl) (fun _ _ _ h => h) ?hd36 ?rd36
    case hd36 => (intro w; go_simp; first | done | (with_reducible rfl))
    refine tk 19 ?vd37 rfl (by kernel_rfl) (fun _ _ _ h => h) ?hd37 ?rd37
    case hd37 => (intro w; go_simp; first | done | (with_reducible rfl))
    refine tk 24 ?vd38 rfl (by kernel_rfl) (fun _ _ _ h => h) ?hd38 ?rd38
    case hd38 => (intro w; go_simp; first | done | (with_reducible rfl))
    refine tk 25 ?vd39 rfl (by kernel_rfl) (fun _ _ _ h => h) ?hd39 ?rd39
    case hd39 => (intro w; go_simp; first | done | (with_reducible rfl))
    refine wpAny_ready (rs := [20, 26]) (by kernel_rfl) (by simp) ?_
    refine AllReady.cons rfl (fun K hK => ?_) ?_
    · skip
      go_simp
      refine hK _ _ ?_
      clear hK K
      refine wpAny_ready (rs := [21, 26]) (by kernel_rfl) (by simp) ?_
      refine AllReady.cons rfl (fun K hK => ?_) ?_
      · skip
        go_simp
        refine hK _ _ ?_
        clear hK K
        refine tk 22 ?vd40 rfl (by kernel_rfl) (fun _ _ _ h => h) ?hd40 ?rd40
        case hd40 => (intro w; go_simp; first | done | (with_reducible rfl))
        refine wpAny_ready (rs := [23, 26]) (by kernel_rfl) (by simp) ?_
        refine AllReady.cons rfl (fun K hK => ?_) ?_
        · skip
          go_simp
          refine hK _ _ ?_
          clear hK K
          refine wpAny_ready (rs := [26]) (by kernel_rfl) (by simp) ?_
          refine AllReady.cons rfl (fun K hK => ?_) AllReady.nil
          go_simp
          refine hK _ _ ?_
          clear hK K
          refine tk 27 ?vd41 rfl (by kernel_rfl) (fun _ _ _ h => h) ?hd41 ?rd41
          case hd41 => (intro w; go_simp; first | done | (with_reducible rfl))
          refine tk 28 ?vd42 rfl (by kernel_rfl) (fun _ _ _ h => h) ?hd42 ?rd42
          case hd42 => (intro w; go_simp; first | done | (with_reducible rfl))
          refine wpAny_done (by kernel_rfl) ?_ _
          try go_simp
          rcases hsm with rfl | ⟨hc0, rfl, rfl, rfl, rfl⟩ <;> by_cases hmx : (m : Int) < mo <;> (go_wp2; all_goals (go_ret; exact ⟨rfl, HB.out⟩))
        refine AllReady.cons rfl (fun K hK => ?_) AllReady.nil
        go_simp
        refine hK _ _ ?_
        clear hK K
        refine wpAny_ready (rs := [23]) (by kernel_rfl) (by simp) ?_
        refine AllReady.cons rfl (fun K hK => ?_) AllReady.nil
        go_simp
        refine hK _ _ ?_
        clear hK K
        refine tk 27 ?vd43 rfl (by kernel_rfl) (fun _ _ _ h => h) ?hd43 ?rd43
        case hd43 => (intro w; go_simp; first | done | (with_reducible rfl))
        refine tk 28 ?vd44 rfl (by kernel_rfl) (fun _ _ _ h => h) ?hd44 ?rd44
        case hd44 => (intro w; go_simp; first | done | (with_reducible rfl))
        refine wpAny_done (by kernel_rfl) ?_ _
        try go_simp
        rcases hsm with rfl | ⟨hc0, rfl, rfl, rfl, rfl⟩ <;> by_cases hmx : (m : Int) < mo <;> (go_wp2; all_goals (go_ret; exact ⟨rfl, HB.out⟩))
      refine AllReady.cons rfl (fun K hK => ?_) AllReady.nil
      go_simp
      refine hK _ _ ?_
      clear hK K
      refine wpAny_ready (rs := [21]) (by kernel_rfl) (by simp) ?_
      refine AllReady.cons rfl (fun K hK => ?_) AllReady.nil
      go_simp
      refine hK _ _ ?_
      clear hK K
      refine tk 22 ?vd45 rfl (by kernel_rfl) (fun _ _ _ h => h) ?hd45 ?rd45
      case hd45 => (intro w; go_simp; first | done | (with_reducible rfl))
      refine wpAny_ready (rs := [23]) (by kernel_rfl) (by simp) ?_
      refine AllReady.cons rfl (fun K hK => ?_) AllReady.nil
      go_simp
      refine hK _ _ ?_
      clear hK K
      refine tk 27 ?vd46 rfl (by kernel_rfl) (fun _ _ _ h => h) ?hd46 ?rd46
      case hd46 => (intro w; go_simp; first | done | (with_reducible rfl))
      refine tk 28 ?vd47 rfl (by kernel_rfl) (fun _ _ _ h => h) ?hd47 ?rd47
      case hd47 => (intro w; go_simp; first | done | (with_reducible rfl))
      refine wpAny_done (by kernel_rfl) ?_ _
      try go_simp
      rcases hsm with rfl | ⟨hc0, rfl, rfl, rfl, rfl⟩ <;> by_cases hmx : (m : Int) < mo <;> (go_wp2; all_goals (go_ret; exact ⟨rfl, HB.out⟩))
    refine AllReady.cons rfl (fun K hK => ?_) AllReady.nil
    go_simp
    refine hK _ _ ?_
    clear hK K
    refine wpAny_ready (rs := [20]) (by kernel_rfl) (by simp) ?_
    refine AllReady.cons rfl (fun K hK => ?_) AllReady.nil
    go_simp
    refine hK _ _ ?_
    clear hK K
    refine wpAny_ready (rs := [21]) (by kernel_rfl) (by simp) ?_
    refine AllReady.cons rfl (fun K hK => ?_) AllReady.nil
    go_simp
    refine hK _ _ ?_
    clear hK K
    refine tk 22 ?vd48 rfl (by kernel_rfl) (fun _ _ _ h => h) ?hd48 ?rd48
    case hd48 => (intro w; go_simp; first | done | (with_reducible rfl))
    refine wpAny_ready (rs := [23]) (by kernel_rfl) (by simp) ?_
    refine AllReady.cons rfl (fun K hK => ?_) AllReady.nil
    go_simp
    refine hK _ _ ?_
    clear hK K
    refine tk 27 ?vd49 rfl (by kernel_rfl) (fun _ _ _ h => h) ?hd49 ?rd49
    case hd49 => (intro w; go_simp; first | done | (with_reducible rfl))
    refine tk 28 ?vd50 rfl (by kernel_rfl) (fun _ _ _ h => h) ?hd50 ?rd50
    case hd50 => (intro w; go_simp; first | done | (with_reducible rfl))
    refine wpAny_done (by kernel_rfl) ?_ _
    try go_simp
    rcases hsm with rfl | ⟨hc0, rfl, rfl, rfl, rfl⟩ <;> by_cases hmx : (m : Int) < mo <;> (go_wp2; all_goals (go_ret; exact ⟨rfl, HB.out⟩))
end Go.Proofs.YtlgbehagflnfgaaGreatDoor
