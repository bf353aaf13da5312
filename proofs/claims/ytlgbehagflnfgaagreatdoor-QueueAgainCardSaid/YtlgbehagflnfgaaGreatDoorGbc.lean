/- QUEUE, MATHEMATICS: a queue that was opened, opened again. -/
import Derived.Test.YtlgbehagflnfgaaGreatDoorGba
namespace Go.Proofs.YtlgbehagflnfgaaGreatDoor
open Go.RowKit
set_option maxRecDepth 100000
set_option linter.unusedVariables false
set_option linter.unusedSimpArgs false

theorem openQ_err {d : D} {size most : Int} {a : Q} {c : Int} (h : openQ d size most = (a, c)) (hc : c ≠ 0) : a.es = [] := by
  unfold openQ at h
  split at h
  · injection h with h1 h2; rw [← h1]; rfl
  split at h
  · injection h with h1 h2; rw [← h1]; rfl
  split at h
  · injection h with h1 h2
    rw [← h1]
    unfold unop
    split <;> rfl
  split at h
  · injection h with h1 h2; rw [← h1]; rfl
  · injection h with h1 h2; exact absurd h2.symm hc
theorem openQ_ok {d : D} {size most : Int} {a : Q} (h : openQ d size most = (a, 0)) : (1 ≤ most ∧ most ≤ 1024) ∧ ∃ l rs, a = ⟨l, entM rs, most⟩ ∧ Opened l rs size ∧ (entM rs).length ≤ 1024 := by
  unfold openQ at h
  split at h
  · injection h with h1 h2; simp at h2
  split at h
  · injection h with h1 h2; simp at h2
  rename_i hm
  split at h
  · rename_i hc; injection h with h1 h2; exact absurd h2 hc
  rename_i hc
  split at h
  · injection h with h1 h2; simp at h2
  rename_i hl
  injection h with h1 h2
  refine ⟨Classical.byContradiction hm, (openM d size).1, (openM d size).2.1, h1.symm, ?_, by omega⟩
  have hc0 : (openM d size).2.2 = 0 := Classical.byContradiction hc
  exact opened (by rw [← hc0])
theorem opened_right {l : L} {rs : List Rec} {size most : Int} (h : Opened l rs size) (hm : 1 ≤ most ∧ most ≤ 1024) (hl : (entM rs).length ≤ 1024) : QRight ⟨l, entM rs, most⟩ := by
  obtain ⟨n, h1, h2, h3, h4⟩ := h.seq
  refine ⟨h.R, hm, hl, ?_⟩
  have hr : Row n rs := fun i r hi => h4 i r hi
  have := ent_in hr
  show inM l.nx.toNat l.fr.toNat _
  rw [h1, h2, Int.toNat_natCast, Int.toNat_natCast]
  exact this
theorem open_again {d : D} {size most : Int} {a : Q} (h : openQ d size most = (a, 0)) : (∀ e ∈ a.es, e.leased = false) ∧ openQ a.l.d size most = (a, 0) ∧ QRight a := by
  obtain ⟨hm, l, rs, rfl, ho, hl⟩ := openQ_ok h
  refine ⟨fun e he => by obtain ⟨r, _, _, h2, _⟩ := entM_mem he; exact h2, ?_, opened_right ho hm hl⟩
  show openQ l.d size most = _
  unfold openQ
  rw [if_neg (fun hn => hn ho.R.1), if_neg (fun hn => hn hm), ho.again]
  simp only [ne_eq, not_true_eq_false, if_false]
  rw [if_neg (by omega)]
end Go.Proofs.YtlgbehagflnfgaaGreatDoor

/- QUEUE: THE WALK OVER QueueAgain. -/
namespace Go.Proofs.YtlgbehagflnfgaaGreatDoor
open Go.RowKit
set_option maxRecDepth 100000
set_option linter.unusedVariables false
set_option linter.unusedSimpArgs false

set_option maxHeartbeats 4000000 in
theorem qagain_any (w : World) (ad0 : Option Addr) (n0 cap0 : Nat) (be0 : Option Addr) (m0 cp0 : Nat) (q : Q) (h : QIn w ad0 n0 cap0 be0 m0 cp0 q) (hT : Tabs w) (hw : 3 < w.heap.size) (adk : Option Addr) (nk capk : Nat) (ks : List Int) (hk : Ints w w.heap.size adk ks) (hnk : nk = ks.length) (hnk63 : nk ≤ 9223372036854775807) :
    Calls Tryz.prog 8 #[.agg (q.cells (.slice ad0 n0 cap0) (.slice be0 m0 cp0)), .slice adk nk capk] w fun e w' => e = .returned (.bool true) ∧ Below w.heap.size w w' := by
  obtain ⟨W0, hW0⟩ : ∃ W, W = w.alloc (.cells (q.cells (.slice ad0 n0 cap0) (.slice be0 m0 cp0)) 30) := ⟨_, rfl⟩
  have hb0 : Below w.heap.size w W0 := by rw [hW0]; exact (Below.refl _ w).alloc (Nat.le_refl _) _
  have HV := Lib.hid (show QV w W0 w.heap.size q ad0 n0 cap0 be0 m0 cp0 from ⟨by rw [hW0]; exact blk_new w _, h.under hb0, hb0, Nat.le_refl _⟩)
  have HK := Lib.hid (show IntsW w adk ks from hk)
  replace HK := Lib.hid (HK.out.under hb0)
  have Hnk := Lib.hid hnk
  have HT := Lib.hid hT
  have HB := Lib.hid hb0
  clear hT hb0 h hk hnk
  obtain ⟨⟨⟨fs0, dn0, fu0, fa0⟩, sz0, fr0, nx0, br0⟩, es0, mo0⟩ := q
  go_enter Tryz.func8, Tryz.ntmps8
  go_upto_region 1 with (fail)
  rw [← hW0]
  clear hW0
  go_wp2_with fail
  refine (qlives_any W0 (HT.out.under HB.out) (by have := HB.out.size; omega)).mono ?_
  rintro e w1 ⟨rfl, hb⟩
  replace HV := Lib.hid (HV.out.under hb)
  replace HK := Lib.hid (HK.out.under hb)
  replace HB := Lib.hid (HB.out.trans (hb.mono HB.out.size))
  clear hb
  obtain ⟨c0, c1, c2, c3, c4, c5, c6, c7, c8, c9⟩ := box10 HV.out.h
  have hlc := (Array.getElem?_eq_some_iff.1 HV.out.h).1
  go_wp2_with fail
  refine (Crash_any w1 ad0 n0 cap0 dn0 fu0 fa0 fs0 HV.out.i.l.d adk nk capk ks HK.out Hnk.out hnk63).mono ?_
  rintro e w2 ⟨ad5, n5, cap5, rfl, hi, hb, _⟩
  clear c0 c1 c2 c3 c4 c5 c6 c7 c8 c9 hlc
  replace HV := Lib.hid (HV.out.under hb)
  replace HK := Lib.hid (HK.out.under hb)
  replace HB := Lib.hid (HB.out.trans (hb.mono HB.out.size))
  have Hi := Lib.hid hi
  clear hb hi
  by_cases hR : Right fs0
  rotate_left
  · have hcv : crv ⟨fs0, dn0, fu0, fa0⟩ ks = (zero, 6) := by unfold crv; rw [if_neg hR]
    rw [hcv]
    simp only
    have HB2 := Lib.hid (HB.out.alloc HB.out.size (.cells (dcells (.slice ad5 n5 cap5) zero.down zero.fuse zero.fault) 24))
    go_wp2
    go_ret
    exact ⟨rfl, HB2.out⟩
  rw [crv_right (d := ⟨fs0, dn0, fu0, fa0⟩) hR] at Hi ⊢
  have Hd := Lib.hid (show DIn w2 ad5 n5 cap5 (-1) (-1) (crashL ks fs0) from ⟨Hi.out, fun f hf => okF_fit ((right_crash hR ks).ok f hf), by omega, by omega, by omega, by omega⟩)
  simp only
  clear Hi hR
  obtain ⟨W2, hW⟩ : ∃ W, W = w2.alloc (.cells (dcells (.slice ad5 n5 cap5) false (-1) (-1)) 24) := ⟨_, rfl⟩
  have hbW : Below w2.heap.size w2 W2 := by rw [hW]; exact (Below.refl _ w2).alloc (Nat.le_refl _) _
  have HD := Lib.hid (show Blk W2 w2.heap.size (dcells (.slice ad5 n5 cap5) false (-1) (-1)) 24 from by rw [hW]; exact blk_new w2 _)
  replace HV := Lib.hid (HV.out.under hbW)
  replace HK := Lib.hid (HK.out.under hbW)
  replace Hd := Lib.hid (Hd.out.under hbW)
  replace HB := Lib.hid (HB.out.trans (hbW.mono HB.out.size))
  clear hbW
  go_upto_region 4 with (fail)
  rw [← hW]
  clear hW
  obtain ⟨c0, c1, c2, c3⟩ := box4' HD.out
  have hlc := HD.out.lt
  obtain ⟨a, ha⟩ : ∃ a, openQ ⟨crashL ks fs0, false, -1, -1⟩ 100 5 = a := ⟨_, rfl⟩
  obtain ⟨⟨⟨⟨fs1, dn1, fu1, fa1⟩, sz1, fr1, nx1, br1⟩, es1, mo1⟩, er⟩ := a
  have HA := Lib.hid ha
  clear ha
  go_wp2_with fail
  refine (qopen_any W2 ad5 n5 cap5 ⟨crashL ks fs0, false, -1, -1⟩ 100 5 Hd.out (by unfold Num; omega) (by unfold Num; omega) (HT.out.under HB.out) (by have := HB.out.size; omega)).mono ?_
  rintro e w3 hP
  rw [HA.out] at hP
  obtain ⟨hb, ad1, n1, cap1, be1, m1, cp1, rfl, hq⟩ := hP
  clear c0 c1 c2 c3 hlc
  replace HV := Lib.hid (HV.out.under hb)
  replace Hd := Lib.hid (Hd.out.under hb)
  replace HD := Lib.hid (HD.out.under hb)
  replace HB := Lib.hid (HB.out.trans (hb.mono HB.out.size))
  clear hb Hd HD HK
  obtain ⟨W3, hW⟩ : ∃ W, W = w3.alloc (.cells #[.slice ad1 n1 cap1, .bool dn1, .int .i64 fu1, .int .i64 fa1, .int .i64 sz1, .int .u64 fr1, .int .u64 nx1, .bool br1, .slice be1 m1 cp1, .int .i64 mo1] 30) := ⟨_, rfl⟩
  have hbW : Below w3.heap.size w3 W3 := by rw [hW]; exact (Below.refl _ w3).alloc (Nat.le_refl _) _
  have HP := Lib.hid (show QV w W3 w3.heap.size ⟨⟨⟨fs1, dn1, fu1, fa1⟩, sz1, fr1, nx1, br1⟩, es1, mo1⟩ ad1 n1 cap1 be1 m1 cp1 from ⟨by rw [hW]; exact blk_new w3 _, hq.under hbW, HB.out.trans (hbW.mono HB.out.size), HB.out.size⟩)
  replace HV := Lib.hid (HV.out.under hbW)
  replace HB := Lib.hid (HB.out.trans (hbW.mono HB.out.size))
  have HbW3 := Lib.hid hbW
  clear hbW hq
  go_upto_region 7 with (fail)
  rw [← hW]
  clear hW
  by_cases her : er = 0
  rotate_left
  · have hes := openQ_err HA.out her
    simp only at hes
    subst hes
    have hm1 : m1 = 0 := HP.out.i.e.1
    subst hm1
    obtain ⟨d0, d1, d2, d3, d4, d5, d6, d7, d8, d9⟩ := box10 HP.out.h
    have hld := (Array.getElem?_eq_some_iff.1 HP.out.h).1
    go_wp2
    go_ret
    exact ⟨rfl, HB.out⟩
  subst her
  obtain ⟨hfree, hag, hQR⟩ := open_again HA.out
  have Hfree := Lib.hid hfree
  have Hag := Lib.hid hag
  have HQR := Lib.hid hQR
  clear hfree hag hQR
  obtain ⟨d0, d1, d2, d3, d4, d5, d6, d7, d8, d9⟩ := box10 HP.out.h
  have hld := (Array.getElem?_eq_some_iff.1 HP.out.h).1
  go_wp2_with fail
  refine (qopen_any W3 ad1 n1 cap1 ⟨fs1, dn1, fu1, fa1⟩ 100 5 HP.out.i.l.d (by unfold Num; omega) (by unfold Num; omega) (HT.out.under HB.out) (by have := HB.out.size; omega)).mono ?_
  rintro e w4 hP
  rw [show openQ ⟨fs1, dn1, fu1, fa1⟩ 100 5 = _ from Hag.out] at hP
  obtain ⟨hb, ad2, n2, cap2, be2, m2, cp2, rfl, hq⟩ := hP
  clear d0 d1 d2 d3 d4 d5 d6 d7 d8 d9 hld
  replace HV := Lib.hid (HV.out.under hb)
  replace HP := Lib.hid (HP.out.under hb)
  replace HB := Lib.hid (HB.out.trans (hb.mono HB.out.size))
  clear hb
  obtain ⟨W4, hW⟩ : ∃ W, W = w4.alloc (.cells #[.slice ad2 n2 cap2, .bool dn1, .int .i64 fu1, .int .i64 fa1, .int .i64 sz1, .int .u64 fr1, .int .u64 nx1, .bool br1, .slice be2 m2 cp2, .int .i64 mo1] 30) := ⟨_, rfl⟩
  have hbW : Below w4.heap.size w4 W4 := by rw [hW]; exact (Below.refl _ w4).alloc (Nat.le_refl _) _
  have HQ := Lib.hid (show QV w W4 w4.heap.size ⟨⟨⟨fs1, dn1, fu1, fa1⟩, sz1, fr1, nx1, br1⟩, es1, mo1⟩ ad2 n2 cap2 be2 m2 cp2 from ⟨by rw [hW]; exact blk_new w4 _, hq.under hbW, HB.out.trans (hbW.mono HB.out.size), HB.out.size⟩)
  replace HV := Lib.hid (HV.out.under hbW)
  replace HP := Lib.hid (HP.out.under hbW)
  replace HB := Lib.hid (HB.out.trans (hbW.mono HB.out.size))
  have HbW4 := Lib.hid hbW
  clear hbW hq
  go_upto_region 10 with (fail)
  rw [← hW]
  clear hW
  obtain ⟨d0, d1, d2, d3, d4, d5, d6, d7, d8, d9⟩ := box10 HP.out.h
  have hld := (Array.getElem?_eq_some_iff.1 HP.out.h).1
  have hm1 : es1.length = m1 := HP.out.i.e.1.symm
  have Hm1 := Lib.hid hm1
  have hmb : m1 ≤ 1024 := by have := HQR.out.2.2.1; simp only at this; omega
  clear hm1
  go_wp2
  clear d0 d1 d2 d3 d4 d5 d6 d7 d8 d9 hld
  go_loopw [46] (fun i wr => ∃ (k : Nat), i = .int .i64 (k : Int) ∧ k ≤ m1 ∧ Below W4.heap.size W4 wr) (fun i _ => m1 - (intOf i).toNat)
  case atStart => exact ⟨0, rfl, Nat.zero_le _, Below.refl _ _⟩
  case round =>
    obtain ⟨k, rfl, hk, hbel⟩ := hrel
    have Hbel := Lib.hid hbel
    replace HV := Lib.hid (HV.out.under hbel)
    replace HP := Lib.hid (HP.out.under hbel)
    replace HQ := Lib.hid (HQ.out.under hbel)
    replace HB := Lib.hid (HB.out.trans (hbel.mono HB.out.size))
    by_cases hlt : k < m1
    · obtain ⟨e, he⟩ : ∃ e, es1[k]? = some e := ⟨es1[k]'(by have := Hm1.out; omega), by simp⟩
      have hne : es1 ≠ [] := by rintro rfl; simp at he
      obtain ⟨ge, oe, rfl, hge, hce⟩ := HP.out.i.e.2.2.2 hne
      obtain ⟨p0, p1, p2⟩ := hce k e he
      rw [Hfree.out e (List.mem_of_getElem? he)] at p2
      clear hbel hce he hne
      go_wp2
      go_roundw
      case rel => exact ⟨k + 1, by go_num, by omega, by first | exact below_drewN Hbel.out _ | exact Hbel.out.alloc Hbel.out.size _ | exact (below_drewN Hbel.out _).alloc (by have := Hbel.out.size; simpa using this) _⟩
      case measure => simp [intOf]; omega
    · have hkn : k = m1 := by omega
      clear hbel hlt
      obtain ⟨d0, d1, d2, d3, d4, d5, d6, d7, d8, d9⟩ := box10 HP.out.h
      have hld := (Array.getElem?_eq_some_iff.1 HP.out.h).1
      obtain ⟨c0, c1, c2, c3, c4, c5, c6, c7, c8, c9⟩ := box10 HQ.out.h
      have hlc := (Array.getElem?_eq_some_iff.1 HQ.out.h).1
      go_wp2_with fail
      refine (qsame_yes wr _ _ _ _ _ _ _ _ _ _ _ _ _ HP.out.i HQ.out.i (by have h1 := HP.out.i.l.d.i.1; have h2 := HQR.out.1.1.1; simp only at h1 h2; omega) (by omega)).mono ?_
      rintro e w6 ⟨rfl, hb⟩
      replace HV := Lib.hid (HV.out.under hb)
      replace HP := Lib.hid (HP.out.under hb)
      replace HQ := Lib.hid (HQ.out.under hb)
      replace HB := Lib.hid (HB.out.trans (hb.mono HB.out.size))
      clear hb
      clear d0 d1 d2 d3 d4 d5 d6 d7 d8 d9 hld
      clear c0 c1 c2 c3 c4 c5 c6 c7 c8 c9 hlc
      obtain ⟨d0, d1, d2, d3, d4, d5, d6, d7, d8, d9⟩ := box10 HP.out.h
      have hld := (Array.getElem?_eq_some_iff.1 HP.out.h).1
      go_wp2_with fail
      refine (qcheck_any w6 _ _ _ _ _ _ _ HP.out.i).mono ?_
      rintro e w7 ⟨er, rfl, hcase, hb⟩
      replace HV := Lib.hid (HV.out.under hb)
      replace HP := Lib.hid (HP.out.under hb)
      replace HQ := Lib.hid (HQ.out.under hb)
      replace HB := Lib.hid (HB.out.trans (hb.mono HB.out.size))
      clear hb
      obtain rfl : er = 0 := by
        rcases hcase with ⟨_, h⟩ | ⟨h, _⟩
        · exact h
        · exact absurd HQR.out h
      clear hcase
      clear d0 d1 d2 d3 d4 d5 d6 d7 d8 d9 hld
      go_wp2
      go_ret
      exact ⟨rfl, HB.out⟩
end Go.Proofs.YtlgbehagflnfgaaGreatDoor
