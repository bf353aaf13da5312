/- TOP: THE WALK OVER TopStored. -/
import Derived.Test.YtkhmdofeonlnpaaGreatDoorGav
import Derived.Deep.QuietTactic
import Derived.BigQuiet
namespace Go.Proofs.YtkhmdofeonlnpaaGreatDoor
open Go.RowKit
set_option maxRecDepth 100000
set_option linter.unusedVariables false
set_option linter.unusedSimpArgs false

theorem twhole_any (w : World) : Calls Tryz.prog 16 #[] w fun e w' => e = .returned (.agg (dcells (.slice none 0 0) false (-1) (-1))) ∧ Below w.heap.size w w' := by
  go_enter Tryz.func16, Tryz.ntmps16
  go_wp2
  refine bodyPost_ret (v := .agg (dcells (.slice none 0 0) false (-1) (-1))) (by simp [results, Tryz.results16, go_sem]) rfl ⟨rfl, ?_⟩
  exact (Below.refl _ w).alloc (Nat.le_refl _) _
theorem tlt {w : World} {g : Nat} {o : Obj} (h : w.heap[g]? = some o) : g < w.heap.size := (Array.getElem?_eq_some_iff.1 h).1
theorem ttk {P : Program} {ops : Array Oper} {Q : Exit → Act → World → Prop} {md : Region.Mode} (i : Nat) {oi : Oper} (v : Value) {fuel : Nat} {listed : Array Bool} {a : Act} {w : World} (hi : ops[i]? = some oi)
    (hb : (Region.noSelect ops && Region.free md ops listed i && (Region.ready md ops listed).contains i && Region.wanted oi (yielded ops a.tmps)) = true)
    (hQ : ∀ c a w, Q (.panic c) (a.put oi.dst v) w → Q (.panic c) a w) (hy : ∀ w, (execOp a.eval oi).run P w = .ok (.value v) w) (h : wpAny P md ops Q fuel (listed.setIfInBounds i true) (a.put oi.dst v) w) : wpAny P md ops Q (fuel + 1) listed a w := by
  simp only [Bool.and_eq_true] at hb
  exact wpAny_take hi hb.1.1.1 hb.1.1.2 hb.1.2 hQ (.inl ⟨hb.2, hy⟩) h
/-- what the first loop's drawn region leaves: the answer's box (its frame by FR10) -/
def TP10 (wr : World) (q1 : Q) (F : Nat → Act → Prop) (e : Exit) (a' : Act) (w' : World) : Prop := e = .normal ∧ Below wr.heap.size wr w' ∧ ∃ gz ad1 n1 cap1 be1 m1 cp1, wr.heap.size ≤ gz ∧ w'.heap[gz]? = some (.cells (q1.cells (.slice ad1 n1 cap1) (.slice be1 m1 cp1)) 30 (0, 0)) ∧ QIn w' ad1 n1 cap1 be1 m1 cp1 q1 ∧
    (∀ b, (Value.slice ad1 n1 cap1).ownBlock = some b → wr.heap.size ≤ b) ∧ (∀ b, (Value.slice be1 m1 cp1).ownBlock = some b → wr.heap.size ≤ b) ∧ F gz a'
def FR10 (p0 p1 p2 p3 p9 p11 p12 p15 p31 p35 : Value) (gz : Nat) (a' : Act) : Prop := ∃ u14 u41 u42 u43 u44 u45 u46 u47 u48 u49 u50 u51 u52 u53 u54 u55 u56 u57 u58 u59 u60 u61 u62 u63 u64 u65 u66 u67 u68 u69 u70 : Value, a' = ⟨#[p0, p1, p2, p3, undef, undef, undef, undef, .bool false, p9, .int .i64 0, p11, p12, .pointer (some ⟨gz, 0, none⟩), u14, p15, undef, undef, undef, undef, undef, undef, undef, undef, undef, undef, undef, undef, undef, .bool true, .bool false, p31, .agg (dcells (.slice none 0 0) false (-1) (-1)), p0, p31, p35, .int .i64 0, .int .i64 0, .bool false, undef, undef, u41, u42, u43, u44, u45, u46, u47, u48, u49, u50, u51, u52, u53, u54, u55, u56, u57, u58, u59, u60, u61, u62, u63, u64, u65, u66, u67, u68, u69, u70, undef, undef, undef, undef, undef, undef, undef, undef, undef, undef, undef, undef, undef, undef, undef, undef, undef, undef, undef, undef, undef, undef, undef, undef, undef, undef, undef, undef, undef, undef, undef, undef, undef, undef, undef, undef, undef, undef, undef, undef, undef, undef, undef, undef, undef, undef, undef, undef, undef, undef, undef, undef, undef, undef, undef, undef, undef, undef, undef, undef, undef, undef, undef, undef, undef, undef, undef, undef, undef, undef, undef, undef, undef, undef, undef, undef, undef, undef, undef, undef, undef, undef, undef, undef, undef, undef, undef, undef, undef, undef, undef, undef, undef, undef], []⟩

set_option maxHeartbeats 20000000 in
theorem stored_any (w : World) (size : Int) (adD : Option Addr) (N capD : Nat) (ss : List ByteArray) (acks : Int) (adK : Option Addr) (nk capK : Nat) (ks : List Int) (hsz : Num size) (hN : N = ss.length) (hN63 : N ≤ 9223372036854775807) (hS : Strs w w.heap.size adD ss) (hSb : ∀ s ∈ ss, s.size ≤ 9223372036854775000)
    (hac : Num acks) (hk : Ints w w.heap.size adK ks) (hnk : nk = ks.length) (hnk63 : nk ≤ 9223372036854775807) (hT : Tabs w) (hw : 5 < w.heap.size) :
    Calls Tryz.prog 4 #[.int .i64 size, .slice adD N capD, .int .i64 acks, .slice adK nk capK] w fun e w' => e = .returned (.bool true) ∧ Below w.heap.size w w' := by
  obtain ⟨i0, hi0, hz0, hz1, hz2⟩ := info_parts Tryz.info9
  have HT := Lib.hid hT
  have HB := Lib.hid (Below.refl w.heap.size w)
  have HD := Lib.hid (show StrsW w adD ss from hS)
  have HN := Lib.hid hN
  have HSb := Lib.hid hSb
  have Hsz := Lib.hid hsz
  have Hac := Lib.hid hac
  have HKs := Lib.hid (show IntsW w adK ks from hk)
  have Hnk := Lib.hid (And.intro hnk hnk63)
  clear hT hS hN hSb hac hk hnk hnk63
  go_enter Tryz.func4, Tryz.ntmps4
  go_wp2_with fail
  refine (Wn.begins_any w).mono ?_
  rintro e w0 ⟨rfl, hb⟩
  replace HB := Lib.hid (HB.out.trans (hb.mono HB.out.size))
  clear hb
  go_wp2_with fail
  refine (twhole_any w0).mono ?_
  rintro e w1 ⟨rfl, hb⟩
  replace HB := Lib.hid (HB.out.trans (hb.mono HB.out.size))
  clear hb
  obtain ⟨a, ha⟩ : ∃ a, openQ ⟨[], false, -1, -1⟩ size 1024 = a := ⟨_, rfl⟩
  obtain ⟨⟨⟨⟨fsA, dnA, fuA, faA⟩, szA, frA, nxA, brA⟩, esA, moA⟩, er⟩ := a
  have HA := Lib.hid ha
  clear ha
  go_wp2_with fail
  refine (qopen_any w1 none 0 0 ⟨[], false, -1, -1⟩ size 1024 (DIn.nothing w1 (fu := -1) (fa := -1) (by unfold Num; omega) (by unfold Num; omega)) Hsz.out (by unfold Num; omega) (HT.out.under HB.out) (by have := HB.out.size; omega)).mono ?_
  rintro e w2 hP
  rw [HA.out] at hP
  obtain ⟨hb, adA, nA, capA, beA, mA, cpA, rfl, hq⟩ := hP
  replace HB := Lib.hid (HB.out.trans (hb.mono HB.out.size))
  clear hb
  obtain ⟨W2, hW⟩ : ∃ W, W = w2.alloc (.cells #[.slice adA nA capA, .bool dnA, .int .i64 fuA, .int .i64 faA, .int .i64 szA, .int .u64 frA, .int .u64 nxA, .bool brA, .slice beA mA cpA, .int .i64 moA] 30) := ⟨_, rfl⟩
  have hbW : Below w2.heap.size w2 W2 := by rw [hW]; exact (Below.refl _ w2).alloc (Nat.le_refl _) _
  have HV := Lib.hid (show QV w W2 w2.heap.size ⟨⟨⟨fsA, dnA, fuA, faA⟩, szA, frA, nxA, brA⟩, esA, moA⟩ adA nA capA beA mA cpA from ⟨by rw [hW]; exact blk_new w2 _, hq.under hbW, HB.out.trans (hbW.mono HB.out.size), HB.out.size⟩)
  replace HB := Lib.hid (HB.out.trans (hbW.mono HB.out.size))
  have HbW2 := Lib.hid hbW
  clear hbW hq
  go_upto_region 4 with (fail)
  rw [← hW]
  clear hW
  by_cases hm : 1 ≤ size ∧ size ≤ 262144
  rotate_left
  · have e := openS_bad hm
    rw [HA.out] at e
    simp only at e
    subst e
    clear HA HV hm
    go_wp2
    go_ret
    exact ⟨rfl, HB.out⟩
  have e := HA.out.symm.trans (openQ_nil hm (show (1 : Int) ≤ 1024 ∧ (1024 : Int) ≤ 1024 by decide))
  simp only [Prod.mk.injEq] at e
  obtain ⟨hq0, rfl⟩ := e
  have hOI := oi_zero hm (show (1 : Int) ≤ 1024 ∧ (1024 : Int) ≤ 1024 by decide)
  rw [← hq0] at hOI
  have HOI := Lib.hid hOI
  have Hm := Lib.hid hm
  clear hOI hq0 HA hm hsz
  have HGB := Lib.hid (Array.getElem?_eq_some_iff.1 HV.out.h).1
  have HSR := Lib.hid (show SRow W2 W2.heap.size (.slice none 0 0) [] from World.ownsRow_nil _ _ _ _)
  have HWB := Lib.hid HV.out.b
  obtain ⟨B, hB⟩ : ∃ B, W2.heap.size = B := ⟨_, rfl⟩
  rw [hB] at HSR HGB
  have HBW := Lib.hid (Nat.le_of_eq hB.symm)
  have hwB : w.heap.size ≤ B := by rw [← hB]; exact HWB.out.size
  have hgB := HGB.out
  clear hB HWB HGB
  go_wp2
  go_loopw [11, 12] (fun v i wr => ∃ (j : Nat) (q : Q) (ad0 : Option Addr) (n0 cap0 : Nat) (be0 : Option Addr) (m0 cp0 : Nat) (want : List ByteArray), i = .int .i64 (j : Int) ∧ (j ≤ N ∧ j ≤ 12) ∧ (OI size 1024 want q ∧ want.length ≤ j) ∧ QV w wr w2.heap.size q ad0 n0 cap0 be0 m0 cp0 ∧ SRow wr B v want ∧ Dis v ad0 n0 cap0 be0 m0 cp0 q ∧ B ≤ wr.heap.size) (fun v i _ => 12 - (intOf i).toNat)
  case atStart => exact ⟨0, _, _, _, _, _, _, _, [], rfl, ⟨Nat.zero_le _, Nat.zero_le _⟩, ⟨HOI.out, Nat.le_refl _⟩, HV.out, HSR.out, (fun b e => by simp [Value.ownBlock] at e), HBW.out⟩
  case round =>
    clear HOI HV HSR
    obtain ⟨j, q, ad0, n0, cap0, be0, m0, cp0, want, rfl, ⟨hj, hj12⟩, ⟨hoi, hwj⟩, hv, hsr, hdis, hBw⟩ := hrel
    obtain ⟨⟨⟨fs0, dn0, fu0, fa0⟩, sz0, fr0, nx0, br0⟩, es0, mo0⟩ := q
    obtain ⟨M, hM⟩ : ∃ M, want.length = M := ⟨_, rfl⟩
    rw [hM] at hwj
    have HV := Lib.hid hv
    have HOI := Lib.hid hoi
    have HSR := Lib.hid hsr
    have HDis := Lib.hid hdis
    have HB := Lib.hid HV.out.b
    have HM := Lib.hid hM
    clear hv hoi hsr hdis hM
    by_cases hlt : j < N ∧ j < 12
    · obtain ⟨hlt, hlt12⟩ := hlt
      have hjN : (j : Int) < (N : Int) := by omega
      have hj12I : (j : Int) < 12 := by omega
      obtain ⟨s, hs⟩ : ∃ s, ss[j]? = some s := ⟨ss[j]'(by have := HN.out; omega), by simp⟩
      have hsb := HSb.out s (List.mem_of_getElem? hs)
      have hsn : ss ≠ [] := by rintro rfl; simp at hs
      obtain ⟨gd, od, rfl, hgd, hcd⟩ := HD.out hsn
      have hc0 := hcd j s hs
      have Hcw := Lib.hid hc0
      have Hgw := Lib.hid hgd
      have Hc0 := Lib.hid ((HV.out.b.cell (p := ⟨gd, od + j, none⟩) hgd).trans hc0)
      have Hgd := Lib.hid (Nat.lt_of_lt_of_le hgd HV.out.b.size)
      have Hsb := Lib.hid hsb
      clear hcd hs hsn hc0 hgd hsb
      obtain ⟨a, ha⟩ : ∃ a, ansQ ⟨⟨⟨fs0, dn0, fu0, fa0⟩, sz0, fr0, nx0, br0⟩, es0, mo0⟩ (.put s) = a := ⟨_, rfl⟩
      obtain ⟨⟨⟨⟨fs1, dn1, fu1, fa1⟩, sz1, fr1, nx1, br1⟩, es1, mo1⟩, ⟨se1, da1, le1⟩, c⟩ := a
      have HA := Lib.hid ha
      have hput := oi_put HOI.out s
      rw [ha] at hput
      have Hput := Lib.hid hput
      have HBr := HB
      clear ha hput
      go_upto_region 10 with (fail)
      refine Code.wp_mono (Q := TP10 wr ⟨⟨⟨fs1, dn1, fu1, fa1⟩, sz1, fr1, nx1, br1⟩, es1, mo1⟩ (FR10 (.int .i64 size) (.slice (some ⟨gd, od, none⟩) N capD) (.int .i64 acks) (.slice adK nk capK) (.pointer (some ⟨w2.heap.size, 0, none⟩)) u11 (.int .i64 (j : Int)) (.int .i64 c) (.tuple #[.agg (Q.cells ⟨⟨⟨fsA, dnA, fuA, faA⟩, szA, frA, nxA, brA⟩, esA, moA⟩ (.slice adA nA capA) (.slice beA mA cpA)), .int .i64 0]) (.agg (Q.cells ⟨⟨⟨fsA, dnA, fuA, faA⟩, szA, frA, nxA, brA⟩, esA, moA⟩ (.slice adA nA capA) (.slice beA mA cpA))))) ?post ?reg
      case reg =>
        have Hbr := Lib.hid (Below.refl wr.heap.size wr)
        refine wp_region_any (by kernel_rfl) ?_
        obtain ⟨X0, hX⟩ : ∃ W, wr.drew = W := ⟨_, rfl⟩
        change wpAny _ _ _ _ _ _ _ (wr.drew)
        rw [hX]
        have hbD : Below wr.heap.size wr X0 := by rw [← hX]; exact (Below.refl _ wr).drew
        replace HV := Lib.hid (HV.out.under hbD)
        replace Hbr := Lib.hid (Hbr.out.trans (hbD.mono Hbr.out.size))
        replace Hc0 := Lib.hid ((hbD.cell (p := ⟨gd, od + j, none⟩) Hgd.out).trans Hc0.out)
        replace Hgd := Lib.hid (Nat.lt_of_lt_of_le Hgd.out hbD.size)
        clear hbD hX
        refine ttk 1 ?vr1 rfl (by kernel_rfl) (fun _ _ _ h => nomatch h.1) ?hr1 ?rr1
        case hr1 => (intro w; go_simp; first | done | (with_reducible rfl))
        refine ttk 2 ?vr2 rfl (by kernel_rfl) (fun _ _ _ h => nomatch h.1) ?hr2 ?rr2
        case hr2 => (intro w; go_simp; first | done | (with_reducible rfl))
        refine ttk 3 ?vr3 rfl (by kernel_rfl) (fun _ _ _ h => nomatch h.1) ?hr3 ?rr3
        case hr3 => (intro w; go_simp; first | done | (with_reducible rfl))
        go_simp
        refine wpAny_ready (rs := [0, 4, 10]) (by kernel_rfl) (by simp) ?_
        refine AllReady.cons rfl (fun K hK => ?_) ?_
        · skip
          obtain ⟨c0, c1, c2, c3, c4, c5, c6, c7, c8, c9⟩ := box10 HV.out.h
          have hlc := (Array.getElem?_eq_some_iff.1 HV.out.h).1
          go_simp
          refine hK _ _ ?_
          clear hK K c0 c1 c2 c3 c4 c5 c6 c7 c8 c9 hlc
          refine wpAny_ready (rs := [4, 10]) (by kernel_rfl) (by simp) ?_
          refine AllReady.cons rfl (fun K hK => ?_) ?_
          · skip
            have c0 := Hc0.out
            have hlc := Hgd.out
            go_simp
            refine hK _ _ ?_
            clear hK K c0 hlc
            refine wpAny_ready (rs := [5, 10]) (by kernel_rfl) (by simp) ?_
            refine AllReady.cons rfl (fun K hK => ?_) ?_
            · skip
              go_simp
              go_at_call 17
              refine (put24_any X0 ad0 n0 cap0 be0 m0 cp0 _ HV.out.i (HT.out.under HV.out.b) (by have := HV.out.b.size; omega) s Hsb.out).mono ?_
              rintro e X1 hP
              rw [HA.out] at hP
              obtain ⟨hbD, ad1, n1, cap1, be1, m1, cp1, rfl, hq, ho, hp⟩ := hP
              have HP := Lib.hid hq
              have Ho := Lib.hid (show ∀ b, (Value.slice ad1 n1 cap1).ownBlock = some b → wr.heap.size ≤ b from fun b e => Nat.le_trans Hbr.out.size (ho b e))
              have Hp := Lib.hid (show ∀ b, (Value.slice be1 m1 cp1).ownBlock = some b → wr.heap.size ≤ b from fun b e => Nat.le_trans Hbr.out.size (hp b e))
              replace HV := Lib.hid (HV.out.under hbD)
              replace Hbr := Lib.hid (Hbr.out.trans (hbD.mono Hbr.out.size))
              replace Hc0 := Lib.hid ((hbD.cell (p := ⟨gd, od + j, none⟩) Hgd.out).trans Hc0.out)
              replace Hgd := Lib.hid (Nat.lt_of_lt_of_le Hgd.out hbD.size)
              clear hbD hq ho hp
              refine hK _ _ ?_
              clear hK K
              refine ttk 6 ?vr4 rfl (by kernel_rfl) (fun _ _ _ h => nomatch h.1) ?hr4 ?rr4
              case hr4 => (intro w; go_simp; first | done | (with_reducible rfl))
              refine ttk 7 ?vr5 rfl (by kernel_rfl) (fun _ _ _ h => nomatch h.1) ?hr5 ?rr5
              case hr5 => (intro w; go_simp; first | done | (with_reducible rfl))
              refine ttk 8 ?vr6 rfl (by kernel_rfl) (fun _ _ _ h => nomatch h.1) ?hr6 ?rr6
              case hr6 => (intro w; go_simp; first | done | (with_reducible rfl))
              refine ttk 9 ?vr7 rfl (by kernel_rfl) (fun _ _ _ h => nomatch h.1) ?hr7 ?rr7
              case hr7 => (intro w; go_simp; first | done | (with_reducible rfl))
              go_simp
              refine wpAny_ready (rs := [10]) (by kernel_rfl) (by simp) ?_
              refine AllReady.cons rfl (fun K hK => ?_) AllReady.nil
              go_simp
              refine hK _ _ ?_
              clear hK K
              refine wpAny_ready (rs := [11]) (by kernel_rfl) (by simp) ?_
              refine AllReady.cons rfl (fun K hK => ?_) AllReady.nil
              go_simp
              refine hK _ _ ?_
              clear hK K
              refine wpAny_ready (rs := [12]) (by kernel_rfl) (by simp) ?_
              refine AllReady.cons rfl (fun K hK => ?_) AllReady.nil
              go_simp
              refine hK _ _ ?_
              clear hK K
              refine wpAny_ready (rs := [13]) (by kernel_rfl) (by simp) ?_
              refine AllReady.cons rfl (fun K hK => ?_) AllReady.nil
              go_simp
              refine hK _ _ ?_
              clear hK K
              refine wpAny_done (by kernel_rfl) ?_ _
              go_simp
              have hal : Below X1.heap.size X1 (X1.alloc (.cells #[.slice ad1 n1 cap1, .bool dn1, .int .i64 fu1, .int .i64 fa1, .int .i64 sz1, .int .u64 fr1, .int .u64 nx1, .bool br1, .slice be1 m1 cp1, .int .i64 mo1] 30)) := (Below.refl _ X1).alloc (Nat.le_refl _) _
              exact ⟨rfl, Hbr.out.trans (hal.mono Hbr.out.size), X1.heap.size, ad1, n1, cap1, be1, m1, cp1, Hbr.out.size, blk_new X1 _, HP.out.under hal, Ho.out, Hp.out, _, _, _, _, _, _, _, _, _, _, _, _, _, _, _, _, _, _, _, _, _, _, _, _, _, _, _, _, _, _, _, rfl⟩
            refine AllReady.cons rfl (fun K hK => ?_) AllReady.nil
            go_simp
            refine hK _ _ ?_
            clear hK K
            obtain ⟨X1, hD⟩ : ∃ W, W = X0.alloc (.cells #[.slice none 0 0, .bool false, .int .i64 0, .int .i64 0, .int .i64 0, .int .u64 0, .int .u64 0, .bool false, .slice none 0 0, .int .i64 0] 30) := ⟨_, rfl⟩
            rw [← hD]
            have hbD : Below X0.heap.size X0 X1 := by rw [hD]; exact (Below.refl _ X0).alloc (Nat.le_refl _) _
            have HZ := Lib.hid (show X1.heap[X0.heap.size]? = some (.cells #[.slice none 0 0, .bool false, .int .i64 0, .int .i64 0, .int .i64 0, .int .u64 0, .int .u64 0, .bool false, .slice none 0 0, .int .i64 0] 30 (0, 0)) from by rw [hD]; exact blk_new X0 _)
            have Hgz := Lib.hid Hbr.out.size
            replace HV := Lib.hid (HV.out.under hbD)
            replace Hbr := Lib.hid (Hbr.out.trans (hbD.mono Hbr.out.size))
            replace Hc0 := Lib.hid ((hbD.cell (p := ⟨gd, od + j, none⟩) Hgd.out).trans Hc0.out)
            replace Hgd := Lib.hid (Nat.lt_of_lt_of_le Hgd.out hbD.size)
            clear hbD hD
            refine wpAny_ready (rs := [5]) (by kernel_rfl) (by simp) ?_
            refine AllReady.cons rfl (fun K hK => ?_) AllReady.nil
            go_simp
            go_at_call 17
            refine (put24_any X1 ad0 n0 cap0 be0 m0 cp0 _ HV.out.i (HT.out.under HV.out.b) (by have := HV.out.b.size; omega) s Hsb.out).mono ?_
            rintro e X2 hP
            rw [HA.out] at hP
            obtain ⟨hbD, ad1, n1, cap1, be1, m1, cp1, rfl, hq, ho, hp⟩ := hP
            have HP := Lib.hid hq
            have Ho := Lib.hid (show ∀ b, (Value.slice ad1 n1 cap1).ownBlock = some b → wr.heap.size ≤ b from fun b e => Nat.le_trans Hbr.out.size (ho b e))
            have Hp := Lib.hid (show ∀ b, (Value.slice be1 m1 cp1).ownBlock = some b → wr.heap.size ≤ b from fun b e => Nat.le_trans Hbr.out.size (hp b e))
            have hzl := tlt HZ.out
            have HoZ := Lib.hid (show ∀ b, (Value.slice ad1 n1 cap1).ownBlock = some b → b ≠ X0.heap.size from fun b e => by have := ho b e; omega)
            have HpZ := Lib.hid (show ∀ b, (Value.slice be1 m1 cp1).ownBlock = some b → b ≠ X0.heap.size from fun b e => by have := hp b e; omega)
            clear hzl
            replace HV := Lib.hid (HV.out.under hbD)
            replace Hbr := Lib.hid (Hbr.out.trans (hbD.mono Hbr.out.size))
            replace Hc0 := Lib.hid ((hbD.cell (p := ⟨gd, od + j, none⟩) Hgd.out).trans Hc0.out)
            replace Hgd := Lib.hid (Nat.lt_of_lt_of_le Hgd.out hbD.size)
            replace HZ := Lib.hid ((hbD.block _ (tlt HZ.out)).trans HZ.out)
            clear hbD hq ho hp
            refine hK _ _ ?_
            clear hK K
            refine ttk 6 ?vr8 rfl (by kernel_rfl) (fun _ _ _ h => nomatch h.1) ?hr8 ?rr8
            case hr8 => (intro w; go_simp; first | done | (with_reducible rfl))
            refine ttk 7 ?vr9 rfl (by kernel_rfl) (fun _ _ _ h => nomatch h.1) ?hr9 ?rr9
            case hr9 => (intro w; go_simp; first | done | (with_reducible rfl))
            refine ttk 8 ?vr10 rfl (by kernel_rfl) (fun _ _ _ h => nomatch h.1) ?hr10 ?rr10
            case hr10 => (intro w; go_simp; first | done | (with_reducible rfl))
            refine ttk 9 ?vr11 rfl (by kernel_rfl) (fun _ _ _ h => nomatch h.1) ?hr11 ?rr11
            case hr11 => (intro w; go_simp; first | done | (with_reducible rfl))
            go_simp
            refine wpAny_ready (rs := [11]) (by kernel_rfl) (by simp) ?_
            refine AllReady.cons rfl (fun K hK => ?_) AllReady.nil
            obtain ⟨y0, y1, y2, y3, y4, y5, y6, y7, y8, y9⟩ := box10 HZ.out
            obtain ⟨z0, z1, z2, z3, z4, z5, z6, z7, z8, z9⟩ := frz10 HZ.out
            have hly := tlt HZ.out
            go_simp
            refine hK _ _ ?_
            clear hK K y0 y1 y2 y3 y4 y5 y6 y7 y8 y9 z0 z1 z2 z3 z4 z5 z6 z7 z8 z9 hly
            obtain ⟨G, hG⟩ : ∃ G, G = ((((((((((X2).setCell ⟨X0.heap.size, 0, none⟩ (.slice ad1 n1 cap1)).setCell ⟨X0.heap.size, 1, none⟩ (.bool dn1)).setCell ⟨X0.heap.size, 2, none⟩ (.int .i64 fu1)).setCell ⟨X0.heap.size, 3, none⟩ (.int .i64 fa1)).setCell ⟨X0.heap.size, 4, none⟩ (.int .i64 sz1)).setCell ⟨X0.heap.size, 5, none⟩ (.int .u64 fr1)).setCell ⟨X0.heap.size, 6, none⟩ (.int .u64 nx1)).setCell ⟨X0.heap.size, 7, none⟩ (.bool br1)).setCell ⟨X0.heap.size, 8, none⟩ (.slice be1 m1 cp1)).setCell ⟨X0.heap.size, 9, none⟩ (.int .i64 mo1) := ⟨_, rfl⟩
            rw [← hG]
            have hzg : G.heap[X0.heap.size]? = some (.cells #[.slice ad1 n1 cap1, .bool dn1, .int .i64 fu1, .int .i64 fa1, .int .i64 sz1, .int .u64 fr1, .int .u64 nx1, .bool br1, .slice be1 m1 cp1, .int .i64 mo1] 30 (0, 0)) := by rw [hG]; exact cell_put10 HZ.out (.slice ad1 n1 cap1) (.bool dn1) (.int .i64 fu1) (.int .i64 fa1) (.int .i64 sz1) (.int .u64 fr1) (.int .u64 nx1) (.bool br1) (.slice be1 m1 cp1) (.int .i64 mo1)
            have hbg : Below wr.heap.size wr G := by rw [hG]; exact below_put10 Hbr.out Hgz.out (.slice ad1 n1 cap1) (.bool dn1) (.int .i64 fu1) (.int .i64 fa1) (.int .i64 sz1) (.int .u64 fr1) (.int .u64 nx1) (.bool br1) (.slice be1 m1 cp1) (.int .i64 mo1)
            have hgo : ∀ b, b ≠ X0.heap.size → G.heap[b]? = X2.heap[b]? := fun b hb => by rw [hG]; exact put10_other hb (.slice ad1 n1 cap1) (.bool dn1) (.int .i64 fu1) (.int .i64 fa1) (.int .i64 sz1) (.int .u64 fr1) (.int .u64 nx1) (.bool br1) (.slice be1 m1 cp1) (.int .i64 mo1)
            have hgs : G.heap.size = X2.heap.size := by rw [hG]; exact put10_size _ _ (.slice ad1 n1 cap1) (.bool dn1) (.int .i64 fu1) (.int .i64 fa1) (.int .i64 sz1) (.int .u64 fr1) (.int .u64 nx1) (.bool br1) (.slice be1 m1 cp1) (.int .i64 mo1)
            have HPg := Lib.hid (HP.out.same (Nat.le_of_eq hgs.symm) (fun b e => hgo b (HoZ.out b e)) (fun b e => hgo b (HpZ.out b e)))
            have Hzg := Lib.hid hzg
            have Hbg := Lib.hid hbg
            clear hzg hbg hgo hgs hG
            refine wpAny_ready (rs := [12]) (by kernel_rfl) (by simp) ?_
            refine AllReady.cons rfl (fun K hK => ?_) AllReady.nil
            go_simp
            refine hK _ _ ?_
            clear hK K
            refine wpAny_ready (rs := [13]) (by kernel_rfl) (by simp) ?_
            refine AllReady.cons rfl (fun K hK => ?_) AllReady.nil
            go_simp
            refine hK _ _ ?_
            clear hK K
            refine wpAny_done (by kernel_rfl) ?_ _
            go_simp
            exact ⟨rfl, Hbg.out, X0.heap.size, ad1, n1, cap1, be1, m1, cp1, Hgz.out, Hzg.out, HPg.out, Ho.out, Hp.out, _, _, _, _, _, _, _, _, _, _, _, _, _, _, _, _, _, _, _, _, _, _, _, _, _, _, _, _, _, _, _, rfl⟩
          refine AllReady.cons rfl (fun K hK => ?_) AllReady.nil
          go_simp
          refine hK _ _ ?_
          clear hK K
          obtain ⟨X1, hD⟩ : ∃ W, W = X0.alloc (.cells #[.slice none 0 0, .bool false, .int .i64 0, .int .i64 0, .int .i64 0, .int .u64 0, .int .u64 0, .bool false, .slice none 0 0, .int .i64 0] 30) := ⟨_, rfl⟩
          rw [← hD]
          have hbD : Below X0.heap.size X0 X1 := by rw [hD]; exact (Below.refl _ X0).alloc (Nat.le_refl _) _
          have HZ := Lib.hid (show X1.heap[X0.heap.size]? = some (.cells #[.slice none 0 0, .bool false, .int .i64 0, .int .i64 0, .int .i64 0, .int .u64 0, .int .u64 0, .bool false, .slice none 0 0, .int .i64 0] 30 (0, 0)) from by rw [hD]; exact blk_new X0 _)
          have Hgz := Lib.hid Hbr.out.size
          replace HV := Lib.hid (HV.out.under hbD)
          replace Hbr := Lib.hid (Hbr.out.trans (hbD.mono Hbr.out.size))
          replace Hc0 := Lib.hid ((hbD.cell (p := ⟨gd, od + j, none⟩) Hgd.out).trans Hc0.out)
          replace Hgd := Lib.hid (Nat.lt_of_lt_of_le Hgd.out hbD.size)
          clear hbD hD
          refine wpAny_ready (rs := [4]) (by kernel_rfl) (by simp) ?_
          refine AllReady.cons rfl (fun K hK => ?_) AllReady.nil
          have c0 := Hc0.out
          have hlc := Hgd.out
          go_simp
          refine hK _ _ ?_
          clear hK K c0 hlc
          refine wpAny_ready (rs := [5]) (by kernel_rfl) (by simp) ?_
          refine AllReady.cons rfl (fun K hK => ?_) AllReady.nil
          go_simp
          go_at_call 17
          refine (put24_any X1 ad0 n0 cap0 be0 m0 cp0 _ HV.out.i (HT.out.under HV.out.b) (by have := HV.out.b.size; omega) s Hsb.out).mono ?_
          rintro e X2 hP
          rw [HA.out] at hP
          obtain ⟨hbD, ad1, n1, cap1, be1, m1, cp1, rfl, hq, ho, hp⟩ := hP
          have HP := Lib.hid hq
          have Ho := Lib.hid (show ∀ b, (Value.slice ad1 n1 cap1).ownBlock = some b → wr.heap.size ≤ b from fun b e => Nat.le_trans Hbr.out.size (ho b e))
          have Hp := Lib.hid (show ∀ b, (Value.slice be1 m1 cp1).ownBlock = some b → wr.heap.size ≤ b from fun b e => Nat.le_trans Hbr.out.size (hp b e))
          have hzl := tlt HZ.out
          have HoZ := Lib.hid (show ∀ b, (Value.slice ad1 n1 cap1).ownBlock = some b → b ≠ X0.heap.size from fun b e => by have := ho b e; omega)
          have HpZ := Lib.hid (show ∀ b, (Value.slice be1 m1 cp1).ownBlock = some b → b ≠ X0.heap.size from fun b e => by have := hp b e; omega)
          clear hzl
          replace HV := Lib.hid (HV.out.under hbD)
          replace Hbr := Lib.hid (Hbr.out.trans (hbD.mono Hbr.out.size))
          replace Hc0 := Lib.hid ((hbD.cell (p := ⟨gd, od + j, none⟩) Hgd.out).trans Hc0.out)
          replace Hgd := Lib.hid (Nat.lt_of_lt_of_le Hgd.out hbD.size)
          replace HZ := Lib.hid ((hbD.block _ (tlt HZ.out)).trans HZ.out)
          clear hbD hq ho hp
          refine hK _ _ ?_
          clear hK K
          refine ttk 6 ?vr12 rfl (by kernel_rfl) (fun _ _ _ h => nomatch h.1) ?hr12 ?rr12
          case hr12 => (intro w; go_simp; first | done | (with_reducible rfl))
          refine ttk 7 ?vr13 rfl (by kernel_rfl) (fun _ _ _ h => nomatch h.1) ?hr13 ?rr13
          case hr13 => (intro w; go_simp; first | done | (with_reducible rfl))
          refine ttk 8 ?vr14 rfl (by kernel_rfl) (fun _ _ _ h => nomatch h.1) ?hr14 ?rr14
          case hr14 => (intro w; go_simp; first | done | (with_reducible rfl))
          refine ttk 9 ?vr15 rfl (by kernel_rfl) (fun _ _ _ h => nomatch h.1) ?hr15 ?rr15
          case hr15 => (intro w; go_simp; first | done | (with_reducible rfl))
          go_simp
          refine wpAny_ready (rs := [11]) (by kernel_rfl) (by simp) ?_
          refine AllReady.cons rfl (fun K hK => ?_) AllReady.nil
          obtain ⟨y0, y1, y2, y3, y4, y5, y6, y7, y8, y9⟩ := box10 HZ.out
          obtain ⟨z0, z1, z2, z3, z4, z5, z6, z7, z8, z9⟩ := frz10 HZ.out
          have hly := tlt HZ.out
          go_simp
          refine hK _ _ ?_
          clear hK K y0 y1 y2 y3 y4 y5 y6 y7 y8 y9 z0 z1 z2 z3 z4 z5 z6 z7 z8 z9 hly
          obtain ⟨G, hG⟩ : ∃ G, G = ((((((((((X2).setCell ⟨X0.heap.size, 0, none⟩ (.slice ad1 n1 cap1)).setCell ⟨X0.heap.size, 1, none⟩ (.bool dn1)).setCell ⟨X0.heap.size, 2, none⟩ (.int .i64 fu1)).setCell ⟨X0.heap.size, 3, none⟩ (.int .i64 fa1)).setCell ⟨X0.heap.size, 4, none⟩ (.int .i64 sz1)).setCell ⟨X0.heap.size, 5, none⟩ (.int .u64 fr1)).setCell ⟨X0.heap.size, 6, none⟩ (.int .u64 nx1)).setCell ⟨X0.heap.size, 7, none⟩ (.bool br1)).setCell ⟨X0.heap.size, 8, none⟩ (.slice be1 m1 cp1)).setCell ⟨X0.heap.size, 9, none⟩ (.int .i64 mo1) := ⟨_, rfl⟩
          rw [← hG]
          have hzg : G.heap[X0.heap.size]? = some (.cells #[.slice ad1 n1 cap1, .bool dn1, .int .i64 fu1, .int .i64 fa1, .int .i64 sz1, .int .u64 fr1, .int .u64 nx1, .bool br1, .slice be1 m1 cp1, .int .i64 mo1] 30 (0, 0)) := by rw [hG]; exact cell_put10 HZ.out (.slice ad1 n1 cap1) (.bool dn1) (.int .i64 fu1) (.int .i64 fa1) (.int .i64 sz1) (.int .u64 fr1) (.int .u64 nx1) (.bool br1) (.slice be1 m1 cp1) (.int .i64 mo1)
          have hbg : Below wr.heap.size wr G := by rw [hG]; exact below_put10 Hbr.out Hgz.out (.slice ad1 n1 cap1) (.bool dn1) (.int .i64 fu1) (.int .i64 fa1) (.int .i64 sz1) (.int .u64 fr1) (.int .u64 nx1) (.bool br1) (.slice be1 m1 cp1) (.int .i64 mo1)
          have hgo : ∀ b, b ≠ X0.heap.size → G.heap[b]? = X2.heap[b]? := fun b hb => by rw [hG]; exact put10_other hb (.slice ad1 n1 cap1) (.bool dn1) (.int .i64 fu1) (.int .i64 fa1) (.int .i64 sz1) (.int .u64 fr1) (.int .u64 nx1) (.bool br1) (.slice be1 m1 cp1) (.int .i64 mo1)
          have hgs : G.heap.size = X2.heap.size := by rw [hG]; exact put10_size _ _ (.slice ad1 n1 cap1) (.bool dn1) (.int .i64 fu1) (.int .i64 fa1) (.int .i64 sz1) (.int .u64 fr1) (.int .u64 nx1) (.bool br1) (.slice be1 m1 cp1) (.int .i64 mo1)
          have HPg := Lib.hid (HP.out.same (Nat.le_of_eq hgs.symm) (fun b e => hgo b (HoZ.out b e)) (fun b e => hgo b (HpZ.out b e)))
          have Hzg := Lib.hid hzg
          have Hbg := Lib.hid hbg
          clear hzg hbg hgo hgs hG
          refine wpAny_ready (rs := [12]) (by kernel_rfl) (by simp) ?_
          refine AllReady.cons rfl (fun K hK => ?_) AllReady.nil
          go_simp
          refine hK _ _ ?_
          clear hK K
          refine wpAny_ready (rs := [13]) (by kernel_rfl) (by simp) ?_
          refine AllReady.cons rfl (fun K hK => ?_) AllReady.nil
          go_simp
          refine hK _ _ ?_
          clear hK K
          refine wpAny_done (by kernel_rfl) ?_ _
          go_simp
          exact ⟨rfl, Hbg.out, X0.heap.size, ad1, n1, cap1, be1, m1, cp1, Hgz.out, Hzg.out, HPg.out, Ho.out, Hp.out, _, _, _, _, _, _, _, _, _, _, _, _, _, _, _, _, _, _, _, _, _, _, _, _, _, _, _, _, _, _, _, rfl⟩
        refine AllReady.cons rfl (fun K hK => ?_) ?_
        · skip
          have c0 := Hc0.out
          have hlc := Hgd.out
          go_simp
          refine hK _ _ ?_
          clear hK K c0 hlc
          refine wpAny_ready (rs := [0, 10]) (by kernel_rfl) (by simp) ?_
          refine AllReady.cons rfl (fun K hK => ?_) ?_
          · skip
            obtain ⟨c0, c1, c2, c3, c4, c5, c6, c7, c8, c9⟩ := box10 HV.out.h
            have hlc := (Array.getElem?_eq_some_iff.1 HV.out.h).1
            go_simp
            refine hK _ _ ?_
            clear hK K c0 c1 c2 c3 c4 c5 c6 c7 c8 c9 hlc
            refine wpAny_ready (rs := [5, 10]) (by kernel_rfl) (by simp) ?_
            refine AllReady.cons rfl (fun K hK => ?_) ?_
            · skip
              go_simp
              go_at_call 17
              refine (put24_any X0 ad0 n0 cap0 be0 m0 cp0 _ HV.out.i (HT.out.under HV.out.b) (by have := HV.out.b.size; omega) s Hsb.out).mono ?_
              rintro e X1 hP
              rw [HA.out] at hP
              obtain ⟨hbD, ad1, n1, cap1, be1, m1, cp1, rfl, hq, ho, hp⟩ := hP
              have HP := Lib.hid hq
              have Ho := Lib.hid (show ∀ b, (Value.slice ad1 n1 cap1).ownBlock = some b → wr.heap.size ≤ b from fun b e => Nat.le_trans Hbr.out.size (ho b e))
              have Hp := Lib.hid (show ∀ b, (Value.slice be1 m1 cp1).ownBlock = some b → wr.heap.size ≤ b from fun b e => Nat.le_trans Hbr.out.size (hp b e))
              replace HV := Lib.hid (HV.out.under hbD)
              replace Hbr := Lib.hid (Hbr.out.trans (hbD.mono Hbr.out.size))
              replace Hc0 := Lib.hid ((hbD.cell (p := ⟨gd, od + j, none⟩) Hgd.out).trans Hc0.out)
              replace Hgd := Lib.hid (Nat.lt_of_lt_of_le Hgd.out hbD.size)
              clear hbD hq ho hp
              refine hK _ _ ?_
              clear hK K
              refine ttk 6 ?vr16 rfl (by kernel_rfl) (fun _ _ _ h => nomatch h.1) ?hr16 ?rr16
              case hr16 => (intro w; go_simp; first | done | (with_reducible rfl))
              refine ttk 7 ?vr17 rfl (by kernel_rfl) (fun _ _ _ h => nomatch h.1) ?hr17 ?rr17
              case hr17 => (intro w; go_simp; first | done | (with_reducible rfl))
              refine ttk 8 ?vr18 rfl (by kernel_rfl) (fun _ _ _ h => nomatch h.1) ?hr18 ?rr18
              case hr18 => (intro w; go_simp; first | done | (with_reducible rfl))
              refine ttk 9 ?vr19 rfl (by kernel_rfl) (fun _ _ _ h => nomatch h.1) ?hr19 ?rr19
              case hr19 => (intro w; go_simp; first | done | (with_reducible rfl))
              go_simp
              refine wpAny_ready (rs := [10]) (by kernel_rfl) (by simp) ?_
              refine AllReady.cons rfl (fun K hK => ?_) AllReady.nil
              go_simp
              refine hK _ _ ?_
              clear hK K
              refine wpAny_ready (rs := [11]) (by kernel_rfl) (by simp) ?_
              refine AllReady.cons rfl (fun K hK => ?_) AllReady.nil
              go_simp
              refine hK _ _ ?_
              clear hK K
              refine wpAny_ready (rs := [12]) (by kernel_rfl) (by simp) ?_
              refine AllReady.cons rfl (fun K hK => ?_) AllReady.nil
              go_simp
              refine hK _ _ ?_
              clear hK K
              refine wpAny_ready (rs := [13]) (by kernel_rfl) (by simp) ?_
              refine AllReady.cons rfl (fun K hK => ?_) AllReady.nil
              go_simp
              refine hK _ _ ?_
              clear hK K
              refine wpAny_done (by kernel_rfl) ?_ _
              go_simp
              have hal : Below X1.heap.size X1 (X1.alloc (.cells #[.slice ad1 n1 cap1, .bool dn1, .int .i64 fu1, .int .i64 fa1, .int .i64 sz1, .int .u64 fr1, .int .u64 nx1, .bool br1, .slice be1 m1 cp1, .int .i64 mo1] 30)) := (Below.refl _ X1).alloc (Nat.le_refl _) _
              exact ⟨rfl, Hbr.out.trans (hal.mono Hbr.out.size), X1.heap.size, ad1, n1, cap1, be1, m1, cp1, Hbr.out.size, blk_new X1 _, HP.out.under hal, Ho.out, Hp.out, _, _, _, _, _, _, _, _, _, _, _, _, _, _, _, _, _, _, _, _, _, _, _, _, _, _, _, _, _, _, _, rfl⟩
            refine AllReady.cons rfl (fun K hK => ?_) AllReady.nil
            go_simp
            refine hK _ _ ?_
            clear hK K
            obtain ⟨X1, hD⟩ : ∃ W, W = X0.alloc (.cells #[.slice none 0 0, .bool false, .int .i64 0, .int .i64 0, .int .i64 0, .int .u64 0, .int .u64 0, .bool false, .slice none 0 0, .int .i64 0] 30) := ⟨_, rfl⟩
            rw [← hD]
            have hbD : Below X0.heap.size X0 X1 := by rw [hD]; exact (Below.refl _ X0).alloc (Nat.le_refl _) _
            have HZ := Lib.hid (show X1.heap[X0.heap.size]? = some (.cells #[.slice none 0 0, .bool false, .int .i64 0, .int .i64 0, .int .i64 0, .int .u64 0, .int .u64 0, .bool false, .slice none 0 0, .int .i64 0] 30 (0, 0)) from by rw [hD]; exact blk_new X0 _)
            have Hgz := Lib.hid Hbr.out.size
            replace HV := Lib.hid (HV.out.under hbD)
            replace Hbr := Lib.hid (Hbr.out.trans (hbD.mono Hbr.out.size))
            replace Hc0 := Lib.hid ((hbD.cell (p := ⟨gd, od + j, none⟩) Hgd.out).trans Hc0.out)
            replace Hgd := Lib.hid (Nat.lt_of_lt_of_le Hgd.out hbD.size)
            clear hbD hD
            refine wpAny_ready (rs := [5]) (by kernel_rfl) (by simp) ?_
            refine AllReady.cons rfl (fun K hK => ?_) AllReady.nil
            go_simp
            go_at_call 17
            refine (put24_any X1 ad0 n0 cap0 be0 m0 cp0 _ HV.out.i (HT.out.under HV.out.b) (by have := HV.out.b.size; omega) s Hsb.out).mono ?_
            rintro e X2 hP
            rw [HA.out] at hP
            obtain ⟨hbD, ad1, n1, cap1, be1, m1, cp1, rfl, hq, ho, hp⟩ := hP
            have HP := Lib.hid hq
            have Ho := Lib.hid (show ∀ b, (Value.slice ad1 n1 cap1).ownBlock = some b → wr.heap.size ≤ b from fun b e => Nat.le_trans Hbr.out.size (ho b e))
            have Hp := Lib.hid (show ∀ b, (Value.slice be1 m1 cp1).ownBlock = some b → wr.heap.size ≤ b from fun b e => Nat.le_trans Hbr.out.size (hp b e))
            have hzl := tlt HZ.out
            have HoZ := Lib.hid (show ∀ b, (Value.slice ad1 n1 cap1).ownBlock = some b → b ≠ X0.heap.size from fun b e => by have := ho b e; omega)
            have HpZ := Lib.hid (show ∀ b, (Value.slice be1 m1 cp1).ownBlock = some b → b ≠ X0.heap.size from fun b e => by have := hp b e; omega)
            clear hzl
            replace HV := Lib.hid (HV.out.under hbD)
            replace Hbr := Lib.hid (Hbr.out.trans (hbD.mono Hbr.out.size))
            replace Hc0 := Lib.hid ((hbD.cell (p := ⟨gd, od + j, none⟩) Hgd.out).trans Hc0.out)
            replace Hgd := Lib.hid (Nat.lt_of_lt_of_le Hgd.out hbD.size)
            replace HZ := Lib.hid ((hbD.block _ (tlt HZ.out)).trans HZ.out)
            clear hbD hq ho hp
            refine hK _ _ ?_
            clear hK K
            refine ttk 6 ?vr20 rfl (by kernel_rfl) (fun _ _ _ h => nomatch h.1) ?hr20 ?rr20
            case hr20 => (intro w; go_simp; first | done | (with_reducible rfl))
            refine ttk 7 ?vr21 rfl (by kernel_rfl) (fun _ _ _ h => nomatch h.1) ?hr21 ?rr21
            case hr21 => (intro w; go_simp; first | done | (with_reducible rfl))
            refine ttk 8 ?vr22 rfl (by kernel_rfl) (fun _ _ _ h => nomatch h.1) ?hr22 ?rr22
            case hr22 => (intro w; go_simp; first | done | (with_reducible rfl))
            refine ttk 9 ?vr23 rfl (by kernel_rfl) (fun _ _ _ h => nomatch h.1) ?hr23 ?rr23
            case hr23 => (intro w; go_simp; first | done | (with_reducible rfl))
            go_simp
            refine wpAny_ready (rs := [11]) (by kernel_rfl) (by simp) ?_
            refine AllReady.cons rfl (fun K hK => ?_) AllReady.nil
            obtain ⟨y0, y1, y2, y3, y4, y5, y6, y7, y8, y9⟩ := box10 HZ.out
            obtain ⟨z0, z1, z2, z3, z4, z5, z6, z7, z8, z9⟩ := frz10 HZ.out
            have hly := tlt HZ.out
            go_simp
            refine hK _ _ ?_
            clear hK K y0 y1 y2 y3 y4 y5 y6 y7 y8 y9 z0 z1 z2 z3 z4 z5 z6 z7 z8 z9 hly
            obtain ⟨G, hG⟩ : ∃ G, G = ((((((((((X2).setCell ⟨X0.heap.size, 0, none⟩ (.slice ad1 n1 cap1)).setCell ⟨X0.heap.size, 1, none⟩ (.bool dn1)).setCell ⟨X0.heap.size, 2, none⟩ (.int .i64 fu1)).setCell ⟨X0.heap.size, 3, none⟩ (.int .i64 fa1)).setCell ⟨X0.heap.size, 4, none⟩ (.int .i64 sz1)).setCell ⟨X0.heap.size, 5, none⟩ (.int .u64 fr1)).setCell ⟨X0.heap.size, 6, none⟩ (.int .u64 nx1)).setCell ⟨X0.heap.size, 7, none⟩ (.bool br1)).setCell ⟨X0.heap.size, 8, none⟩ (.slice be1 m1 cp1)).setCell ⟨X0.heap.size, 9, none⟩ (.int .i64 mo1) := ⟨_, rfl⟩
            rw [← hG]
            have hzg : G.heap[X0.heap.size]? = some (.cells #[.slice ad1 n1 cap1, .bool dn1, .int .i64 fu1, .int .i64 fa1, .int .i64 sz1, .int .u64 fr1, .int .u64 nx1, .bool br1, .slice be1 m1 cp1, .int .i64 mo1] 30 (0, 0)) := by rw [hG]; exact cell_put10 HZ.out (.slice ad1 n1 cap1) (.bool dn1) (.int .i64 fu1) (.int .i64 fa1) (.int .i64 sz1) (.int .u64 fr1) (.int .u64 nx1) (.bool br1) (.slice be1 m1 cp1) (.int .i64 mo1)
            have hbg : Below wr.heap.size wr G := by rw [hG]; exact below_put10 Hbr.out Hgz.out (.slice ad1 n1 cap1) (.bool dn1) (.int .i64 fu1) (.int .i64 fa1) (.int .i64 sz1) (.int .u64 fr1) (.int .u64 nx1) (.bool br1) (.slice be1 m1 cp1) (.int .i64 mo1)
            have hgo : ∀ b, b ≠ X0.heap.size → G.heap[b]? = X2.heap[b]? := fun b hb => by rw [hG]; exact put10_other hb (.slice ad1 n1 cap1) (.bool dn1) (.int .i64 fu1) (.int .i64 fa1) (.int .i64 sz1) (.int .u64 fr1) (.int .u64 nx1) (.bool br1) (.slice be1 m1 cp1) (.int .i64 mo1)
            have hgs : G.heap.size = X2.heap.size := by rw [hG]; exact put10_size _ _ (.slice ad1 n1 cap1) (.bool dn1) (.int .i64 fu1) (.int .i64 fa1) (.int .i64 sz1) (.int .u64 fr1) (.int .u64 nx1) (.bool br1) (.slice be1 m1 cp1) (.int .i64 mo1)
            have HPg := Lib.hid (HP.out.same (Nat.le_of_eq hgs.symm) (fun b e => hgo b (HoZ.out b e)) (fun b e => hgo b (HpZ.out b e)))
            have Hzg := Lib.hid hzg
            have Hbg := Lib.hid hbg
            clear hzg hbg hgo hgs hG
            refine wpAny_ready (rs := [12]) (by kernel_rfl) (by simp) ?_
            refine AllReady.cons rfl (fun K hK => ?_) AllReady.nil
            go_simp
            refine hK _ _ ?_
            clear hK K
            refine wpAny_ready (rs := [13]) (by kernel_rfl) (by simp) ?_
            refine AllReady.cons rfl (fun K hK => ?_) AllReady.nil
            go_simp
            refine hK _ _ ?_
            clear hK K
            refine wpAny_done (by kernel_rfl) ?_ _
            go_simp
            exact ⟨rfl, Hbg.out, X0.heap.size, ad1, n1, cap1, be1, m1, cp1, Hgz.out, Hzg.out, HPg.out, Ho.out, Hp.out, _, _, _, _, _, _, _, _, _, _, _, _, _, _, _, _, _, _, _, _, _, _, _, _, _, _, _, _, _, _, _, rfl⟩
          refine AllReady.cons rfl (fun K hK => ?_) AllReady.nil
          go_simp
          refine hK _ _ ?_
          clear hK K
          obtain ⟨X1, hD⟩ : ∃ W, W = X0.alloc (.cells #[.slice none 0 0, .bool false, .int .i64 0, .int .i64 0, .int .i64 0, .int .u64 0, .int .u64 0, .bool false, .slice none 0 0, .int .i64 0] 30) := ⟨_, rfl⟩
          rw [← hD]
          have hbD : Below X0.heap.size X0 X1 := by rw [hD]; exact (Below.refl _ X0).alloc (Nat.le_refl _) _
          have HZ := Lib.hid (show X1.heap[X0.heap.size]? = some (.cells #[.slice none 0 0, .bool false, .int .i64 0, .int .i64 0, .int .i64 0, .int .u64 0, .int .u64 0, .bool false, .slice none 0 0, .int .i64 0] 30 (0, 0)) from by rw [hD]; exact blk_new X0 _)
          have Hgz := Lib.hid Hbr.out.size
          replace HV := Lib.hid (HV.out.under hbD)
          replace Hbr := Lib.hid (Hbr.out.trans (hbD.mono Hbr.out.size))
          replace Hc0 := Lib.hid ((hbD.cell (p := ⟨gd, od + j, none⟩) Hgd.out).trans Hc0.out)
          replace Hgd := Lib.hid (Nat.lt_of_lt_of_le Hgd.out hbD.size)
          clear hbD hD
          refine wpAny_ready (rs := [0]) (by kernel_rfl) (by simp) ?_
          refine AllReady.cons rfl (fun K hK => ?_) AllReady.nil
          obtain ⟨c0, c1, c2, c3, c4, c5, c6, c7, c8, c9⟩ := box10 HV.out.h
          have hlc := (Array.getElem?_eq_some_iff.1 HV.out.h).1
          go_simp
          refine hK _ _ ?_
          clear hK K c0 c1 c2 c3 c4 c5 c6 c7 c8 c9 hlc
          refine wpAny_ready (rs := [5]) (by kernel_rfl) (by simp) ?_
          refine AllReady.cons rfl (fun K hK => ?_) AllReady.nil
          go_simp
          go_at_call 17
          refine (put24_any X1 ad0 n0 cap0 be0 m0 cp0 _ HV.out.i (HT.out.under HV.out.b) (by have := HV.out.b.size; omega) s Hsb.out).mono ?_
          rintro e X2 hP
          rw [HA.out] at hP
          obtain ⟨hbD, ad1, n1, cap1, be1, m1, cp1, rfl, hq, ho, hp⟩ := hP
          have HP := Lib.hid hq
          have Ho := Lib.hid (show ∀ b, (Value.slice ad1 n1 cap1).ownBlock = some b → wr.heap.size ≤ b from fun b e => Nat.le_trans Hbr.out.size (ho b e))
          have Hp := Lib.hid (show ∀ b, (Value.slice be1 m1 cp1).ownBlock = some b → wr.heap.size ≤ b from fun b e => Nat.le_trans Hbr.out.size (hp b e))
          have hzl := tlt HZ.out
          have HoZ := Lib.hid (show ∀ b, (Value.slice ad1 n1 cap1).ownBlock = some b → b ≠ X0.heap.size from fun b e => by have := ho b e; omega)
          have HpZ := Lib.hid (show ∀ b, (Value.slice be1 m1 cp1).ownBlock = some b → b ≠ X0.heap.size from fun b e => by have := hp b e; omega)
          clear hzl
          replace HV := Lib.hid (HV.out.under hbD)
          replace Hbr := Lib.hid (Hbr.out.trans (hbD.mono Hbr.out.size))
          replace Hc0 := Lib.hid ((hbD.cell (p := ⟨gd, od + j, none⟩) Hgd.out).trans Hc0.out)
          replace Hgd := Lib.hid (Nat.lt_of_lt_of_le Hgd.out hbD.size)
          replace HZ := Lib.hid ((hbD.block _ (tlt HZ.out)).trans HZ.out)
          clear hbD hq ho hp
          refine hK _ _ ?_
          clear hK K
          refine ttk 6 ?vr24 rfl (by kernel_rfl) (fun _ _ _ h => nomatch h.1) ?hr24 ?rr24
          case hr24 => (intro w; go_simp; first | done | (with_reducible rfl))
          refine ttk 7 ?vr25 rfl (by kernel_rfl) (fun _ _ _ h => nomatch h.1) ?hr25 ?rr25
          case hr25 => (intro w; go_simp; first | done | (with_reducible rfl))
          refine ttk 8 ?vr26 rfl (by kernel_rfl) (fun _ _ _ h => nomatch h.1) ?hr26 ?rr26
          case hr26 => (intro w; go_simp; first | done | (with_reducible rfl))
          refine ttk 9 ?vr27 rfl (by kernel_rfl) (fun _ _ _ h => nomatch h.1) ?hr27 ?rr27
          case hr27 => (intro w; go_simp; first | done | (with_reducible rfl))
          go_simp
          refine wpAny_ready (rs := [11]) (by kernel_rfl) (by simp) ?_
          refine AllReady.cons rfl (fun K hK => ?_) AllReady.nil
          obtain ⟨y0, y1, y2, y3, y4, y5, y6, y7, y8, y9⟩ := box10 HZ.out
          obtain ⟨z0, z1, z2, z3, z4, z5, z6, z7, z8, z9⟩ := frz10 HZ.out
          have hly := tlt HZ.out
          go_simp
          refine hK _ _ ?_
          clear hK K y0 y1 y2 y3 y4 y5 y6 y7 y8 y9 z0 z1 z2 z3 z4 z5 z6 z7 z8 z9 hly
          obtain ⟨G, hG⟩ : ∃ G, G = ((((((((((X2).setCell ⟨X0.heap.size, 0, none⟩ (.slice ad1 n1 cap1)).setCell ⟨X0.heap.size, 1, none⟩ (.bool dn1)).setCell ⟨X0.heap.size, 2, none⟩ (.int .i64 fu1)).setCell ⟨X0.heap.size, 3, none⟩ (.int .i64 fa1)).setCell ⟨X0.heap.size, 4, none⟩ (.int .i64 sz1)).setCell ⟨X0.heap.size, 5, none⟩ (.int .u64 fr1)).setCell ⟨X0.heap.size, 6, none⟩ (.int .u64 nx1)).setCell ⟨X0.heap.size, 7, none⟩ (.bool br1)).setCell ⟨X0.heap.size, 8, none⟩ (.slice be1 m1 cp1)).setCell ⟨X0.heap.size, 9, none⟩ (.int .i64 mo1) := ⟨_, rfl⟩
          rw [← hG]
          have hzg : G.heap[X0.heap.size]? = some (.cells #[.slice ad1 n1 cap1, .bool dn1, .int .i64 fu1, .int .i64 fa1, .int .i64 sz1, .int .u64 fr1, .int .u64 nx1, .bool br1, .slice be1 m1 cp1, .int .i64 mo1] 30 (0, 0)) := by rw [hG]; exact cell_put10 HZ.out (.slice ad1 n1 cap1) (.bool dn1) (.int .i64 fu1) (.int .i64 fa1) (.int .i64 sz1) (.int .u64 fr1) (.int .u64 nx1) (.bool br1) (.slice be1 m1 cp1) (.int .i64 mo1)
          have hbg : Below wr.heap.size wr G := by rw [hG]; exact below_put10 Hbr.out Hgz.out (.slice ad1 n1 cap1) (.bool dn1) (.int .i64 fu1) (.int .i64 fa1) (.int .i64 sz1) (.int .u64 fr1) (.int .u64 nx1) (.bool br1) (.slice be1 m1 cp1) (.int .i64 mo1)
          have hgo : ∀ b, b ≠ X0.heap.size → G.heap[b]? = X2.heap[b]? := fun b hb => by rw [hG]; exact put10_other hb (.slice ad1 n1 cap1) (.bool dn1) (.int .i64 fu1) (.int .i64 fa1) (.int .i64 sz1) (.int .u64 fr1) (.int .u64 nx1) (.bool br1) (.slice be1 m1 cp1) (.int .i64 mo1)
          have hgs : G.heap.size = X2.heap.size := by rw [hG]; exact put10_size _ _ (.slice ad1 n1 cap1) (.bool dn1) (.int .i64 fu1) (.int .i64 fa1) (.int .i64 sz1) (.int .u64 fr1) (.int .u64 nx1) (.bool br1) (.slice be1 m1 cp1) (.int .i64 mo1)
          have HPg := Lib.hid (HP.out.same (Nat.le_of_eq hgs.symm) (fun b e => hgo b (HoZ.out b e)) (fun b e => hgo b (HpZ.out b e)))
          have Hzg := Lib.hid hzg
          have Hbg := Lib.hid hbg
          clear hzg hbg hgo hgs hG
          refine wpAny_ready (rs := [12]) (by kernel_rfl) (by simp) ?_
          refine AllReady.cons rfl (fun K hK => ?_) AllReady.nil
          go_simp
          refine hK _ _ ?_
          clear hK K
          refine wpAny_ready (rs := [13]) (by kernel_rfl) (by simp) ?_
          refine AllReady.cons rfl (fun K hK => ?_) AllReady.nil
          go_simp
          refine hK _ _ ?_
          clear hK K
          refine wpAny_done (by kernel_rfl) ?_ _
          go_simp
          exact ⟨rfl, Hbg.out, X0.heap.size, ad1, n1, cap1, be1, m1, cp1, Hgz.out, Hzg.out, HPg.out, Ho.out, Hp.out, _, _, _, _, _, _, _, _, _, _, _, _, _, _, _, _, _, _, _, _, _, _, _, _, _, _, _, _, _, _, _, rfl⟩
        refine AllReady.cons rfl (fun K hK => ?_) AllReady.nil
        go_simp
        refine hK _ _ ?_
        clear hK K
        obtain ⟨X1, hD⟩ : ∃ W, W = X0.alloc (.cells #[.slice none 0 0, .bool false, .int .i64 0, .int .i64 0, .int .i64 0, .int .u64 0, .int .u64 0, .bool false, .slice none 0 0, .int .i64 0] 30) := ⟨_, rfl⟩
        rw [← hD]
        have hbD : Below X0.heap.size X0 X1 := by rw [hD]; exact (Below.refl _ X0).alloc (Nat.le_refl _) _
        have HZ := Lib.hid (show X1.heap[X0.heap.size]? = some (.cells #[.slice none 0 0, .bool false, .int .i64 0, .int .i64 0, .int .i64 0, .int .u64 0, .int .u64 0, .bool false, .slice none 0 0, .int .i64 0] 30 (0, 0)) from by rw [hD]; exact blk_new X0 _)
        have Hgz := Lib.hid Hbr.out.size
        replace HV := Lib.hid (HV.out.under hbD)
        replace Hbr := Lib.hid (Hbr.out.trans (hbD.mono Hbr.out.size))
        replace Hc0 := Lib.hid ((hbD.cell (p := ⟨gd, od + j, none⟩) Hgd.out).trans Hc0.out)
        replace Hgd := Lib.hid (Nat.lt_of_lt_of_le Hgd.out hbD.size)
        clear hbD hD
        refine wpAny_ready (rs := [0, 4]) (by kernel_rfl) (by simp) ?_
        refine AllReady.cons rfl (fun K hK => ?_) ?_
        · skip
          obtain ⟨c0, c1, c2, c3, c4, c5, c6, c7, c8, c9⟩ := box10 HV.out.h
          have hlc := (Array.getElem?_eq_some_iff.1 HV.out.h).1
          go_simp
          refine hK _ _ ?_
          clear hK K c0 c1 c2 c3 c4 c5 c6 c7 c8 c9 hlc
          refine wpAny_ready (rs := [4]) (by kernel_rfl) (by simp) ?_
          refine AllReady.cons rfl (fun K hK => ?_) AllReady.nil
          have c0 := Hc0.out
          have hlc := Hgd.out
          go_simp
          refine hK _ _ ?_
          clear hK K c0 hlc
          refine wpAny_ready (rs := [5]) (by kernel_rfl) (by simp) ?_
          refine AllReady.cons rfl (fun K hK => ?_) AllReady.nil
          go_simp
          go_at_call 17
          refine (put24_any X1 ad0 n0 cap0 be0 m0 cp0 _ HV.out.i (HT.out.under HV.out.b) (by have := HV.out.b.size; omega) s Hsb.out).mono ?_
          rintro e X2 hP
          rw [HA.out] at hP
          obtain ⟨hbD, ad1, n1, cap1, be1, m1, cp1, rfl, hq, ho, hp⟩ := hP
          have HP := Lib.hid hq
          have Ho := Lib.hid (show ∀ b, (Value.slice ad1 n1 cap1).ownBlock = some b → wr.heap.size ≤ b from fun b e => Nat.le_trans Hbr.out.size (ho b e))
          have Hp := Lib.hid (show ∀ b, (Value.slice be1 m1 cp1).ownBlock = some b → wr.heap.size ≤ b from fun b e => Nat.le_trans Hbr.out.size (hp b e))
          have hzl := tlt HZ.out
          have HoZ := Lib.hid (show ∀ b, (Value.slice ad1 n1 cap1).ownBlock = some b → b ≠ X0.heap.size from fun b e => by have := ho b e; omega)
          have HpZ := Lib.hid (show ∀ b, (Value.slice be1 m1 cp1).ownBlock = some b → b ≠ X0.heap.size from fun b e => by have := hp b e; omega)
          clear hzl
          replace HV := Lib.hid (HV.out.under hbD)
          replace Hbr := Lib.hid (Hbr.out.trans (hbD.mono Hbr.out.size))
          replace Hc0 := Lib.hid ((hbD.cell (p := ⟨gd, od + j, none⟩) Hgd.out).trans Hc0.out)
          replace Hgd := Lib.hid (Nat.lt_of_lt_of_le Hgd.out hbD.size)
          replace HZ := Lib.hid ((hbD.block _ (tlt HZ.out)).trans HZ.out)
          clear hbD hq ho hp
          refine hK _ _ ?_
          clear hK K
          refine ttk 6 ?vr28 rfl (by kernel_rfl) (fun _ _ _ h => nomatch h.1) ?hr28 ?rr28
          case hr28 => (intro w; go_simp; first | done | (with_reducible rfl))
          refine ttk 7 ?vr29 rfl (by kernel_rfl) (fun _ _ _ h => nomatch h.1) ?hr29 ?rr29
          case hr29 => (intro w; go_simp; first | done | (with_reducible rfl))
          refine ttk 8 ?vr30 rfl (by kernel_rfl) (fun _ _ _ h => nomatch h.1) ?hr30 ?rr30
          case hr30 => (intro w; go_simp; first | done | (with_reducible rfl))
          refine ttk 9 ?vr31 rfl (by kernel_rfl) (fun _ _ _ h => nomatch h.1) ?hr31 ?rr31
          case hr31 => (intro w; go_simp; first | done | (with_reducible rfl))
          go_simp
          refine wpAny_ready (rs := [11]) (by kernel_rfl) (by simp) ?_
          refine AllReady.cons rfl (fun K hK => ?_) AllReady.nil
          obtain ⟨y0, y1, y2, y3, y4, y5, y6, y7, y8, y9⟩ := box10 HZ.out
          obtain ⟨z0, z1, z2, z3, z4, z5, z6, z7, z8, z9⟩ := frz10 HZ.out
          have hly := tlt HZ.out
          go_simp
          refine hK _ _ ?_
          clear hK K y0 y1 y2 y3 y4 y5 y6 y7 y8 y9 z0 z1 z2 z3 z4 z5 z6 z7 z8 z9 hly
          obtain ⟨G, hG⟩ : ∃ G, G = ((((((((((X2).setCell ⟨X0.heap.size, 0, none⟩ (.slice ad1 n1 cap1)).setCell ⟨X0.heap.size, 1, none⟩ (.bool dn1)).setCell ⟨X0.heap.size, 2, none⟩ (.int .i64 fu1)).setCell ⟨X0.heap.size, 3, none⟩ (.int .i64 fa1)).setCell ⟨X0.heap.size, 4, none⟩ (.int .i64 sz1)).setCell ⟨X0.heap.size, 5, none⟩ (.int .u64 fr1)).setCell ⟨X0.heap.size, 6, none⟩ (.int .u64 nx1)).setCell ⟨X0.heap.size, 7, none⟩ (.bool br1)).setCell ⟨X0.heap.size, 8, none⟩ (.slice be1 m1 cp1)).setCell ⟨X0.heap.size, 9, none⟩ (.int .i64 mo1) := ⟨_, rfl⟩
          rw [← hG]
          have hzg : G.heap[X0.heap.size]? = some (.cells #[.slice ad1 n1 cap1, .bool dn1, .int .i64 fu1, .int .i64 fa1, .int .i64 sz1, .int .u64 fr1, .int .u64 nx1, .bool br1, .slice be1 m1 cp1, .int .i64 mo1] 30 (0, 0)) := by rw [hG]; exact cell_put10 HZ.out (.slice ad1 n1 cap1) (.bool dn1) (.int .i64 fu1) (.int .i64 fa1) (.int .i64 sz1) (.int .u64 fr1) (.int .u64 nx1) (.bool br1) (.slice be1 m1 cp1) (.int .i64 mo1)
          have hbg : Below wr.heap.size wr G := by rw [hG]; exact below_put10 Hbr.out Hgz.out (.slice ad1 n1 cap1) (.bool dn1) (.int .i64 fu1) (.int .i64 fa1) (.int .i64 sz1) (.int .u64 fr1) (.int .u64 nx1) (.bool br1) (.slice be1 m1 cp1) (.int .i64 mo1)
          have hgo : ∀ b, b ≠ X0.heap.size → G.heap[b]? = X2.heap[b]? := fun b hb => by rw [hG]; exact put10_other hb (.slice ad1 n1 cap1) (.bool dn1) (.int .i64 fu1) (.int .i64 fa1) (.int .i64 sz1) (.int .u64 fr1) (.int .u64 nx1) (.bool br1) (.slice be1 m1 cp1) (.int .i64 mo1)
          have hgs : G.heap.size = X2.heap.size := by rw [hG]; exact put10_size _ _ (.slice ad1 n1 cap1) (.bool dn1) (.int .i64 fu1) (.int .i64 fa1) (.int .i64 sz1) (.int .u64 fr1) (.int .u64 nx1) (.bool br1) (.slice be1 m1 cp1) (.int .i64 mo1)
          have HPg := Lib.hid (HP.out.same (Nat.le_of_eq hgs.symm) (fun b e => hgo b (HoZ.out b e)) (fun b e => hgo b (HpZ.out b e)))
          have Hzg := Lib.hid hzg
          have Hbg := Lib.hid hbg
          clear hzg hbg hgo hgs hG
          refine wpAny_ready (rs := [12]) (by kernel_rfl) (by simp) ?_
          refine AllReady.cons rfl (fun K hK => ?_) AllReady.nil
          go_simp
          refine hK _ _ ?_
          clear hK K
          refine wpAny_ready (rs := [13]) (by kernel_rfl) (by simp) ?_
          refine AllReady.cons rfl (fun K hK => ?_) AllReady.nil
          go_simp
          refine hK _ _ ?_
          clear hK K
          refine wpAny_done (by kernel_rfl) ?_ _
          go_simp
          exact ⟨rfl, Hbg.out, X0.heap.size, ad1, n1, cap1, be1, m1, cp1, Hgz.out, Hzg.out, HPg.out, Ho.out, Hp.out, _, _, _, _, _, _, _, _, _, _, _, _, _, _, _, _, _, _, _, _, _, _, _, _, _, _, _, _, _, _, _, rfl⟩
        refine AllReady.cons rfl (fun K hK => ?_) AllReady.nil
        have c0 := Hc0.out
        have hlc := Hgd.out
        go_simp
        refine hK _ _ ?_
        clear hK K c0 hlc
        refine wpAny_ready (rs := [0]) (by kernel_rfl) (by simp) ?_
        refine AllReady.cons rfl (fun K hK => ?_) AllReady.nil
        obtain ⟨c0, c1, c2, c3, c4, c5, c6, c7, c8, c9⟩ := box10 HV.out.h
        have hlc := (Array.getElem?_eq_some_iff.1 HV.out.h).1
        go_simp
        refine hK _ _ ?_
        clear hK K c0 c1 c2 c3 c4 c5 c6 c7 c8 c9 hlc
        refine wpAny_ready (rs := [5]) (by kernel_rfl) (by simp) ?_
        refine AllReady.cons rfl (fun K hK => ?_) AllReady.nil
        go_simp
        go_at_call 17
        refine (put24_any X1 ad0 n0 cap0 be0 m0 cp0 _ HV.out.i (HT.out.under HV.out.b) (by have := HV.out.b.size; omega) s Hsb.out).mono ?_
        rintro e X2 hP
        rw [HA.out] at hP
        obtain ⟨hbD, ad1, n1, cap1, be1, m1, cp1, rfl, hq, ho, hp⟩ := hP
        have HP := Lib.hid hq
        have Ho := Lib.hid (show ∀ b, (Value.slice ad1 n1 cap1).ownBlock = some b → wr.heap.size ≤ b from fun b e => Nat.le_trans Hbr.out.size (ho b e))
        have Hp := Lib.hid (show ∀ b, (Value.slice be1 m1 cp1).ownBlock = some b → wr.heap.size ≤ b from fun b e => Nat.le_trans Hbr.out.size (hp b e))
        have hzl := tlt HZ.out
        have HoZ := Lib.hid (show ∀ b, (Value.slice ad1 n1 cap1).ownBlock = some b → b ≠ X0.heap.size from fun b e => by have := ho b e; omega)
        have HpZ := Lib.hid (show ∀ b, (Value.slice be1 m1 cp1).ownBlock = some b → b ≠ X0.heap.size from fun b e => by have := hp b e; omega)
        clear hzl
        replace HV := Lib.hid (HV.out.under hbD)
        replace Hbr := Lib.hid (Hbr.out.trans (hbD.mono Hbr.out.size))
        replace Hc0 := Lib.hid ((hbD.cell (p := ⟨gd, od + j, none⟩) Hgd.out).trans Hc0.out)
        replace Hgd := Lib.hid (Nat.lt_of_lt_of_le Hgd.out hbD.size)
        replace HZ := Lib.hid ((hbD.block _ (tlt HZ.out)).trans HZ.out)
        clear hbD hq ho hp
        refine hK _ _ ?_
        clear hK K
        refine ttk 6 ?vr32 rfl (by kernel_rfl) (fun _ _ _ h => nomatch h.1) ?hr32 ?rr32
        case hr32 => (intro w; go_simp; first | done | (with_reducible rfl))
        refine ttk 7 ?vr33 rfl (by kernel_rfl) (fun _ _ _ h => nomatch h.1) ?hr33 ?rr33
        case hr33 => (intro w; go_simp; first | done | (with_reducible rfl))
        refine ttk 8 ?vr34 rfl (by kernel_rfl) (fun _ _ _ h => nomatch h.1) ?hr34 ?rr34
        case hr34 => (intro w; go_simp; first | done | (with_reducible rfl))
        refine ttk 9 ?vr35 rfl (by kernel_rfl) (fun _ _ _ h => nomatch h.1) ?hr35 ?rr35
        case hr35 => (intro w; go_simp; first | done | (with_reducible rfl))
        go_simp
        refine wpAny_ready (rs := [11]) (by kernel_rfl) (by simp) ?_
        refine AllReady.cons rfl (fun K hK => ?_) AllReady.nil
        obtain ⟨y0, y1, y2, y3, y4, y5, y6, y7, y8, y9⟩ := box10 HZ.out
        obtain ⟨z0, z1, z2, z3, z4, z5, z6, z7, z8, z9⟩ := frz10 HZ.out
        have hly := tlt HZ.out
        go_simp
        refine hK _ _ ?_
        clear hK K y0 y1 y2 y3 y4 y5 y6 y7 y8 y9 z0 z1 z2 z3 z4 z5 z6 z7 z8 z9 hly
        obtain ⟨G, hG⟩ : ∃ G, G = ((((((((((X2).setCell ⟨X0.heap.size, 0, none⟩ (.slice ad1 n1 cap1)).setCell ⟨X0.heap.size, 1, none⟩ (.bool dn1)).setCell ⟨X0.heap.size, 2, none⟩ (.int .i64 fu1)).setCell ⟨X0.heap.size, 3, none⟩ (.int .i64 fa1)).setCell ⟨X0.heap.size, 4, none⟩ (.int .i64 sz1)).setCell ⟨X0.heap.size, 5, none⟩ (.int .u64 fr1)).setCell ⟨X0.heap.size, 6, none⟩ (.int .u64 nx1)).setCell ⟨X0.heap.size, 7, none⟩ (.bool br1)).setCell ⟨X0.heap.size, 8, none⟩ (.slice be1 m1 cp1)).setCell ⟨X0.heap.size, 9, none⟩ (.int .i64 mo1) := ⟨_, rfl⟩
        rw [← hG]
        have hzg : G.heap[X0.heap.size]? = some (.cells #[.slice ad1 n1 cap1, .bool dn1, .int .i64 fu1, .int .i64 fa1, .int .i64 sz1, .int .u64 fr1, .int .u64 nx1, .bool br1, .slice be1 m1 cp1, .int .i64 mo1] 30 (0, 0)) := by rw [hG]; exact cell_put10 HZ.out (.slice ad1 n1 cap1) (.bool dn1) (.int .i64 fu1) (.int .i64 fa1) (.int .i64 sz1) (.int .u64 fr1) (.int .u64 nx1) (.bool br1) (.slice be1 m1 cp1) (.int .i64 mo1)
        have hbg : Below wr.heap.size wr G := by rw [hG]; exact below_put10 Hbr.out Hgz.out (.slice ad1 n1 cap1) (.bool dn1) (.int .i64 fu1) (.int .i64 fa1) (.int .i64 sz1) (.int .u64 fr1) (.int .u64 nx1) (.bool br1) (.slice be1 m1 cp1) (.int .i64 mo1)
        have hgo : ∀ b, b ≠ X0.heap.size → G.heap[b]? = X2.heap[b]? := fun b hb => by rw [hG]; exact put10_other hb (.slice ad1 n1 cap1) (.bool dn1) (.int .i64 fu1) (.int .i64 fa1) (.int .i64 sz1) (.int .u64 fr1) (.int .u64 nx1) (.bool br1) (.slice be1 m1 cp1) (.int .i64 mo1)
        have hgs : G.heap.size = X2.heap.size := by rw [hG]; exact put10_size _ _ (.slice ad1 n1 cap1) (.bool dn1) (.int .i64 fu1) (.int .i64 fa1) (.int .i64 sz1) (.int .u64 fr1) (.int .u64 nx1) (.bool br1) (.slice be1 m1 cp1) (.int .i64 mo1)
        have HPg := Lib.hid (HP.out.same (Nat.le_of_eq hgs.symm) (fun b e => hgo b (HoZ.out b e)) (fun b e => hgo b (HpZ.out b e)))
        have Hzg := Lib.hid hzg
        have Hbg := Lib.hid hbg
        clear hzg hbg hgo hgs hG
        refine wpAny_ready (rs := [12]) (by kernel_rfl) (by simp) ?_
        refine AllReady.cons rfl (fun K hK => ?_) AllReady.nil
        go_simp
        refine hK _ _ ?_
        clear hK K
        refine wpAny_ready (rs := [13]) (by kernel_rfl) (by simp) ?_
        refine AllReady.cons rfl (fun K hK => ?_) AllReady.nil
        go_simp
        refine hK _ _ ?_
        clear hK K
        refine wpAny_done (by kernel_rfl) ?_ _
        go_simp
        exact ⟨rfl, Hbg.out, X0.heap.size, ad1, n1, cap1, be1, m1, cp1, Hgz.out, Hzg.out, HPg.out, Ho.out, Hp.out, _, _, _, _, _, _, _, _, _, _, _, _, _, _, _, _, _, _, _, _, _, _, _, _, _, _, _, _, _, _, _, rfl⟩
      case post =>
        rintro e a' W5 ⟨rfl, hB5, gz, ad1, n1, cap1, be1, m1, cp1, hgz, hz, hq, ho, hp, hfr⟩
        unfold FR10 at hfr
        obtain ⟨u14, hfr⟩ := hfr
        obtain ⟨u41, hfr⟩ := hfr
        obtain ⟨u42, hfr⟩ := hfr
        obtain ⟨u43, hfr⟩ := hfr
        obtain ⟨u44, hfr⟩ := hfr
        obtain ⟨u45, hfr⟩ := hfr
        obtain ⟨u46, hfr⟩ := hfr
        obtain ⟨u47, hfr⟩ := hfr
        obtain ⟨u48, hfr⟩ := hfr
        obtain ⟨u49, hfr⟩ := hfr
        obtain ⟨u50, hfr⟩ := hfr
        obtain ⟨u51, hfr⟩ := hfr
        obtain ⟨u52, hfr⟩ := hfr
        obtain ⟨u53, hfr⟩ := hfr
        obtain ⟨u54, hfr⟩ := hfr
        obtain ⟨u55, hfr⟩ := hfr
        obtain ⟨u56, hfr⟩ := hfr
        obtain ⟨u57, hfr⟩ := hfr
        obtain ⟨u58, hfr⟩ := hfr
        obtain ⟨u59, hfr⟩ := hfr
        obtain ⟨u60, hfr⟩ := hfr
        obtain ⟨u61, hfr⟩ := hfr
        obtain ⟨u62, hfr⟩ := hfr
        obtain ⟨u63, hfr⟩ := hfr
        obtain ⟨u64, hfr⟩ := hfr
        obtain ⟨u65, hfr⟩ := hfr
        obtain ⟨u66, hfr⟩ := hfr
        obtain ⟨u67, hfr⟩ := hfr
        obtain ⟨u68, hfr⟩ := hfr
        obtain ⟨u69, hfr⟩ := hfr
        obtain ⟨u70, hfr⟩ := hfr
        subst hfr
        have HP := Lib.hid (show QV w W5 gz ⟨⟨⟨fs1, dn1, fu1, fa1⟩, sz1, fr1, nx1, br1⟩, es1, mo1⟩ ad1 n1 cap1 be1 m1 cp1 from ⟨hz, hq, HBr.out.trans (hB5.mono HBr.out.size), Nat.le_trans HBr.out.size hgz⟩)
        have Ho := Lib.hid ho
        have Hp := Lib.hid hp
        have HU := Lib.hid (HV.out.under hB5)
        have HSU := Lib.hid (HSR.out.under hB5)
        have HB5 := Lib.hid hB5
        clear ho hp hB5 hz hq
        rcases Hput.out with hput | hput
        · obtain ⟨hc, hoi2⟩ := hput
          replace hc : c = 0 := hc
          replace hoi2 : OI size 1024 (want ++ [s]) ⟨⟨⟨fs1, dn1, fu1, fa1⟩, sz1, fr1, nx1, br1⟩, es1, mo1⟩ := hoi2
          subst hc
          have HO2 := Lib.hid hoi2
          clear hoi2
          obtain ⟨d0, d1, d2, d3, d4, d5, d6, d7, d8, d9⟩ := box10 HP.out.h
          have hld := tlt HP.out.h
          obtain ⟨y0, y1, y2, y3, y4, y5, y6, y7, y8, y9⟩ := box10 HU.out.h
          have hly := tlt HU.out.h
          obtain ⟨z0, z1, z2, z3, z4, z5, z6, z7, z8, z9⟩ := frz10 HU.out.h
          go_upto_region 13 with (fail)
          obtain ⟨G, hG⟩ : ∃ G, G = ((((((((((W5).setCell ⟨w2.heap.size, 0, none⟩ (.slice ad1 n1 cap1)).setCell ⟨w2.heap.size, 1, none⟩ (.bool dn1)).setCell ⟨w2.heap.size, 2, none⟩ (.int .i64 fu1)).setCell ⟨w2.heap.size, 3, none⟩ (.int .i64 fa1)).setCell ⟨w2.heap.size, 4, none⟩ (.int .i64 sz1)).setCell ⟨w2.heap.size, 5, none⟩ (.int .u64 fr1)).setCell ⟨w2.heap.size, 6, none⟩ (.int .u64 nx1)).setCell ⟨w2.heap.size, 7, none⟩ (.bool br1)).setCell ⟨w2.heap.size, 8, none⟩ (.slice be1 m1 cp1)).setCell ⟨w2.heap.size, 9, none⟩ (.int .i64 mo1) := ⟨_, rfl⟩
          rw [← hG]
          have HV2 := Lib.hid (HV.out.put HB5.out HP.out.i Ho.out Hp.out hG)
          have hne : ∀ b, u11.ownBlock = some b → B ≤ b ∧ b < wr.heap.size := HSR.out.lt
          have hGs : G.heap.size = W5.heap.size := by rw [hG]; exact put10_size _ _ _ _ _ _ _ _ _ _ _ _
          have hgr : W5.grownBy G (some w2.heap.size) := by rw [hG]; exact put10_grown _ _ _ _ _ _ _ _ _ _ _ _
          have HS2 := Lib.hid (HSU.out.kept hgr (by
            cases e : u11.ownBlock with
            | none => exact .inl rfl
            | some b => exact .inr (fun h => by injection h with h; have := (hne b e).1; omega)))
          have HDis2 := Lib.hid (show Dis u11 ad1 n1 cap1 be1 m1 cp1 ⟨⟨⟨fs1, dn1, fu1, fa1⟩, sz1, fr1, nx1, br1⟩, es1, mo1⟩ from fun b e => ⟨fun _ h => by have h1 := Ho.out b h; have h2 := (hne b e).2; omega, fun _ h => by have h1 := Hp.out b h; have h2 := (hne b e).2; omega⟩)
          have Hne := Lib.hid hne
          clear d0 d1 d2 d3 d4 d5 d6 d7 d8 d9 hld y0 y1 y2 y3 y4 y5 y6 y7 y8 y9 hly z0 z1 z2 z3 z4 z5 z6 z7 z8 z9 hG hgr hne
          have hsG := HV2.out.b.size
          have hal := (Below.refl G.heap.size G).alloc (Nat.le_refl _) (.cells #[.string s] 9)
          have HV3 := Lib.hid (HV2.out.under hal)
          have Hown := Lib.hid (World.ownsRow.alloc HS2.out (.cells #[.string s] 9))
          have hnews := cell_one_new G (.string s) 9
          have Hnews := Lib.hid hnews
          have hcG := (HV2.out.b.cell (p := ⟨gd, od + j, none⟩) Hgw.out).trans Hcw.out
          have hlG : gd < G.heap.size := Nat.lt_of_lt_of_le Hgw.out HV2.out.b.size
          clear hnews
          have hBG : B ≤ G.heap.size := by have h1 := HB5.out.size; omega
          have HGs := Lib.hid hGs
          clear hal hGs
          have chk := fun (ops : Array Oper) (rest : List Oper) (o : Oper) (a : Act) (Q : Exit → Act → World → Prop) (hgd : o.guard = none) (ho : o.op = .call { callee := .builtin .append, args := #[.tmp 64, .tmp 69], argTypes := #[46, 46] }) (hs : a.eval (.tmp 64) = u11) (hx : a.eval (.tmp 69) = .slice (some ⟨G.heap.size, 0, none⟩) 1 1) => wpList_append_own_at (ops := ops) (rest := rest) (Q := Q) _ hgd (.tmp 64) (.tmp 69) 46 ho B 9 i0 _ 1 16 Tryz.underlying46 hi0 hz0 hz1 hz2 rfl (by decide) u11 _ _ hs Hown.out ⟨G.heap.size, 0, none⟩ 1 1 [.string s] hx rfl Hnews.out (fun u hu => by simp at hu; subst hu; rfl) (by have := HM.out; simp [maxLen]; omega) (by have := HM.out; simp; omega) (by have := HM.out; simp; omega)
          have Hchk := Lib.hid chk
          clear chk
          go_wp2_with (at_builtin; refine Hchk.out _ _ _ _ _ rfl rfl rfl rfl ?_)
          intro v' w' h1 h2 h3 h4
          have HV4 := Lib.hid (HV3.out.grown h2 (fun r hr => ⟨by have := (Hne.out r hr).1; omega, by have := (Hne.out r hr).1; omega, (HDis2.out r hr).1, (HDis2.out r hr).2⟩))
          have HS4 := Lib.hid (show SRow w' B v' (want ++ [s]) from by unfold SRow; simpa using h1)
          have hl3 := HV3.out.lts
          have hs3 : (G.alloc (.cells #[.string s] 9)).heap.size = G.heap.size + 1 := by rw [World.size_alloc]
          rw [hs3] at hl3
          have HDis4 := Lib.hid (show Dis v' ad1 n1 cap1 be1 m1 cp1 ⟨⟨⟨fs1, dn1, fu1, fa1⟩, sz1, fr1, nx1, br1⟩, es1, mo1⟩ from fun b e => by
            rcases h4 with h4 | h4
            · exact HDis2.out b (h4.symm.trans e)
            · rw [h4] at e
              injection e with e
              exact ⟨fun hne h => by have := hl3.1 hne b h; omega, fun hne h => by have := hl3.2 hne b h; omega⟩)
          have HBw4 := Lib.hid (show B ≤ w'.heap.size from by have := h2.size; omega)
          have HL4 := Lib.hid (show (want ++ [s]).length ≤ j + 1 from by rw [List.length_append, HM.out]; simp; omega)
          clear h1 h2 h3 h4 hl3 hs3 hcG hlG
          go_wp2
          go_roundw
          case rel => exact ⟨j + 1, _, ad1, n1, cap1, be1, m1, cp1, want ++ [s], by go_num, ⟨by omega, by omega⟩, ⟨HO2.out, HL4.out⟩, HV4.out, HS4.out, HDis4.out, HBw4.out⟩
          case measure => simp [intOf]; omega
        · obtain ⟨hc, _⟩ := hput
          replace hc : c ≠ 0 := hc
          have hc1 : (c == 0) = false := by simp [hc]
          have hBw5 : B ≤ W5.heap.size := by have h1 := HB5.out.size; omega
          have HWj := Lib.hid (show want.length ≤ j + 1 from by rw [HM.out]; omega)
          clear hc
          go_wp2
          go_roundw
          case rel => exact ⟨j + 1, _, ad0, n0, cap0, be0, m0, cp0, want, by go_num, ⟨by omega, by omega⟩, ⟨HOI.out, HWj.out⟩, HU.out, HSU.out, HDis.out, hBw5⟩
          case measure => simp [intOf]; omega
    · have hend : ¬ (j : Int) < (N : Int) ∨ ((j : Int) < (N : Int) ∧ ¬ (j : Int) < 12) := by omega
      clear hlt
      rcases hend with hjN | ⟨hjN, hj12I⟩
      all_goals
        have HSL := Lib.hid HSR.out.slb
        have HOJ := Lib.hid (oi_oj HOI.out)
        clear HOI HSR HDis HB
        obtain ⟨wo, rfl⟩ : ∃ wo, wo = wr := ⟨_, rfl⟩
        have hM12 : M ≤ 12 := by omega
        clear hj hj12 hwj
        go_wp2
        go_loopw [11, 16] (fun v i wr2 => ∃ (j2 : Nat) (q : Q) (ad0 : Option Addr) (n0 cap0 : Nat) (be0 : Option Addr) (m0 cp0 : Nat), i = .int .i64 (j2 : Int) ∧ j2 ≤ M ∧ OJ size j2 (want.drop j2) q ∧ QV w wr2 w2.heap.size q ad0 n0 cap0 be0 m0 cp0 ∧ SLB wr2 B v (want.drop j2)) (fun v i _ => M - (intOf i).toNat)
        case atStart => exact ⟨0, _, _, _, _, _, _, _, rfl, Nat.zero_le _, HOJ.out, HV.out, HSL.out⟩
        case round =>
          clear HOJ HV HSL
          obtain ⟨j2, q, ad0, n0, cap0, be0, m0, cp0, rfl, hj2, hoj, hv, hsl⟩ := hrel
          obtain ⟨⟨⟨fs0, dn0, fu0, fa0⟩, sz0, fr0, nx0, br0⟩, es0, mo0⟩ := q
          obtain ⟨Ln, hLn⟩ : ∃ n, (want.drop j2).length = n := ⟨_, rfl⟩
          have hLM : Ln = M - j2 := by rw [← hLn, List.length_drop, HM.out]
          obtain ⟨adx, capx, rfl, hcap, hcell⟩ := hsl
          rw [hLn] at hcap ⊢
          have HSx := Lib.hid (show SLB wr B (.slice adx Ln capx) (want.drop j2) from ⟨adx, capx, by rw [hLn], by rw [hLn]; exact hcap, hcell⟩)
          have HV := Lib.hid hv
          have HOJ := Lib.hid hoj
          have HB := Lib.hid HV.out.b
          have HLn := Lib.hid hLn
          have HLM := Lib.hid hLM
          have Hcell := Lib.hid hcell
          clear hv hoj hLn hLM hcell
          by_cases hlt2 : (j2 : Int) < acks ∧ j2 < M
          · obtain ⟨hac2, hjM⟩ := hlt2
            have hLI : (0 : Int) < (Ln : Int) := by have := HLM.out; omega
            obtain ⟨s, hs⟩ : ∃ s, want[j2]? = some s := ⟨want[j2]'(by have := HM.out; omega), by simp⟩
            have hdr : want.drop j2 = s :: want.drop (j2 + 1) := by
              obtain ⟨h1, h2⟩ := List.getElem?_eq_some_iff.1 hs
              rw [← h2]; exact List.drop_eq_getElem_cons h1
            have Hdr := Lib.hid hdr
            have hoj := HOJ.out
            rw [hdr] at hoj
            obtain ⟨q1, e, h1, hed, hse, q2, c2, h2, _, hway⟩ := oj_step hoj (by omega)
            obtain ⟨⟨⟨fs1, dn1, fu1, fa1⟩, sz1, fr1, nx1, br1⟩, es1, mo1⟩ := q1
            obtain ⟨se1, da1, le1⟩ := e
            obtain ⟨⟨⟨fs2, dn2, fu2, fa2⟩, sz2, fr2, nx2, br2⟩, es2, mo2⟩ := q2
            replace hse : se1 < 4611686018427387904 := hse
            have H1 := Lib.hid h1
            have H2 := Lib.hid h2
            have Hw := Lib.hid hway
            have HVr := Lib.hid HV.out
            clear hoj h1 h2 hway hs HOJ hed hdr
            obtain ⟨c0, c1, c2, c3, c4, c5, c6, c7, c8, c9⟩ := box10 HV.out.h
            have hlc := (Array.getElem?_eq_some_iff.1 HV.out.h).1
            go_wp2_with fail
            refine (lease25_any wr ad0 n0 cap0 be0 m0 cp0 _ HV.out.i (HT.out.under HB.out) (by have := HB.out.size; omega) ).mono ?_
            rintro e w5 hP
            rw [H1.out] at hP
            obtain ⟨hb, ad1, n1, cap1, be1, m1, cp1, rfl, hq, ho, hp⟩ := hP
            clear c0 c1 c2 c3 c4 c5 c6 c7 c8 c9 hlc
            have Ho1 := Lib.hid ho
            have Hp1 := Lib.hid hp
            have HcX1 := Lib.hid hb
            replace HV := Lib.hid (HV.out.under hb)
            replace HSx := Lib.hid (HSx.out.under hb)
            replace HB := Lib.hid (HB.out.trans (hb.mono HB.out.size))
            clear hb ho hp
            obtain ⟨W5, hW⟩ : ∃ W, W = (w5.alloc (.cells #[.slice ad1 n1 cap1, .bool dn1, .int .i64 fu1, .int .i64 fa1, .int .i64 sz1, .int .u64 fr1, .int .u64 nx1, .bool br1, .slice be1 m1 cp1, .int .i64 mo1] 30)).alloc (.cells #[.int .u64 (se1 : Int), .string da1, .bool le1] 39) := ⟨_, rfl⟩
            have hbW : Below w5.heap.size w5 W5 := by rw [hW]; exact ((Below.refl _ w5).alloc (Nat.le_refl _) _).alloc (by simp) _
            have HP := Lib.hid (show QV w W5 w5.heap.size ⟨⟨⟨fs1, dn1, fu1, fa1⟩, sz1, fr1, nx1, br1⟩, es1, mo1⟩ ad1 n1 cap1 be1 m1 cp1 from ⟨by rw [hW]; exact blk_alloc (blk_new w5 _) _, hq.under hbW, HB.out.trans (hbW.mono HB.out.size), HB.out.size⟩)
            have HE := Lib.hid (show Blk W5 (w5.heap.size + 1) #[.int .u64 (se1 : Int), .string da1, .bool le1] 39 from by rw [hW]; exact blk_at (by simp))
            replace HV := Lib.hid (HV.out.under hbW)
            replace HSx := Lib.hid (HSx.out.under hbW)
            replace HB := Lib.hid (HB.out.trans (hbW.mono HB.out.size))
            have HbW5 := Lib.hid hbW
            clear hbW hq
            go_upto_region 18 with (fail)
            rw [← hW]
            clear hW
            obtain ⟨x0, x1, x2⟩ := box3 HE.out
            have hlx := HE.out.lt
            obtain ⟨c0, c1, c2, c3, c4, c5, c6, c7, c8, c9⟩ := box10 HP.out.h
            have hlc := (Array.getElem?_eq_some_iff.1 HP.out.h).1
            go_wp2_with fail
            refine (ack26_any W5 ad1 n1 cap1 be1 m1 cp1 _ HP.out.i (HT.out.under HB.out) (by have := HB.out.size; omega) se1 (by omega)).mono ?_
            rintro e w6 hP
            rw [H2.out] at hP
            obtain ⟨hb, ad2, n2, cap2, be2, m2, cp2, rfl, hq, ho, hp⟩ := hP
            clear c0 c1 c2 c3 c4 c5 c6 c7 c8 c9 hlc
            have Ho2 := Lib.hid ho
            have Hp2 := Lib.hid hp
            have HcX2 := Lib.hid hb
            replace HV := Lib.hid (HV.out.under hb)
            replace HSx := Lib.hid (HSx.out.under hb)
            replace HP := Lib.hid (HP.out.under hb)
            replace HE := Lib.hid (HE.out.under hb)
            replace HB := Lib.hid (HB.out.trans (hb.mono HB.out.size))
            clear hb ho hp
            clear x0 x1 x2 hlx
            obtain ⟨W6, hW⟩ : ∃ W, W = w6.alloc (.cells #[.slice ad2 n2 cap2, .bool dn2, .int .i64 fu2, .int .i64 fa2, .int .i64 sz2, .int .u64 fr2, .int .u64 nx2, .bool br2, .slice be2 m2 cp2, .int .i64 mo2] 30) := ⟨_, rfl⟩
            have hbW : Below w6.heap.size w6 W6 := by rw [hW]; exact (Below.refl _ w6).alloc (Nat.le_refl _) _
            have HQ := Lib.hid (show QV w W6 w6.heap.size ⟨⟨⟨fs2, dn2, fu2, fa2⟩, sz2, fr2, nx2, br2⟩, es2, mo2⟩ ad2 n2 cap2 be2 m2 cp2 from ⟨by rw [hW]; exact blk_new w6 _, hq.under hbW, HB.out.trans (hbW.mono HB.out.size), HB.out.size⟩)
            replace HV := Lib.hid (HV.out.under hbW)
            replace HSx := Lib.hid (HSx.out.under hbW)
            replace HP := Lib.hid (HP.out.under hbW)
            replace HE := Lib.hid (HE.out.under hbW)
            replace HB := Lib.hid (HB.out.trans (hbW.mono HB.out.size))
            have HbW6 := Lib.hid hbW
            clear hbW hq
            go_upto_region 19 with (fail)
            rw [← hW]
            clear hW
            have hB6 : Below wr.heap.size wr W6 := ((HcX1.out.trans (HbW5.out.mono HcX1.out.size)).trans (HcX2.out.mono (by have := HcX1.out.size; have := HbW5.out.size; omega))).trans (HbW6.out.mono (by have := HcX1.out.size; have := HbW5.out.size; have := HcX2.out.size; omega))
            have hW5 : wr.heap.size ≤ W5.heap.size := by have := HcX1.out.size; have := HbW5.out.size; omega
            have HB6 := Lib.hid hB6
            clear hB6
            rcases Hw.out with ⟨hc2, hoj2⟩ | hc2
            · subst hc2
              have HO2 := Lib.hid hoj2
              clear hoj2 Hw
              obtain ⟨c0, c1, c2, c3, c4, c5, c6, c7, c8, c9⟩ := box10 HQ.out.h
              have hlc := tlt HQ.out.h
              obtain ⟨y0, y1, y2, y3, y4, y5, y6, y7, y8, y9⟩ := box10 HV.out.h
              have hly := tlt HV.out.h
              obtain ⟨z0, z1, z2, z3, z4, z5, z6, z7, z8, z9⟩ := frz10 HV.out.h
              go_upto_region 22 with (fail)
              obtain ⟨G, hG⟩ : ∃ G, G = ((((((((((W6).setCell ⟨w2.heap.size, 0, none⟩ (.slice ad2 n2 cap2)).setCell ⟨w2.heap.size, 1, none⟩ (.bool dn2)).setCell ⟨w2.heap.size, 2, none⟩ (.int .i64 fu2)).setCell ⟨w2.heap.size, 3, none⟩ (.int .i64 fa2)).setCell ⟨w2.heap.size, 4, none⟩ (.int .i64 sz2)).setCell ⟨w2.heap.size, 5, none⟩ (.int .u64 fr2)).setCell ⟨w2.heap.size, 6, none⟩ (.int .u64 nx2)).setCell ⟨w2.heap.size, 7, none⟩ (.bool br2)).setCell ⟨w2.heap.size, 8, none⟩ (.slice be2 m2 cp2)).setCell ⟨w2.heap.size, 9, none⟩ (.int .i64 mo2) := ⟨_, rfl⟩
              rw [← hG]
              have HV2 := Lib.hid (HVr.out.put HB6.out HQ.out.i (fun b e => by have := Ho2.out b e; omega) (fun b e => by have := Hp2.out b e; omega) hG)
              have hgo : ∀ b, b ≠ w2.heap.size → G.heap[b]? = W6.heap[b]? := fun b hb => by rw [hG]; exact put10_other hb _ _ _ _ _ _ _ _ _ _
              have hgs : G.heap.size = W6.heap.size := by rw [hG]; exact put10_size _ _ _ _ _ _ _ _ _ _ _ _
              have HS2 := Lib.hid (HSx.out.kept (w' := G) (fun b hb _ => hgo b (by omega)) (Nat.le_of_eq hgs.symm))
              clear c0 c1 c2 c3 c4 c5 c6 c7 c8 c9 hlc y0 y1 y2 y3 y4 y5 y6 y7 y8 y9 hly z0 z1 z2 z3 z4 z5 z6 z7 z8 z9 hG hgo hgs
              have htl := HS2.out.tail (s := s) (t := want.drop (j2 + 1)) Hdr.out
              obtain ⟨hn1, hn2, g1, off1, rfl, hsl2⟩ := htl
              have HS3 := Lib.hid (show SLB G B (.slice (if capx = 1 then some ⟨g1, off1, none⟩ else some ⟨g1, off1 + 1, none⟩) (Ln - 1) (capx - 1)) (want.drop (j2 + 1)) from by
                have h := hsl2 (if capx = 1 then some ⟨g1, off1, none⟩ else some ⟨g1, off1 + 1, none⟩) (fun hne => if_neg (fun h1 => by have := List.length_pos_iff.2 hne; omega))
                rw [show (want.drop (j2 + 1)).length = Ln - 1 by omega] at h
                exact h)
              have hj2' : j2 + 1 ≤ M := by omega
              clear hsl2 hn1
              go_wp2
              go_roundw
              case rel => exact ⟨j2 + 1, _, ad2, n2, cap2, be2, m2, cp2, by go_num, hj2', HO2.out, HV2.out, HS3.out⟩
              case measure => simp [intOf]; omega
            · subst hc2
              clear Hw
              go_wp2
              go_ret
              exact ⟨rfl, HB.out⟩
          · have hend2 : ¬ (j2 : Int) < acks ∨ ((j2 : Int) < acks ∧ ¬ 0 < Ln) := by have := HLM.out; omega
            clear hlt2
            rcases hend2 with hac2 | ⟨hac2, hL0⟩
            all_goals
              obtain ⟨rest, hrest⟩ : ∃ r, want.drop j2 = r := ⟨_, rfl⟩
              rw [hrest] at HOJ HSx HLn
              obtain ⟨wo2, rfl⟩ : ∃ wo2, wo2 = wr := ⟨_, rfl⟩
              have hj12' : j2 ≤ 12 := by omega
              have hL12 : Ln ≤ 12 := by have := HLM.out; omega
              clear HB Hcell hrest HLM hj2
              go_wp2
              go_loopw [22] (fun i wr3 => ∃ (j3 : Nat) (q : Q) (ad0 : Option Addr) (n0 cap0 : Nat) (be0 : Option Addr) (m0 cp0 : Nat), i = .int .i64 (j3 : Int) ∧ j3 ≤ 3 ∧ OJ size j2 rest q ∧ QV w wr3 w2.heap.size q ad0 n0 cap0 be0 m0 cp0 ∧ SLB wr3 B (.slice adx Ln capx) rest) (fun i _ => 3 - (intOf i).toNat)
              case atStart => exact ⟨0, _, _, _, _, _, _, _, rfl, Nat.zero_le _, HOJ.out, HV.out, HSx.out⟩
              case round =>
                clear HOJ HV HSx
                try clear hL0
                obtain ⟨j3, q, ad5, n5, cap5, be5, m5, cp5, rfl, hj3, hoj, hv, hsl⟩ := hrel
                obtain ⟨⟨⟨fs5, dn5, fu5, fa5⟩, sz5, fr5, nx5, br5⟩, es5, mo5⟩ := q
                have HV := Lib.hid hv
                have HOJ := Lib.hid hoj
                have HSx := Lib.hid hsl
                have HB := Lib.hid HV.out.b
                clear hv hoj hsl
                by_cases hlt3 : j3 < 3
                · have hj3I : (j3 : Int) < 3 := by omega
                  obtain ⟨hRf, q4, hop, hoj4⟩ := oj_crash HOJ.out ks
                  obtain ⟨⟨⟨fs4, dn4, fu4, fa4⟩, sz4, fr4, nx4, br4⟩, es4, mo4⟩ := q4
                  replace hRf : Right fs5 := hRf
                  have Hop := Lib.hid (show openQ ⟨crashL ks fs5, false, -1, -1⟩ size 1024 = (⟨⟨⟨fs4, dn4, fu4, fa4⟩, sz4, fr4, nx4, br4⟩, es4, mo4⟩, 0) from hop)
                  have HO4 := Lib.hid hoj4
                  have HRf := Lib.hid hRf
                  have HVr := Lib.hid HV.out
                  have HK2 := Lib.hid (HKs.out.under HB.out)
                  clear hop hoj4 hRf
                  obtain ⟨c0, c1, c2, c3, c4, c5, c6, c7, c8, c9⟩ := box10 HV.out.h
                  have hlc := (Array.getElem?_eq_some_iff.1 HV.out.h).1
                  go_wp2_with fail
                  refine (crash_is wr ad5 n5 cap5 dn5 fu5 fa5 fs5 HV.out.i.l.d HRf.out adK nk capK ks HK2.out Hnk.out.1 Hnk.out.2).mono ?_
                  rintro e w7 ⟨ad7, n7, cap7, rfl, hd7, hb⟩
                  clear c0 c1 c2 c3 c4 c5 c6 c7 c8 c9 hlc
                  have Hc7 := Lib.hid hb
                  replace HV := Lib.hid (HV.out.under hb)
                  replace HSx := Lib.hid (HSx.out.under hb)
                  replace HB := Lib.hid (HB.out.trans (hb.mono HB.out.size))
                  have Hd := Lib.hid hd7
                  clear hb hd7 HK2
                  obtain ⟨W7, hW⟩ : ∃ W, W = w7.alloc (.cells (dcells (.slice ad7 n7 cap7) false (-1) (-1)) 24) := ⟨_, rfl⟩
                  have hbW : Below w7.heap.size w7 W7 := by rw [hW]; exact (Below.refl _ w7).alloc (Nat.le_refl _) _
                  have HDk := Lib.hid (show Blk W7 w7.heap.size (dcells (.slice ad7 n7 cap7) false (-1) (-1)) 24 from by rw [hW]; exact blk_new w7 _)
                  have Hb7 := Lib.hid hbW
                  replace HV := Lib.hid (HV.out.under hbW)
                  replace HSx := Lib.hid (HSx.out.under hbW)
                  replace Hd := Lib.hid (Hd.out.under hbW)
                  replace HB := Lib.hid (HB.out.trans (hbW.mono HB.out.size))
                  clear hbW
                  go_upto_region 27 with (fail)
                  rw [← hW]
                  clear hW
                  obtain ⟨c0, c1, c2, c3⟩ := box4' HDk.out
                  have hlc := HDk.out.lt
                  go_wp2_with fail
                  refine (qopen_any W7 ad7 n7 cap7 ⟨crashL ks fs5, false, -1, -1⟩ size 1024 Hd.out Hsz.out (by unfold Num; omega) (HT.out.under HB.out) (by have := HB.out.size; omega)).mono ?_
                  rintro e w8 hP
                  rw [Hop.out] at hP
                  obtain ⟨hb, ad4, n4, cap4, be4, m4, cp4, rfl, hq⟩ := hP
                  clear c0 c1 c2 c3 hlc
                  have Hc8 := Lib.hid hb
                  replace HV := Lib.hid (HV.out.under hb)
                  replace HSx := Lib.hid (HSx.out.under hb)
                  replace HB := Lib.hid (HB.out.trans (hb.mono HB.out.size))
                  clear hb Hd HDk
                  obtain ⟨W8, hW⟩ : ∃ W, W = w8.alloc (.cells #[.slice ad4 n4 cap4, .bool dn4, .int .i64 fu4, .int .i64 fa4, .int .i64 sz4, .int .u64 fr4, .int .u64 nx4, .bool br4, .slice be4 m4 cp4, .int .i64 mo4] 30) := ⟨_, rfl⟩
                  have hbW : Below w8.heap.size w8 W8 := by rw [hW]; exact (Below.refl _ w8).alloc (Nat.le_refl _) _
                  have HQ := Lib.hid (show QV w W8 w8.heap.size ⟨⟨⟨fs4, dn4, fu4, fa4⟩, sz4, fr4, nx4, br4⟩, es4, mo4⟩ ad4 n4 cap4 be4 m4 cp4 from ⟨by rw [hW]; exact blk_new w8 _, hq.under hbW, HB.out.trans (hbW.mono HB.out.size), HB.out.size⟩)
                  replace HV := Lib.hid (HV.out.under hbW)
                  replace HSx := Lib.hid (HSx.out.under hbW)
                  replace HB := Lib.hid (HB.out.trans (hbW.mono HB.out.size))
                  have HbW8 := Lib.hid hbW
                  clear hbW hq
                  go_upto_region 28 with (fail)
                  rw [← hW]
                  clear hW
                  have hB8 : Below wr.heap.size wr W8 := ((Hc7.out.trans (Hb7.out.mono Hc7.out.size)).trans (Hc8.out.mono (by have := Hc7.out.size; have := Hb7.out.size; omega))).trans (HbW8.out.mono (by have := Hc7.out.size; have := Hb7.out.size; have := Hc8.out.size; omega))
                  have hW7 : wr.heap.size ≤ W7.heap.size := by have := Hc7.out.size; have := Hb7.out.size; omega
                  have HB8 := Lib.hid hB8
                  have hm4 : m4 = Ln := by rw [HQ.out.i.e.1, ← HLn.out]; exact oj_len HO4.out
                  have HE4 := Lib.hid HQ.out.i.e.2.2.2
                  have Hat := Lib.hid (fun (i : Nat) (e : E) (h : es4[i]? = some e) => oj_at HO4.out h)
                  have HeL := Lib.hid (show es4.length = m4 from HQ.out.i.e.1.symm)
                  subst hm4
                  clear hB8
                  obtain ⟨d0, d1, d2, d3, d4, d5, d6, d7, d8, d9⟩ := box10 HQ.out.h
                  have hld := tlt HQ.out.h
                  obtain ⟨wo3, hwo3⟩ : ∃ x, x = wr := ⟨_, rfl⟩
                  clear hwo3
                  go_upto_region 30 with (fail)
                  go_wp2
                  clear d0 d1 d2 d3 d4 d5 d6 d7 d8 d9 hld
                  go_loopw [144] (fun i wr4 => ∃ k : Nat, i = .int .i64 (k : Int) ∧ k ≤ m4 ∧ Below W8.heap.size W8 wr4) (fun i _ => m4 - (intOf i).toNat)
                  case atStart => exact ⟨0, rfl, Nat.zero_le _, Below.refl _ _⟩
                  case round =>
                    obtain ⟨k, rfl, hk, hbw⟩ := hrel
                    by_cases hkm : k < m4
                    · have hkI : (k : Int) < (m4 : Int) := by omega
                      obtain ⟨x, hx⟩ : ∃ x, es4[k]? = some x := ⟨es4[k]'(by have := HeL.out; omega), by simp⟩
                      have hne : es4 ≠ [] := by rintro rfl; simp at hx
                      obtain ⟨ge, oe, rfl, hge, hce⟩ := HE4.out hne
                      obtain ⟨q0, q1, q2⟩ := hce k x hx
                      have hat := Hat.out k x hx
                      obtain ⟨xs, xd, xl⟩ := x
                      simp only at q0 q1 q2 hat
                      have hrn : rest ≠ [] := by rintro rfl; simp at hat
                      obtain ⟨adz, capz, hvz, hcz, hhz⟩ := HSx.out
                      injection hvz with hz1' hz2' hz3'
                      subst hz1' hz3'
                      obtain ⟨gs, os, rfl, hBs, hgs, his⟩ := hhz hrn
                      have hsc := his k xd hat
                      replace q0 := (hbw.cell (p := ⟨ge, oe + k * 3, none⟩) hge).trans q0
                      replace q1 := (hbw.cell (p := ⟨ge, oe + k * 3 + 1, none⟩) hge).trans q1
                      replace q2 := (hbw.cell (p := ⟨ge, oe + k * 3 + 2, none⟩) hge).trans q2
                      replace hsc := (hbw.cell (p := ⟨gs, os + k, none⟩) hgs).trans hsc
                      have hge4 : ge < wr.heap.size := Nat.lt_of_lt_of_le hge hbw.size
                      have hgs4 : gs < wr.heap.size := Nat.lt_of_lt_of_le hgs hbw.size
                      obtain ⟨V, hV⟩ : ∃ V, V = wr.alloc (.cells #[.int .u64 (xs : Int), .string xd, .bool xl] 39) := ⟨_, rfl⟩
                      have hbV : Below wr.heap.size wr V := by rw [hV]; exact (Below.refl _ wr).alloc (Nat.le_refl _) _
                      have hxV : V.heap[wr.heap.size]? = some (.cells #[.int .u64 (xs : Int), .string xd, .bool xl] 39 (0, 0)) := by rw [hV]; exact blk_new wr _
                      have hscV := (hbV.cell (p := ⟨gs, os + k, none⟩) hgs4).trans hsc
                      have HbV := Lib.hid (hbw.trans (hbV.mono hbw.size))
                      have hgsV : gs < V.heap.size := Nat.lt_of_lt_of_le hgs4 hbV.size
                      clear hbV hz2' hcz hhz his hce hx hat hne hrn hBs
                      go_upto_region 33 with (fail)
                      rw [← hV]
                      clear hV q0 q1 q2 hsc
                      obtain ⟨x0, x1, x2⟩ := box3 hxV
                      have hlx := tlt hxV
                      clear hxV
                      go_quiet (fail)
                      go_wp2
                      go_roundw
                      case rel => exact ⟨k + 1, by go_num, by omega, below_drewN HbV.out _⟩
                      case measure => simp [intOf]; omega
                    · have hkI : ¬ (k : Int) < (m4 : Int) := by omega
                      have HQw := Lib.hid (HQ.out.under hbw)
                      have HVw := Lib.hid (HV.out.under hbw)
                      have HSw := Lib.hid (HSx.out.under hbw)
                      have HBw := Lib.hid (HB8.out.trans (hbw.mono HB8.out.size))
                      clear hbw
                      obtain ⟨c0, c1, c2, c3, c4, c5, c6, c7, c8, c9⟩ := box10 HQw.out.h
                      have hlc := tlt HQw.out.h
                      obtain ⟨y0, y1, y2, y3, y4, y5, y6, y7, y8, y9⟩ := box10 HVw.out.h
                      have hly := tlt HVw.out.h
                      obtain ⟨z0, z1, z2, z3, z4, z5, z6, z7, z8, z9⟩ := frz10 HVw.out.h
                      go_upto_region 25 with (fail)
                      obtain ⟨G, hG⟩ : ∃ G, G = ((((((((((wr).setCell ⟨w2.heap.size, 0, none⟩ (.slice ad4 n4 cap4)).setCell ⟨w2.heap.size, 1, none⟩ (.bool dn4)).setCell ⟨w2.heap.size, 2, none⟩ (.int .i64 fu4)).setCell ⟨w2.heap.size, 3, none⟩ (.int .i64 fa4)).setCell ⟨w2.heap.size, 4, none⟩ (.int .i64 sz4)).setCell ⟨w2.heap.size, 5, none⟩ (.int .u64 fr4)).setCell ⟨w2.heap.size, 6, none⟩ (.int .u64 nx4)).setCell ⟨w2.heap.size, 7, none⟩ (.bool br4)).setCell ⟨w2.heap.size, 8, none⟩ (.slice be4 m4 cp4)).setCell ⟨w2.heap.size, 9, none⟩ (.int .i64 mo4) := ⟨_, rfl⟩
                      rw [← hG]
                      have HV2 := Lib.hid (HVr.out.put2 HBw.out HQw.out.i hG)
                      have hgo : ∀ b, b ≠ w2.heap.size → G.heap[b]? = wr.heap[b]? := fun b hb => by rw [hG]; exact put10_other hb _ _ _ _ _ _ _ _ _ _
                      have hgs : G.heap.size = wr.heap.size := by rw [hG]; exact put10_size _ _ _ _ _ _ _ _ _ _ _ _
                      have HS2 := Lib.hid (HSw.out.kept (w' := G) (fun b hb _ => hgo b (by omega)) (Nat.le_of_eq hgs.symm))
                      clear c0 c1 c2 c3 c4 c5 c6 c7 c8 c9 hlc y0 y1 y2 y3 y4 y5 y6 y7 y8 y9 hly z0 z1 z2 z3 z4 z5 z6 z7 z8 z9 hG hgo hgs
                      go_wp2
                      go_roundw
                      case rel => exact ⟨j3 + 1, _, ad4, n4, cap4, be4, m4, cp4, by go_num, by omega, HO4.out, HV2.out, HS2.out⟩
                      case measure => simp [intOf]; omega
                · have hj3I : ¬ (j3 : Int) < 3 := by omega
                  go_wp2_with fail
                  refine (parse0 _).mono ?_
                  rintro e w9 ⟨rfl, hb⟩
                  have HB9 := Lib.hid (HB.out.trans (hb.mono HB.out.size))
                  clear hb
                  go_wp2
                  go_ret
                  exact ⟨rfl, HB9.out⟩
end Go.Proofs.YtkhmdofeonlnpaaGreatDoor
