/- SERVER: THE WALK OVER lives. -/
import Derived.Test.YtomicdkmbgckkaaGreatDoorGau
import Derived.Deep.RegionWith
namespace Go.Proofs.YtomicdkmbgckkaaGreatDoor
open Go.RowKit
set_option maxRecDepth 100000
set_option linter.unusedVariables false
set_option linter.unusedSimpArgs false

theorem tk {P : Program} {ops : Array Oper} {Q : Exit → Act → World → Prop} {md : Region.Mode} (i : Nat) {oi : Oper} (v : Value) {fuel : Nat} {listed : Array Bool} {a : Act} {w : World} (hi : ops[i]? = some oi)
    (hb : (Region.noSelect ops && Region.free md ops listed i && (Region.ready md ops listed).contains i && Region.wanted oi (yielded ops a.tmps)) = true)
    (hQ : ∀ c a w, Q (.panic c) (a.put oi.dst v) w → Q (.panic c) a w) (hy : ∀ w, (execOp a.eval oi).run P w = .ok (.value v) w) (h : wpAny P md ops Q fuel (listed.setIfInBounds i true) (a.put oi.dst v) w) : wpAny P md ops Q (fuel + 1) listed a w := by
  simp only [Bool.and_eq_true] at hb
  exact wpAny_take hi hb.1.1.1 hb.1.1.2 hb.1.2 hQ (.inl ⟨hb.2, hy⟩) h
def lB : H.T := [120, 13, 10]
theorem lk_a (w : World) (hT : Tabs w) : Calls Tryz.prog 10 #[.agg #[S lText, S [], .bool false, .bool false, .bool false, .int .u64 5], .agg #[.int .i64 1000, .int .u64 10], .int .u64 6] w fun e w' => e = .returned (.tuple #[.agg #[S lB, S l404, .bool false, .bool false, .bool false, .int .u64 6], .agg #[.int .u8 0, .slice none 0 0], .int .u8 1, .int .i64 0]) ∧ Below w.heap.size w w' :=
  cn_look_a w lText [] false 5 1000 10 6 [71, 69, 84] [] l404 19 (by decide) (by decide) (by decide) lChk1 (by decide) lRead (wrc_of lWrite (by decide) big_nil (by decide) hT) hT
theorem lk_b (w : World) (s4 : H.T) (h4 : H.writeRes 400 [cnClose] [] = (s4, 0)) (hl : s4.length ≤ 1000) (hT : Tabs w) : Calls Tryz.prog 10 #[.agg #[S lB, S l404, .bool false, .bool false, .bool false, .int .u64 6], .agg #[.int .i64 1000, .int .u64 10], .int .u64 7] w fun e w' => e = .returned (.tuple #[.agg #[S [], S (l404 ++ s4), .bool true, .bool false, .bool false, .int .u64 6], .agg #[.int .u8 0, .slice none 0 0], .int .u8 1, .int .i64 0]) ∧ Below w.heap.size w w' :=
  cn_look_b w lB l404 false 6 1000 10 7 ⟨[], [], [], []⟩ s4 0 (by decide) (by decide) hl lChk2 lRead2 (wrc_of h4 (by decide) big_close (by decide) hT) hT

/-- what a world in lives is known by: its tables, what it is behind, the connection's block -/
structure SF (w : World) (g : Nat) (k : Array Value) (C : World) : Prop where
  t : Tabs C
  b : Below w.heap.size w C
  k : C.heap[g]? = some (.cells k 24 (0, 0))
theorem SF.under {w C D : World} {g : Nat} {k : Array Value} (h : SF w g k C) (hb : Below C.heap.size C D) : SF w g k D := ⟨h.t.under hb, h.b.trans (hb.mono h.b.size), blk_under h.k hb⟩
theorem alcx (C : World) (x : Array Value) (t : TypeId) : ∃ D, D = C.alloc (.cells x t) ∧ Below C.heap.size C D ∧ D.heap[C.heap.size]? = some (.cells x t (0, 0)) := ⟨_, rfl, (Below.refl _ C).alloc (Nat.le_refl _) _, blk_new C _⟩

def Lv2 (w : World) (g : Nat) (e : Exit) (a' : Act) (w' : World) : Prop := e = .normal ∧ Below w.heap.size w w' ∧ w'.heap[g]? = some (.cells #[S lB, S l404, .bool false, .bool false, .bool false, .int .u64 6] 24 (0, 0)) ∧ ∃ u3 u10 u11 u12 u13 u14 u15 u16 u17 u18 u19 u20 u21 u22 u23 : Value, a' = ⟨#[.bool false, .pointer (some ⟨g, 0, none⟩), .int .i64 0, u3, .int .u8 1, .int .i64 0, undef, undef, undef, undef, u10, u11, u12, u13, u14, u15, u16, u17, u18, u19, u20, u21, u22, u23, undef, undef, undef, undef, undef, undef, undef, undef, undef, undef, undef, undef, undef, undef, undef, undef, undef, undef, undef, undef, undef, undef, undef, undef, undef, undef, undef, undef, undef, undef, undef, undef, undef, undef, undef, undef, undef, undef, undef, undef, undef, undef, undef, undef, undef, undef, undef, undef, undef, undef, undef], []⟩
def Lv3 (w : World) (g : Nat) (s4 : H.T) (u3 u10 u11 u12 u13 u14 u15 u16 u17 u18 u19 u20 u21 u22 u23 : Value) (e : Exit) (a' : Act) (w' : World) : Prop := e = .normal ∧ Below w.heap.size w w' ∧ w'.heap[g]? = some (.cells #[S lB, S l404, .bool false, .bool false, .bool false, .int .u64 6] 24 (0, 0)) ∧ ∃ g6 : Nat, w'.heap[g6]? = some (.cells #[S [], S (l404 ++ s4), .bool true, .bool false, .bool false, .int .u64 6] 24 (0, 0)) ∧ ∃ u7 u24 u25 u26 u27 u28 u29 u30 u31 : Value, a' = ⟨#[.bool false, .pointer (some ⟨g, 0, none⟩), .int .i64 0, u3, .int .u8 1, .int .i64 0, .pointer (some ⟨g6, 0, none⟩), u7, .int .u8 1, .int .i64 0, u10, u11, u12, u13, u14, u15, u16, u17, u18, u19, u20, u21, u22, u23, u24, u25, u26, u27, u28, u29, u30, u31, undef, undef, undef, undef, undef, undef, undef, undef, undef, undef, undef, undef, undef, undef, undef, undef, undef, undef, undef, undef, undef, undef, undef, undef, undef, undef, undef, undef, undef, undef, undef, undef, undef, undef, undef, undef, undef, undef, undef, undef, undef, undef, undef], []⟩
set_option maxHeartbeats 20000000 in
theorem cn_lives (w : World) (hT : Tabs w) : Calls Tryz.prog 5 #[] w fun e w' => e = .returned (.bool true) ∧ Below w.heap.size w w' := by
  have hru := cn_rules w
  have hT0 := hT
  have HT := Lib.hid hT
  clear hT
  go_enter Tryz.func5, Tryz.ntmps5
  go_wp2_with (go_at_call 9; refine hru.mono ?_; rintro e w1 ⟨rfl, h1⟩)
  have hfe := cn_feed w1 cn0 1000 10 5 lText (by decide)
  rw [lFeed] at hfe
  refine hfe.mono ?_
  rintro e w2 ⟨rfl, h2⟩
  have hb2 := h1.trans (h2.mono h1.size)
  have GHF := Lib.hid (show w.heap.size ≤ w2.heap.size from hb2.size)
  obtain ⟨Y, hY⟩ : ∃ Y, Y = w2.alloc (.cells #[S lText, S [], .bool false, .bool false, .bool false, .int .u64 5] 24) := ⟨_, rfl⟩
  have hbY : Below w2.heap.size w2 Y := by rw [hY]; exact (Below.refl _ w2).alloc (Nat.le_refl _) _
  have HK := Lib.hid (show Y.heap[w2.heap.size]? = some (.cells #[S lText, S [], .bool false, .bool false, .bool false, .int .u64 5] 24 (0, 0)) from by rw [hY]; exact blk_new w2 _)
  have HB := Lib.hid (hb2.trans (hbY.mono hb2.size))
  replace HT := Lib.hid (HT.out.under HB.out)
  have HT0 := Lib.hid hT0
  have HF := Lib.hid (SF.mk HT.out HB.out HK.out)
  clear h1 h2 hb2 hbY hru hfe hT0 HT HB HK
  go_upto_region 2 with (fail)
  rw [← hY]
  clear hY
  refine Code.wp_mono (Q := Lv2 w w2.heap.size) ?post ?reg
  case reg =>
    refine wp_region_any (by kernel_rfl) ?_
    obtain ⟨aX0, hX⟩ : ∃ W, Y.drew = W := ⟨_, rfl⟩
    change wpAny _ _ _ _ _ _ _ (Y.drew)
    rw [hX]
    have hbD : Below Y.heap.size Y aX0 := by rw [← hX]; exact (Below.refl _ Y).drew
    replace HF := Lib.hid (HF.out.under hbD)
    clear hbD hX
    refine wpAny_ready (rs := [0, 1, 8]) (by kernel_rfl) (by simp) ?_
    refine AllReady.cons rfl (fun K hK => ?_) ?_
    · skip
      obtain ⟨c0, c1, c2, c3, c4, c5⟩ := box6 HF.out.k
      have hl := blk_lt HF.out.k
      go_simp
      refine hK _ _ ?_
      clear hK K c0 c1 c2 c3 c4 c5 hl
      refine wpAny_ready (rs := [1, 8]) (by kernel_rfl) (by simp) ?_
      refine AllReady.cons rfl (fun K hK => ?_) ?_
      · skip
        go_simp
        go_at_call 9
        refine (cn_rules aX0).mono ?_
        rintro e aX1 ⟨rfl, hbD⟩
        replace HF := Lib.hid (HF.out.under hbD)
        clear hbD
        refine hK _ _ ?_
        clear hK K
        refine wpAny_ready (rs := [2, 8]) (by kernel_rfl) (by simp) ?_
        refine AllReady.cons rfl (fun K hK => ?_) ?_
        · skip
          go_simp
          go_at_call 10
          refine (lk_a aX1 HF.out.t).mono ?_
          rintro e aX2 ⟨rfl, hbD⟩
          replace HF := Lib.hid (HF.out.under hbD)
          clear hbD
          refine hK _ _ ?_
          clear hK K
          refine tk 3 ?va1 rfl (by kernel_rfl) (fun _ _ _ h => nomatch h.1) ?ha1 ?ra1
          case ha1 => (intro w; go_simp; first | done | (with_reducible rfl))
          refine tk 4 ?va2 rfl (by kernel_rfl) (fun _ _ _ h => nomatch h.1) ?ha2 ?ra2
          case ha2 => (intro w; go_simp; first | done | (with_reducible rfl))
          refine tk 5 ?va3 rfl (by kernel_rfl) (fun _ _ _ h => nomatch h.1) ?ha3 ?ra3
          case ha3 => (intro w; go_simp; first | done | (with_reducible rfl))
          refine tk 6 ?va4 rfl (by kernel_rfl) (fun _ _ _ h => nomatch h.1) ?ha4 ?ra4
          case ha4 => (intro w; go_simp; first | done | (with_reducible rfl))
          refine tk 7 ?va5 rfl (by kernel_rfl) (fun _ _ _ h => nomatch h.1) ?ha5 ?ra5
          case ha5 => (intro w; go_simp; first | done | (with_reducible rfl))
          go_simp
          refine wpAny_ready (rs := [8]) (by kernel_rfl) (by simp) ?_
          refine AllReady.cons rfl (fun K hK => ?_) AllReady.nil
          go_simp
          refine hK _ _ ?_
          clear hK K
          obtain ⟨aX3, hD, hbD, hF⟩ := alcx aX2 #[.int .u8 0, .slice none 0 0] 40
          rw [← hD]
          have GHZ := Lib.hid HF.out.b.size
          have NHZHF := Lib.hid (Nat.ne_of_lt (blk_lt HF.out.k))
          replace HF := Lib.hid (HF.out.under hbD)
          have HZ := Lib.hid hF
          clear hbD hD hF
          refine wpAny_ready (rs := [9]) (by kernel_rfl) (by simp) ?_
          refine AllReady.cons rfl (fun K hK => ?_) AllReady.nil
          obtain ⟨c0, c1, c2, c3, c4, c5⟩ := box6 HF.out.k
          obtain ⟨f0, f1, f2, f3, f4, f5⟩ := frz6 HF.out.k
          have hl := blk_lt HF.out.k
          go_simp
          refine hK _ _ ?_
          clear hK K c0 c1 c2 c3 c4 c5 f0 f1 f2 f3 f4 f5
          obtain ⟨aX4, hD⟩ : ∃ W, W = ((((((aX3).setCell ⟨w2.heap.size, 0, none⟩ (S lB)).setCell ⟨w2.heap.size, 1, none⟩ (S l404)).setCell ⟨w2.heap.size, 2, none⟩ (.bool false)).setCell ⟨w2.heap.size, 3, none⟩ (.bool false)).setCell ⟨w2.heap.size, 4, none⟩ (.bool false)).setCell ⟨w2.heap.size, 5, none⟩ (.int .u64 6) := ⟨_, rfl⟩
          rw [← hD]
          obtain ⟨hk, hg⟩ := put6 HF.out.k _ _ _ _ _ _ hD
          have hb := grown_below HF.out.b hg GHF.out hl
          replace HZ := Lib.hid ((hg.block _ (blk_lt HZ.out) (fun e => NHZHF.out (by injection e with e; exact e.symm))).trans HZ.out)
          have HK := Lib.hid hk
          have HB := Lib.hid hb
          clear hk hg hD hl hb
          refine wpAny_ready (rs := [10]) (by kernel_rfl) (by simp) ?_
          refine AllReady.cons rfl (fun K hK => ?_) AllReady.nil
          obtain ⟨c0, c1⟩ := box2 HZ.out
          obtain ⟨f0, f1⟩ := box2' HZ.out
          have hl := blk_lt HZ.out
          go_simp
          refine hK _ _ ?_
          clear hK K c0 c1 f0 f1
          obtain ⟨aX5, hD⟩ : ∃ W, W = ((aX4).setCell ⟨aX2.heap.size, 0, none⟩ (.int .u8 0)).setCell ⟨aX2.heap.size, 1, none⟩ (.slice none 0 0) := ⟨_, rfl⟩
          rw [← hD]
          obtain ⟨hk, hg⟩ := put2 HZ.out _ _ hD
          have hb := grown_below HB.out hg GHZ.out hl
          replace HK := Lib.hid ((hg.block _ (blk_lt HK.out) (fun e => NHZHF.out (by injection e))).trans HK.out)
          replace HB := Lib.hid hb
          replace HZ := Lib.hid hk
          clear hk hg hD hl hb
          refine wpAny_ready (rs := [11]) (by kernel_rfl) (by simp) ?_
          refine AllReady.cons rfl (fun K hK => ?_) AllReady.nil
          go_simp
          refine hK _ _ ?_
          clear hK K
          refine wpAny_ready (rs := [12]) (by kernel_rfl) (by simp) ?_
          refine AllReady.cons rfl (fun K hK => ?_) AllReady.nil
          go_simp
          refine hK _ _ ?_
          clear hK K
          refine wpAny_done (by kernel_rfl) ?_ _
          go_simp
          exact ⟨rfl, HB.out, HK.out, _, _, _, _, _, _, _, _, _, _, _, _, _, _, _, rfl⟩
        refine AllReady.cons rfl (fun K hK => ?_) AllReady.nil
        go_simp
        refine hK _ _ ?_
        clear hK K
        obtain ⟨aX2, hD, hbD, hF⟩ := alcx aX1 #[.int .u8 0, .slice none 0 0] 40
        rw [← hD]
        have GHZ := Lib.hid HF.out.b.size
        have NHZHF := Lib.hid (Nat.ne_of_lt (blk_lt HF.out.k))
        replace HF := Lib.hid (HF.out.under hbD)
        have HZ := Lib.hid hF
        clear hbD hD hF
        refine wpAny_ready (rs := [2]) (by kernel_rfl) (by simp) ?_
        refine AllReady.cons rfl (fun K hK => ?_) AllReady.nil
        go_simp
        go_at_call 10
        refine (lk_a aX2 HF.out.t).mono ?_
        rintro e aX3 ⟨rfl, hbD⟩
        replace HF := Lib.hid (HF.out.under hbD)
        replace HZ := Lib.hid (blk_under HZ.out hbD)
        clear hbD
        refine hK _ _ ?_
        clear hK K
        refine tk 3 ?va6 rfl (by kernel_rfl) (fun _ _ _ h => nomatch h.1) ?ha6 ?ra6
        case ha6 => (intro w; go_simp; first | done | (with_reducible rfl))
        refine tk 4 ?va7 rfl (by kernel_rfl) (fun _ _ _ h => nomatch h.1) ?ha7 ?ra7
        case ha7 => (intro w; go_simp; first | done | (with_reducible rfl))
        refine tk 5 ?va8 rfl (by kernel_rfl) (fun _ _ _ h => nomatch h.1) ?ha8 ?ra8
        case ha8 => (intro w; go_simp; first | done | (with_reducible rfl))
        refine tk 6 ?va9 rfl (by kernel_rfl) (fun _ _ _ h => nomatch h.1) ?ha9 ?ra9
        case ha9 => (intro w; go_simp; first | done | (with_reducible rfl))
        refine tk 7 ?va10 rfl (by kernel_rfl) (fun _ _ _ h => nomatch h.1) ?ha10 ?ra10
        case ha10 => (intro w; go_simp; first | done | (with_reducible rfl))
        go_simp
        refine wpAny_ready (rs := [9]) (by kernel_rfl) (by simp) ?_
        refine AllReady.cons rfl (fun K hK => ?_) AllReady.nil
        obtain ⟨c0, c1, c2, c3, c4, c5⟩ := box6 HF.out.k
        obtain ⟨f0, f1, f2, f3, f4, f5⟩ := frz6 HF.out.k
        have hl := blk_lt HF.out.k
        go_simp
        refine hK _ _ ?_
        clear hK K c0 c1 c2 c3 c4 c5 f0 f1 f2 f3 f4 f5
        obtain ⟨aX4, hD⟩ : ∃ W, W = ((((((aX3).setCell ⟨w2.heap.size, 0, none⟩ (S lB)).setCell ⟨w2.heap.size, 1, none⟩ (S l404)).setCell ⟨w2.heap.size, 2, none⟩ (.bool false)).setCell ⟨w2.heap.size, 3, none⟩ (.bool false)).setCell ⟨w2.heap.size, 4, none⟩ (.bool false)).setCell ⟨w2.heap.size, 5, none⟩ (.int .u64 6) := ⟨_, rfl⟩
        rw [← hD]
        obtain ⟨hk, hg⟩ := put6 HF.out.k _ _ _ _ _ _ hD
        have hb := grown_below HF.out.b hg GHF.out hl
        replace HZ := Lib.hid ((hg.block _ (blk_lt HZ.out) (fun e => NHZHF.out (by injection e with e; exact e.symm))).trans HZ.out)
        have HK := Lib.hid hk
        have HB := Lib.hid hb
        clear hk hg hD hl hb
        refine wpAny_ready (rs := [10]) (by kernel_rfl) (by simp) ?_
        refine AllReady.cons rfl (fun K hK => ?_) AllReady.nil
        obtain ⟨c0, c1⟩ := box2 HZ.out
        obtain ⟨f0, f1⟩ := box2' HZ.out
        have hl := blk_lt HZ.out
        go_simp
        refine hK _ _ ?_
        clear hK K c0 c1 f0 f1
        obtain ⟨aX5, hD⟩ : ∃ W, W = ((aX4).setCell ⟨aX1.heap.size, 0, none⟩ (.int .u8 0)).setCell ⟨aX1.heap.size, 1, none⟩ (.slice none 0 0) := ⟨_, rfl⟩
        rw [← hD]
        obtain ⟨hk, hg⟩ := put2 HZ.out _ _ hD
        have hb := grown_below HB.out hg GHZ.out hl
        replace HK := Lib.hid ((hg.block _ (blk_lt HK.out) (fun e => NHZHF.out (by injection e))).trans HK.out)
        replace HB := Lib.hid hb
        replace HZ := Lib.hid hk
        clear hk hg hD hl hb
        refine wpAny_ready (rs := [11]) (by kernel_rfl) (by simp) ?_
        refine AllReady.cons rfl (fun K hK => ?_) AllReady.nil
        go_simp
        refine hK _ _ ?_
        clear hK K
        refine wpAny_ready (rs := [12]) (by kernel_rfl) (by simp) ?_
        refine AllReady.cons rfl (fun K hK => ?_) AllReady.nil
        go_simp
        refine hK _ _ ?_
        clear hK K
        refine wpAny_done (by kernel_rfl) ?_ _
        go_simp
        exact ⟨rfl, HB.out, HK.out, _, _, _, _, _, _, _, _, _, _, _, _, _, _, _, rfl⟩
      refine AllReady.cons rfl (fun K hK => ?_) AllReady.nil
      go_simp
      refine hK _ _ ?_
      clear hK K
      obtain ⟨aX1, hD, hbD, hF⟩ := alcx aX0 #[.int .u8 0, .slice none 0 0] 40
      rw [← hD]
      have GHZ := Lib.hid HF.out.b.size
      have NHZHF := Lib.hid (Nat.ne_of_lt (blk_lt HF.out.k))
      replace HF := Lib.hid (HF.out.under hbD)
      have HZ := Lib.hid hF
      clear hbD hD hF
      refine wpAny_ready (rs := [1]) (by kernel_rfl) (by simp) ?_
      refine AllReady.cons rfl (fun K hK => ?_) AllReady.nil
      go_simp
      go_at_call 9
      refine (cn_rules aX1).mono ?_
      rintro e aX2 ⟨rfl, hbD⟩
      replace HF := Lib.hid (HF.out.under hbD)
      replace HZ := Lib.hid (blk_under HZ.out hbD)
      clear hbD
      refine hK _ _ ?_
      clear hK K
      refine wpAny_ready (rs := [2]) (by kernel_rfl) (by simp) ?_
      refine AllReady.cons rfl (fun K hK => ?_) AllReady.nil
      go_simp
      go_at_call 10
      refine (lk_a aX2 HF.out.t).mono ?_
      rintro e aX3 ⟨rfl, hbD⟩
      replace HF := Lib.hid (HF.out.under hbD)
      replace HZ := Lib.hid (blk_under HZ.out hbD)
      clear hbD
      refine hK _ _ ?_
      clear hK K
      refine tk 3 ?va11 rfl (by kernel_rfl) (fun _ _ _ h => nomatch h.1) ?ha11 ?ra11
      case ha11 => (intro w; go_simp; first | done | (with_reducible rfl))
      refine tk 4 ?va12 rfl (by kernel_rfl) (fun _ _ _ h => nomatch h.1) ?ha12 ?ra12
      case ha12 => (intro w; go_simp; first | done | (with_reducible rfl))
      refine tk 5 ?va13 rfl (by kernel_rfl) (fun _ _ _ h => nomatch h.1) ?ha13 ?ra13
      case ha13 => (intro w; go_simp; first | done | (with_reducible rfl))
      refine tk 6 ?va14 rfl (by kernel_rfl) (fun _ _ _ h => nomatch h.1) ?ha14 ?ra14
      case ha14 => (intro w; go_simp; first | done | (with_reducible rfl))
      refine tk 7 ?va15 rfl (by kernel_rfl) (fun _ _ _ h => nomatch h.1) ?ha15 ?ra15
      case ha15 => (intro w; go_simp; first | done | (with_reducible rfl))
      go_simp
      refine wpAny_ready (rs := [9]) (by kernel_rfl) (by simp) ?_
      refine AllReady.cons rfl (fun K hK => ?_) AllReady.nil
      obtain ⟨c0, c1, c2, c3, c4, c5⟩ := box6 HF.out.k
      obtain ⟨f0, f1, f2, f3, f4, f5⟩ := frz6 HF.out.k
      have hl := blk_lt HF.out.k
      go_simp
      refine hK _ _ ?_
      clear hK K c0 c1 c2 c3 c4 c5 f0 f1 f2 f3 f4 f5
      obtain ⟨aX4, hD⟩ : ∃ W, W = ((((((aX3).setCell ⟨w2.heap.size, 0, none⟩ (S lB)).setCell ⟨w2.heap.size, 1, none⟩ (S l404)).setCell ⟨w2.heap.size, 2, none⟩ (.bool false)).setCell ⟨w2.heap.size, 3, none⟩ (.bool false)).setCell ⟨w2.heap.size, 4, none⟩ (.bool false)).setCell ⟨w2.heap.size, 5, none⟩ (.int .u64 6) := ⟨_, rfl⟩
      rw [← hD]
      obtain ⟨hk, hg⟩ := put6 HF.out.k _ _ _ _ _ _ hD
      have hb := grown_below HF.out.b hg GHF.out hl
      replace HZ := Lib.hid ((hg.block _ (blk_lt HZ.out) (fun e => NHZHF.out (by injection e with e; exact e.symm))).trans HZ.out)
      have HK := Lib.hid hk
      have HB := Lib.hid hb
      clear hk hg hD hl hb
      refine wpAny_ready (rs := [10]) (by kernel_rfl) (by simp) ?_
      refine AllReady.cons rfl (fun K hK => ?_) AllReady.nil
      obtain ⟨c0, c1⟩ := box2 HZ.out
      obtain ⟨f0, f1⟩ := box2' HZ.out
      have hl := blk_lt HZ.out
      go_simp
      refine hK _ _ ?_
      clear hK K c0 c1 f0 f1
      obtain ⟨aX5, hD⟩ : ∃ W, W = ((aX4).setCell ⟨aX0.heap.size, 0, none⟩ (.int .u8 0)).setCell ⟨aX0.heap.size, 1, none⟩ (.slice none 0 0) := ⟨_, rfl⟩
      rw [← hD]
      obtain ⟨hk, hg⟩ := put2 HZ.out _ _ hD
      have hb := grown_below HB.out hg GHZ.out hl
      replace HK := Lib.hid ((hg.block _ (blk_lt HK.out) (fun e => NHZHF.out (by injection e))).trans HK.out)
      replace HB := Lib.hid hb
      replace HZ := Lib.hid hk
      clear hk hg hD hl hb
      refine wpAny_ready (rs := [11]) (by kernel_rfl) (by simp) ?_
      refine AllReady.cons rfl (fun K hK => ?_) AllReady.nil
      go_simp
      refine hK _ _ ?_
      clear hK K
      refine wpAny_ready (rs := [12]) (by kernel_rfl) (by simp) ?_
      refine AllReady.cons rfl (fun K hK => ?_) AllReady.nil
      go_simp
      refine hK _ _ ?_
      clear hK K
      refine wpAny_done (by kernel_rfl) ?_ _
      go_simp
      exact ⟨rfl, HB.out, HK.out, _, _, _, _, _, _, _, _, _, _, _, _, _, _, _, rfl⟩
    refine AllReady.cons rfl (fun K hK => ?_) ?_
    · skip
      go_simp
      go_at_call 9
      refine (cn_rules aX0).mono ?_
      rintro e aX1 ⟨rfl, hbD⟩
      replace HF := Lib.hid (HF.out.under hbD)
      clear hbD
      refine hK _ _ ?_
      clear hK K
      refine wpAny_ready (rs := [0, 8]) (by kernel_rfl) (by simp) ?_
      refine AllReady.cons rfl (fun K hK => ?_) ?_
      · skip
        obtain ⟨c0, c1, c2, c3, c4, c5⟩ := box6 HF.out.k
        have hl := blk_lt HF.out.k
        go_simp
        refine hK _ _ ?_
        clear hK K c0 c1 c2 c3 c4 c5 hl
        refine wpAny_ready (rs := [2, 8]) (by kernel_rfl) (by simp) ?_
        refine AllReady.cons rfl (fun K hK => ?_) ?_
        · skip
          go_simp
          go_at_call 10
          refine (lk_a aX1 HF.out.t).mono ?_
          rintro e aX2 ⟨rfl, hbD⟩
          replace HF := Lib.hid (HF.out.under hbD)
          clear hbD
          refine hK _ _ ?_
          clear hK K
          refine tk 3 ?va16 rfl (by kernel_rfl) (fun _ _ _ h => nomatch h.1) ?ha16 ?ra16
          case ha16 => (intro w; go_simp; first | done | (with_reducible rfl))
          refine tk 4 ?va17 rfl (by kernel_rfl) (fun _ _ _ h => nomatch h.1) ?ha17 ?ra17
          case ha17 => (intro w; go_simp; first | done | (with_reducible rfl))
          refine tk 5 ?va18 rfl (by kernel_rfl) (fun _ _ _ h => nomatch h.1) ?ha18 ?ra18
          case ha18 => (intro w; go_simp; first | done | (with_reducible rfl))
          refine tk 6 ?va19 rfl (by kernel_rfl) (fun _ _ _ h => nomatch h.1) ?ha19 ?ra19
          case ha19 => (intro w; go_simp; first | done | (with_reducible rfl))
          refine tk 7 ?va20 rfl (by kernel_rfl) (fun _ _ _ h => nomatch h.1) ?ha20 ?ra20
          case ha20 => (intro w; go_simp; first | done | (with_reducible rfl))
          go_simp
          refine wpAny_ready (rs := [8]) (by kernel_rfl) (by simp) ?_
          refine AllReady.cons rfl (fun K hK => ?_) AllReady.nil
          go_simp
          refine hK _ _ ?_
          clear hK K
          obtain ⟨aX3, hD, hbD, hF⟩ := alcx aX2 #[.int .u8 0, .slice none 0 0] 40
          rw [← hD]
          have GHZ := Lib.hid HF.out.b.size
          have NHZHF := Lib.hid (Nat.ne_of_lt (blk_lt HF.out.k))
          replace HF := Lib.hid (HF.out.under hbD)
          have HZ := Lib.hid hF
          clear hbD hD hF
          refine wpAny_ready (rs := [9]) (by kernel_rfl) (by simp) ?_
          refine AllReady.cons rfl (fun K hK => ?_) AllReady.nil
          obtain ⟨c0, c1, c2, c3, c4, c5⟩ := box6 HF.out.k
          obtain ⟨f0, f1, f2, f3, f4, f5⟩ := frz6 HF.out.k
          have hl := blk_lt HF.out.k
          go_simp
          refine hK _ _ ?_
          clear hK K c0 c1 c2 c3 c4 c5 f0 f1 f2 f3 f4 f5
          obtain ⟨aX4, hD⟩ : ∃ W, W = ((((((aX3).setCell ⟨w2.heap.size, 0, none⟩ (S lB)).setCell ⟨w2.heap.size, 1, none⟩ (S l404)).setCell ⟨w2.heap.size, 2, none⟩ (.bool false)).setCell ⟨w2.heap.size, 3, none⟩ (.bool false)).setCell ⟨w2.heap.size, 4, none⟩ (.bool false)).setCell ⟨w2.heap.size, 5, none⟩ (.int .u64 6) := ⟨_, rfl⟩
          rw [← hD]
          obtain ⟨hk, hg⟩ := put6 HF.out.k _ _ _ _ _ _ hD
          have hb := grown_below HF.out.b hg GHF.out hl
          replace HZ := Lib.hid ((hg.block _ (blk_lt HZ.out) (fun e => NHZHF.out (by injection e with e; exact e.symm))).trans HZ.out)
          have HK := Lib.hid hk
          have HB := Lib.hid hb
          clear hk hg hD hl hb
          refine wpAny_ready (rs := [10]) (by kernel_rfl) (by simp) ?_
          refine AllReady.cons rfl (fun K hK => ?_) AllReady.nil
          obtain ⟨c0, c1⟩ := box2 HZ.out
          obtain ⟨f0, f1⟩ := box2' HZ.out
          have hl := blk_lt HZ.out
          go_simp
          refine hK _ _ ?_
          clear hK K c0 c1 f0 f1
          obtain ⟨aX5, hD⟩ : ∃ W, W = ((aX4).setCell ⟨aX2.heap.size, 0, none⟩ (.int .u8 0)).setCell ⟨aX2.heap.size, 1, none⟩ (.slice none 0 0) := ⟨_, rfl⟩
          rw [← hD]
          obtain ⟨hk, hg⟩ := put2 HZ.out _ _ hD
          have hb := grown_below HB.out hg GHZ.out hl
          replace HK := Lib.hid ((hg.block _ (blk_lt HK.out) (fun e => NHZHF.out (by injection e))).trans HK.out)
          replace HB := Lib.hid hb
          replace HZ := Lib.hid hk
          clear hk hg hD hl hb
          refine wpAny_ready (rs := [11]) (by kernel_rfl) (by simp) ?_
          refine AllReady.cons rfl (fun K hK => ?_) AllReady.nil
          go_simp
          refine hK _ _ ?_
          clear hK K
          refine wpAny_ready (rs := [12]) (by kernel_rfl) (by simp) ?_
          refine AllReady.cons rfl (fun K hK => ?_) AllReady.nil
          go_simp
          refine hK _ _ ?_
          clear hK K
          refine wpAny_done (by kernel_rfl) ?_ _
          go_simp
          exact ⟨rfl, HB.out, HK.out, _, _, _, _, _, _, _, _, _, _, _, _, _, _, _, rfl⟩
        refine AllReady.cons rfl (fun K hK => ?_) AllReady.nil
        go_simp
        refine hK _ _ ?_
        clear hK K
        obtain ⟨aX2, hD, hbD, hF⟩ := alcx aX1 #[.int .u8 0, .slice none 0 0] 40
        rw [← hD]
        have GHZ := Lib.hid HF.out.b.size
        have NHZHF := Lib.hid (Nat.ne_of_lt (blk_lt HF.out.k))
        replace HF := Lib.hid (HF.out.under hbD)
        have HZ := Lib.hid hF
        clear hbD hD hF
        refine wpAny_ready (rs := [2]) (by kernel_rfl) (by simp) ?_
        refine AllReady.cons rfl (fun K hK => ?_) AllReady.nil
        go_simp
        go_at_call 10
        refine (lk_a aX2 HF.out.t).mono ?_
        rintro e aX3 ⟨rfl, hbD⟩
        replace HF := Lib.hid (HF.out.under hbD)
        replace HZ := Lib.hid (blk_under HZ.out hbD)
        clear hbD
        refine hK _ _ ?_
        clear hK K
        refine tk 3 ?va21 rfl (by kernel_rfl) (fun _ _ _ h => nomatch h.1) ?ha21 ?ra21
        case ha21 => (intro w; go_simp; first | done | (with_reducible rfl))
        refine tk 4 ?va22 rfl (by kernel_rfl) (fun _ _ _ h => nomatch h.1) ?ha22 ?ra22
        case ha22 => (intro w; go_simp; first | done | (with_reducible rfl))
        refine tk 5 ?va23 rfl (by kernel_rfl) (fun _ _ _ h => nomatch h.1) ?ha23 ?ra23
        case ha23 => (intro w; go_simp; first | done | (with_reducible rfl))
        refine tk 6 ?va24 rfl (by kernel_rfl) (fun _ _ _ h => nomatch h.1) ?ha24 ?ra24
        case ha24 => (intro w; go_simp; first | done | (with_reducible rfl))
        refine tk 7 ?va25 rfl (by kernel_rfl) (fun _ _ _ h => nomatch h.1) ?ha25 ?ra25
        case ha25 => (intro w; go_simp; first | done | (with_reducible rfl))
        go_simp
        refine wpAny_ready (rs := [9]) (by kernel_rfl) (by simp) ?_
        refine AllReady.cons rfl (fun K hK => ?_) AllReady.nil
        obtain ⟨c0, c1, c2, c3, c4, c5⟩ := box6 HF.out.k
        obtain ⟨f0, f1, f2, f3, f4, f5⟩ := frz6 HF.out.k
        have hl := blk_lt HF.out.k
        go_simp
        refine hK _ _ ?_
        clear hK K c0 c1 c2 c3 c4 c5 f0 f1 f2 f3 f4 f5
        obtain ⟨aX4, hD⟩ : ∃ W, W = ((((((aX3).setCell ⟨w2.heap.size, 0, none⟩ (S lB)).setCell ⟨w2.heap.size, 1, none⟩ (S l404)).setCell ⟨w2.heap.size, 2, none⟩ (.bool false)).setCell ⟨w2.heap.size, 3, none⟩ (.bool false)).setCell ⟨w2.heap.size, 4, none⟩ (.bool false)).setCell ⟨w2.heap.size, 5, none⟩ (.int .u64 6) := ⟨_, rfl⟩
        rw [← hD]
        obtain ⟨hk, hg⟩ := put6 HF.out.k _ _ _ _ _ _ hD
        have hb := grown_below HF.out.b hg GHF.out hl
        replace HZ := Lib.hid ((hg.block _ (blk_lt HZ.out) (fun e => NHZHF.out (by injection e with e; exact e.symm))).trans HZ.out)
        have HK := Lib.hid hk
        have HB := Lib.hid hb
        clear hk hg hD hl hb
        refine wpAny_ready (rs := [10]) (by kernel_rfl) (by simp) ?_
        refine AllReady.cons rfl (fun K hK => ?_) AllReady.nil
        obtain ⟨c0, c1⟩ := box2 HZ.out
        obtain ⟨f0, f1⟩ := box2' HZ.out
        have hl := blk_lt HZ.out
        go_simp
        refine hK _ _ ?_
        clear hK K c0 c1 f0 f1
        obtain ⟨aX5, hD⟩ : ∃ W, W = ((aX4).setCell ⟨aX1.heap.size, 0, none⟩ (.int .u8 0)).setCell ⟨aX1.heap.size, 1, none⟩ (.slice none 0 0) := ⟨_, rfl⟩
        rw [← hD]
        obtain ⟨hk, hg⟩ := put2 HZ.out _ _ hD
        have hb := grown_below HB.out hg GHZ.out hl
        replace HK := Lib.hid ((hg.block _ (blk_lt HK.out) (fun e => NHZHF.out (by injection e))).trans HK.out)
        replace HB := Lib.hid hb
        replace HZ := Lib.hid hk
        clear hk hg hD hl hb
        refine wpAny_ready (rs := [11]) (by kernel_rfl) (by simp) ?_
        refine AllReady.cons rfl (fun K hK => ?_) AllReady.nil
        go_simp
        refine hK _ _ ?_
        clear hK K
        refine wpAny_ready (rs := [12]) (by kernel_rfl) (by simp) ?_
        refine AllReady.cons rfl (fun K hK => ?_) AllReady.nil
        go_simp
        refine hK _ _ ?_
        clear hK K
        refine wpAny_done (by kernel_rfl) ?_ _
        go_simp
        exact ⟨rfl, HB.out, HK.out, _, _, _, _, _, _, _, _, _, _, _, _, _, _, _, rfl⟩
      refine AllReady.cons rfl (fun K hK => ?_) AllReady.nil
      go_simp
      refine hK _ _ ?_
      clear hK K
      obtain ⟨aX2, hD, hbD, hF⟩ := alcx aX1 #[.int .u8 0, .slice none 0 0] 40
      rw [← hD]
      have GHZ := Lib.hid HF.out.b.size
      have NHZHF := Lib.hid (Nat.ne_of_lt (blk_lt HF.out.k))
      replace HF := Lib.hid (HF.out.under hbD)
      have HZ := Lib.hid hF
      clear hbD hD hF
      refine wpAny_ready (rs := [0]) (by kernel_rfl) (by simp) ?_
      refine AllReady.cons rfl (fun K hK => ?_) AllReady.nil
      obtain ⟨c0, c1, c2, c3, c4, c5⟩ := box6 HF.out.k
      have hl := blk_lt HF.out.k
      go_simp
      refine hK _ _ ?_
      clear hK K c0 c1 c2 c3 c4 c5 hl
      refine wpAny_ready (rs := [2]) (by kernel_rfl) (by simp) ?_
      refine AllReady.cons rfl (fun K hK => ?_) AllReady.nil
      go_simp
      go_at_call 10
      refine (lk_a aX2 HF.out.t).mono ?_
      rintro e aX3 ⟨rfl, hbD⟩
      replace HF := Lib.hid (HF.out.under hbD)
      replace HZ := Lib.hid (blk_under HZ.out hbD)
      clear hbD
      refine hK _ _ ?_
      clear hK K
      refine tk 3 ?va26 rfl (by kernel_rfl) (fun _ _ _ h => nomatch h.1) ?ha26 ?ra26
      case ha26 => (intro w; go_simp; first | done | (with_reducible rfl))
      refine tk 4 ?va27 rfl (by kernel_rfl) (fun _ _ _ h => nomatch h.1) ?ha27 ?ra27
      case ha27 => (intro w; go_simp; first | done | (with_reducible rfl))
      refine tk 5 ?va28 rfl (by kernel_rfl) (fun _ _ _ h => nomatch h.1) ?ha28 ?ra28
      case ha28 => (intro w; go_simp; first | done | (with_reducible rfl))
      refine tk 6 ?va29 rfl (by kernel_rfl) (fun _ _ _ h => nomatch h.1) ?ha29 ?ra29
      case ha29 => (intro w; go_simp; first | done | (with_reducible rfl))
      refine tk 7 ?va30 rfl (by kernel_rfl) (fun _ _ _ h => nomatch h.1) ?ha30 ?ra30
      case ha30 => (intro w; go_simp; first | done | (with_reducible rfl))
      go_simp
      refine wpAny_ready (rs := [9]) (by kernel_rfl) (by simp) ?_
      refine AllReady.cons rfl (fun K hK => ?_) AllReady.nil
      obtain ⟨c0, c1, c2, c3, c4, c5⟩ := box6 HF.out.k
      obtain ⟨f0, f1, f2, f3, f4, f5⟩ := frz6 HF.out.k
      have hl := blk_lt HF.out.k
      go_simp
      refine hK _ _ ?_
      clear hK K c0 c1 c2 c3 c4 c5 f0 f1 f2 f3 f4 f5
      obtain ⟨aX4, hD⟩ : ∃ W, W = ((((((aX3).setCell ⟨w2.heap.size, 0, none⟩ (S lB)).setCell ⟨w2.heap.size, 1, none⟩ (S l404)).setCell ⟨w2.heap.size, 2, none⟩ (.bool false)).setCell ⟨w2.heap.size, 3, none⟩ (.bool false)).setCell ⟨w2.heap.size, 4, none⟩ (.bool false)).setCell ⟨w2.heap.size, 5, none⟩ (.int .u64 6) := ⟨_, rfl⟩
      rw [← hD]
      obtain ⟨hk, hg⟩ := put6 HF.out.k _ _ _ _ _ _ hD
      have hb := grown_below HF.out.b hg GHF.out hl
      replace HZ := Lib.hid ((hg.block _ (blk_lt HZ.out) (fun e => NHZHF.out (by injection e with e; exact e.symm))).trans HZ.out)
      have HK := Lib.hid hk
      have HB := Lib.hid hb
      clear hk hg hD hl hb
      refine wpAny_ready (rs := [10]) (by kernel_rfl) (by simp) ?_
      refine AllReady.cons rfl (fun K hK => ?_) AllReady.nil
      obtain ⟨c0, c1⟩ := box2 HZ.out
      obtain ⟨f0, f1⟩ := box2' HZ.out
      have hl := blk_lt HZ.out
      go_simp
      refine hK _ _ ?_
      clear hK K c0 c1 f0 f1
      obtain ⟨aX5, hD⟩ : ∃ W, W = ((aX4).setCell ⟨aX1.heap.size, 0, none⟩ (.int .u8 0)).setCell ⟨aX1.heap.size, 1, none⟩ (.slice none 0 0) := ⟨_, rfl⟩
      rw [← hD]
      obtain ⟨hk, hg⟩ := put2 HZ.out _ _ hD
      have hb := grown_below HB.out hg GHZ.out hl
      replace HK := Lib.hid ((hg.block _ (blk_lt HK.out) (fun e => NHZHF.out (by injection e))).trans HK.out)
      replace HB := Lib.hid hb
      replace HZ := Lib.hid hk
      clear hk hg hD hl hb
      refine wpAny_ready (rs := [11]) (by kernel_rfl) (by simp) ?_
      refine AllReady.cons rfl (fun K hK => ?_) AllReady.nil
      go_simp
      refine hK _ _ ?_
      clear hK K
      refine wpAny_ready (rs := [12]) (by kernel_rfl) (by simp) ?_
      refine AllReady.cons rfl (fun K hK => ?_) AllReady.nil
      go_simp
      refine hK _ _ ?_
      clear hK K
      refine wpAny_done (by kernel_rfl) ?_ _
      go_simp
      exact ⟨rfl, HB.out, HK.out, _, _, _, _, _, _, _, _, _, _, _, _, _, _, _, rfl⟩
    refine AllReady.cons rfl (fun K hK => ?_) AllReady.nil
    go_simp
    refine hK _ _ ?_
    clear hK K
    obtain ⟨aX1, hD, hbD, hF⟩ := alcx aX0 #[.int .u8 0, .slice none 0 0] 40
    rw [← hD]
    have GHZ := Lib.hid HF.out.b.size
    have NHZHF := Lib.hid (Nat.ne_of_lt (blk_lt HF.out.k))
    replace HF := Lib.hid (HF.out.under hbD)
    have HZ := Lib.hid hF
    clear hbD hD hF
    refine wpAny_ready (rs := [0, 1]) (by kernel_rfl) (by simp) ?_
    refine AllReady.cons rfl (fun K hK => ?_) ?_
    · skip
      obtain ⟨c0, c1, c2, c3, c4, c5⟩ := box6 HF.out.k
      have hl := blk_lt HF.out.k
      go_simp
      refine hK _ _ ?_
      clear hK K c0 c1 c2 c3 c4 c5 hl
      refine wpAny_ready (rs := [1]) (by kernel_rfl) (by simp) ?_
      refine AllReady.cons rfl (fun K hK => ?_) AllReady.nil
      go_simp
      go_at_call 9
      refine (cn_rules aX1).mono ?_
      rintro e aX2 ⟨rfl, hbD⟩
      replace HF := Lib.hid (HF.out.under hbD)
      replace HZ := Lib.hid (blk_under HZ.out hbD)
      clear hbD
      refine hK _ _ ?_
      clear hK K
      refine wpAny_ready (rs := [2]) (by kernel_rfl) (by simp) ?_
      refine AllReady.cons rfl (fun K hK => ?_) AllReady.nil
      go_simp
      go_at_call 10
      refine (lk_a aX2 HF.out.t).mono ?_
      rintro e aX3 ⟨rfl, hbD⟩
      replace HF := Lib.hid (HF.out.under hbD)
      replace HZ := Lib.hid (blk_under HZ.out hbD)
      clear hbD
      refine hK _ _ ?_
      clear hK K
      refine tk 3 ?va31 rfl (by kernel_rfl) (fun _ _ _ h => nomatch h.1) ?ha31 ?ra31
      case ha31 => (intro w; go_simp; first | done | (with_reducible rfl))
      refine tk 4 ?va32 rfl (by kernel_rfl) (fun _ _ _ h => nomatch h.1) ?ha32 ?ra32
      case ha32 => (intro w; go_simp; first | done | (with_reducible rfl))
      refine tk 5 ?va33 rfl (by kernel_rfl) (fun _ _ _ h => nomatch h.1) ?ha33 ?ra33
      case ha33 => (intro w; go_simp; first | done | (with_reducible rfl))
      refine tk 6 ?va34 rfl (by kernel_rfl) (fun _ _ _ h => nomatch h.1) ?ha34 ?ra34
      case ha34 => (intro w; go_simp; first | done | (with_reducible rfl))
      refine tk 7 ?va35 rfl (by kernel_rfl) (fun _ _ _ h => nomatch h.1) ?ha35 ?ra35
      case ha35 => (intro w; go_simp; first | done | (with_reducible rfl))
      go_simp
      refine wpAny_ready (rs := [9]) (by kernel_rfl) (by simp) ?_
      refine AllReady.cons rfl (fun K hK => ?_) AllReady.nil
      obtain ⟨c0, c1, c2, c3, c4, c5⟩ := box6 HF.out.k
      obtain ⟨f0, f1, f2, f3, f4, f5⟩ := frz6 HF.out.k
      have hl := blk_lt HF.out.k
      go_simp
      refine hK _ _ ?_
      clear hK K c0 c1 c2 c3 c4 c5 f0 f1 f2 f3 f4 f5
      obtain ⟨aX4, hD⟩ : ∃ W, W = ((((((aX3).setCell ⟨w2.heap.size, 0, none⟩ (S lB)).setCell ⟨w2.heap.size, 1, none⟩ (S l404)).setCell ⟨w2.heap.size, 2, none⟩ (.bool false)).setCell ⟨w2.heap.size, 3, none⟩ (.bool false)).setCell ⟨w2.heap.size, 4, none⟩ (.bool false)).setCell ⟨w2.heap.size, 5, none⟩ (.int .u64 6) := ⟨_, rfl⟩
      rw [← hD]
      obtain ⟨hk, hg⟩ := put6 HF.out.k _ _ _ _ _ _ hD
      have hb := grown_below HF.out.b hg GHF.out hl
      replace HZ := Lib.hid ((hg.block _ (blk_lt HZ.out) (fun e => NHZHF.out (by injection e with e; exact e.symm))).trans HZ.out)
      have HK := Lib.hid hk
      have HB := Lib.hid hb
      clear hk hg hD hl hb
      refine wpAny_ready (rs := [10]) (by kernel_rfl) (by simp) ?_
      refine AllReady.cons rfl (fun K hK => ?_) AllReady.nil
      obtain ⟨c0, c1⟩ := box2 HZ.out
      obtain ⟨f0, f1⟩ := box2' HZ.out
      have hl := blk_lt HZ.out
      go_simp
      refine hK _ _ ?_
      clear hK K c0 c1 f0 f1
      obtain ⟨aX5, hD⟩ : ∃ W, W = ((aX4).setCell ⟨aX0.heap.size, 0, none⟩ (.int .u8 0)).setCell ⟨aX0.heap.size, 1, none⟩ (.slice none 0 0) := ⟨_, rfl⟩
      rw [← hD]
      obtain ⟨hk, hg⟩ := put2 HZ.out _ _ hD
      have hb := grown_below HB.out hg GHZ.out hl
      replace HK := Lib.hid ((hg.block _ (blk_lt HK.out) (fun e => NHZHF.out (by injection e))).trans HK.out)
      replace HB := Lib.hid hb
      replace HZ := Lib.hid hk
      clear hk hg hD hl hb
      refine wpAny_ready (rs := [11]) (by kernel_rfl) (by simp) ?_
      refine AllReady.cons rfl (fun K hK => ?_) AllReady.nil
      go_simp
      refine hK _ _ ?_
      clear hK K
      refine wpAny_ready (rs := [12]) (by kernel_rfl) (by simp) ?_
      refine AllReady.cons rfl (fun K hK => ?_) AllReady.nil
      go_simp
      refine hK _ _ ?_
      clear hK K
      refine wpAny_done (by kernel_rfl) ?_ _
      go_simp
      exact ⟨rfl, HB.out, HK.out, _, _, _, _, _, _, _, _, _, _, _, _, _, _, _, rfl⟩
    refine AllReady.cons rfl (fun K hK => ?_) AllReady.nil
    go_simp
    go_at_call 9
    refine (cn_rules aX1).mono ?_
    rintro e aX2 ⟨rfl, hbD⟩
    replace HF := Lib.hid (HF.out.under hbD)
    replace HZ := Lib.hid (blk_under HZ.out hbD)
    clear hbD
    refine hK _ _ ?_
    clear hK K
    refine wpAny_ready (rs := [0]) (by kernel_rfl) (by simp) ?_
    refine AllReady.cons rfl (fun K hK => ?_) AllReady.nil
    obtain ⟨c0, c1, c2, c3, c4, c5⟩ := box6 HF.out.k
    have hl := blk_lt HF.out.k
    go_simp
    refine hK _ _ ?_
    clear hK K c0 c1 c2 c3 c4 c5 hl
    refine wpAny_ready (rs := [2]) (by kernel_rfl) (by simp) ?_
    refine AllReady.cons rfl (fun K hK => ?_) AllReady.nil
    go_simp
    go_at_call 10
    refine (lk_a aX2 HF.out.t).mono ?_
    rintro e aX3 ⟨rfl, hbD⟩
    replace HF := Lib.hid (HF.out.under hbD)
    replace HZ := Lib.hid (blk_under HZ.out hbD)
    clear hbD
    refine hK _ _ ?_
    clear hK K
    refine tk 3 ?va36 rfl (by kernel_rfl) (fun _ _ _ h => nomatch h.1) ?ha36 ?ra36
    case ha36 => (intro w; go_simp; first | done | (with_reducible rfl))
    refine tk 4 ?va37 rfl (by kernel_rfl) (fun _ _ _ h => nomatch h.1) ?ha37 ?ra37
    case ha37 => (intro w; go_simp; first | done | (with_reducible rfl))
    refine tk 5 ?va38 rfl (by kernel_rfl) (fun _ _ _ h => nomatch h.1) ?ha38 ?ra38
    case ha38 => (intro w; go_simp; first | done | (with_reducible rfl))
    refine tk 6 ?va39 rfl (by kernel_rfl) (fun _ _ _ h => nomatch h.1) ?ha39 ?ra39
    case ha39 => (intro w; go_simp; first | done | (with_reducible rfl))
    refine tk 7 ?va40 rfl (by kernel_rfl) (fun _ _ _ h => nomatch h.1) ?ha40 ?ra40
    case ha40 => (intro w; go_simp; first | done | (with_reducible rfl))
    go_simp
    refine wpAny_ready (rs := [9]) (by kernel_rfl) (by simp) ?_
    refine AllReady.cons rfl (fun K hK => ?_) AllReady.nil
    obtain ⟨c0, c1, c2, c3, c4, c5⟩ := box6 HF.out.k
    obtain ⟨f0, f1, f2, f3, f4, f5⟩ := frz6 HF.out.k
    have hl := blk_lt HF.out.k
    go_simp
    refine hK _ _ ?_
    clear hK K c0 c1 c2 c3 c4 c5 f0 f1 f2 f3 f4 f5
    obtain ⟨aX4, hD⟩ : ∃ W, W = ((((((aX3).setCell ⟨w2.heap.size, 0, none⟩ (S lB)).setCell ⟨w2.heap.size, 1, none⟩ (S l404)).setCell ⟨w2.heap.size, 2, none⟩ (.bool false)).setCell ⟨w2.heap.size, 3, none⟩ (.bool false)).setCell ⟨w2.heap.size, 4, none⟩ (.bool false)).setCell ⟨w2.heap.size, 5, none⟩ (.int .u64 6) := ⟨_, rfl⟩
    rw [← hD]
    obtain ⟨hk, hg⟩ := put6 HF.out.k _ _ _ _ _ _ hD
    have hb := grown_below HF.out.b hg GHF.out hl
    replace HZ := Lib.hid ((hg.block _ (blk_lt HZ.out) (fun e => NHZHF.out (by injection e with e; exact e.symm))).trans HZ.out)
    have HK := Lib.hid hk
    have HB := Lib.hid hb
    clear hk hg hD hl hb
    refine wpAny_ready (rs := [10]) (by kernel_rfl) (by simp) ?_
    refine AllReady.cons rfl (fun K hK => ?_) AllReady.nil
    obtain ⟨c0, c1⟩ := box2 HZ.out
    obtain ⟨f0, f1⟩ := box2' HZ.out
    have hl := blk_lt HZ.out
    go_simp
    refine hK _ _ ?_
    clear hK K c0 c1 f0 f1
    obtain ⟨aX5, hD⟩ : ∃ W, W = ((aX4).setCell ⟨aX0.heap.size, 0, none⟩ (.int .u8 0)).setCell ⟨aX0.heap.size, 1, none⟩ (.slice none 0 0) := ⟨_, rfl⟩
    rw [← hD]
    obtain ⟨hk, hg⟩ := put2 HZ.out _ _ hD
    have hb := grown_below HB.out hg GHZ.out hl
    replace HK := Lib.hid ((hg.block _ (blk_lt HK.out) (fun e => NHZHF.out (by injection e))).trans HK.out)
    replace HB := Lib.hid hb
    replace HZ := Lib.hid hk
    clear hk hg hD hl hb
    refine wpAny_ready (rs := [11]) (by kernel_rfl) (by simp) ?_
    refine AllReady.cons rfl (fun K hK => ?_) AllReady.nil
    go_simp
    refine hK _ _ ?_
    clear hK K
    refine wpAny_ready (rs := [12]) (by kernel_rfl) (by simp) ?_
    refine AllReady.cons rfl (fun K hK => ?_) AllReady.nil
    go_simp
    refine hK _ _ ?_
    clear hK K
    refine wpAny_done (by kernel_rfl) ?_ _
    go_simp
    exact ⟨rfl, HB.out, HK.out, _, _, _, _, _, _, _, _, _, _, _, _, _, _, _, rfl⟩
  case post =>
  rintro e a' V ⟨rfl, hb, hk, u3, u10, u11, u12, u13, u14, u15, u16, u17, u18, u19, u20, u21, u22, u23, rfl⟩
  clear HF
  have HF := Lib.hid (SF.mk (HT0.out.under hb) hb hk)
  obtain ⟨s4, hs4, hs4l⟩ := lWrite400
  have Hs4 := Lib.hid hs4
  have Hs4l := Lib.hid hs4l
  clear hb hk hs4 hs4l
  go_upto_region 3 with (fail)
  refine Code.wp_mono (Q := Lv3 w w2.heap.size s4 u3 u10 u11 u12 u13 u14 u15 u16 u17 u18 u19 u20 u21 u22 u23) ?post2 ?reg2
  case reg2 =>
    refine wp_region_any (by kernel_rfl) ?_
    obtain ⟨bX0, hX⟩ : ∃ W, V.drew = W := ⟨_, rfl⟩
    change wpAny _ _ _ _ _ _ _ (V.drew)
    rw [hX]
    have hbD : Below V.heap.size V bX0 := by rw [← hX]; exact (Below.refl _ V).drew
    replace HF := Lib.hid (HF.out.under hbD)
    clear hbD hX
    refine wpAny_ready (rs := [0, 1, 8, 9]) (by kernel_rfl) (by simp) ?_
    refine AllReady.cons rfl (fun K hK => ?_) ?_
    · skip
      obtain ⟨c0, c1, c2, c3, c4, c5⟩ := box6 HF.out.k
      have hl := blk_lt HF.out.k
      go_simp
      refine hK _ _ ?_
      clear hK K c0 c1 c2 c3 c4 c5 hl
      refine wpAny_ready (rs := [1, 8, 9]) (by kernel_rfl) (by simp) ?_
      refine AllReady.cons rfl (fun K hK => ?_) ?_
      · skip
        go_simp
        go_at_call 9
        refine (cn_rules bX0).mono ?_
        rintro e bX1 ⟨rfl, hbD⟩
        replace HF := Lib.hid (HF.out.under hbD)
        clear hbD
        refine hK _ _ ?_
        clear hK K
        refine wpAny_ready (rs := [2, 8, 9]) (by kernel_rfl) (by simp) ?_
        refine AllReady.cons rfl (fun K hK => ?_) ?_
        · skip
          go_simp
          go_at_call 10
          refine (lk_b bX1 s4 Hs4.out Hs4l.out HF.out.t).mono ?_
          rintro e bX2 ⟨rfl, hbD⟩
          replace HF := Lib.hid (HF.out.under hbD)
          clear hbD
          refine hK _ _ ?_
          clear hK K
          refine tk 3 ?vb1 rfl (by kernel_rfl) (fun _ _ _ h => nomatch h.1) ?hb1 ?rb1
          case hb1 => (intro w; go_simp; first | done | (with_reducible rfl))
          refine tk 4 ?vb2 rfl (by kernel_rfl) (fun _ _ _ h => nomatch h.1) ?hb2 ?rb2
          case hb2 => (intro w; go_simp; first | done | (with_reducible rfl))
          refine tk 5 ?vb3 rfl (by kernel_rfl) (fun _ _ _ h => nomatch h.1) ?hb3 ?rb3
          case hb3 => (intro w; go_simp; first | done | (with_reducible rfl))
          refine tk 6 ?vb4 rfl (by kernel_rfl) (fun _ _ _ h => nomatch h.1) ?hb4 ?rb4
          case hb4 => (intro w; go_simp; first | done | (with_reducible rfl))
          refine tk 7 ?vb5 rfl (by kernel_rfl) (fun _ _ _ h => nomatch h.1) ?hb5 ?rb5
          case hb5 => (intro w; go_simp; first | done | (with_reducible rfl))
          go_simp
          refine wpAny_ready (rs := [8, 9]) (by kernel_rfl) (by simp) ?_
          refine AllReady.cons rfl (fun K hK => ?_) ?_
          · skip
            go_simp
            refine hK _ _ ?_
            clear hK K
            obtain ⟨bX3, hD, hbD, hF⟩ := alcx bX2 #[S [], S [], .bool false, .bool false, .bool false, .int .u64 0] 24
            rw [← hD]
            have GHA := Lib.hid HF.out.b.size
            have NHAHF := Lib.hid (Nat.ne_of_lt (blk_lt HF.out.k))
            replace HF := Lib.hid (HF.out.under hbD)
            have HA := Lib.hid hF
            clear hbD hD hF
            refine wpAny_ready (rs := [9]) (by kernel_rfl) (by simp) ?_
            refine AllReady.cons rfl (fun K hK => ?_) AllReady.nil
            go_simp
            refine hK _ _ ?_
            clear hK K
            obtain ⟨bX4, hD, hbD, hF⟩ := alcx bX3 #[.int .u8 0, .slice none 0 0] 40
            rw [← hD]
            have GHZ := Lib.hid HF.out.b.size
            have NHZHF := Lib.hid (Nat.ne_of_lt (blk_lt HF.out.k))
            have NHZHA := Lib.hid (Nat.ne_of_lt (blk_lt HA.out))
            replace HF := Lib.hid (HF.out.under hbD)
            replace HA := Lib.hid (blk_under HA.out hbD)
            have HZ := Lib.hid hF
            clear hbD hD hF
            refine wpAny_ready (rs := [10]) (by kernel_rfl) (by simp) ?_
            refine AllReady.cons rfl (fun K hK => ?_) AllReady.nil
            obtain ⟨c0, c1, c2, c3, c4, c5⟩ := box6 HA.out
            obtain ⟨f0, f1, f2, f3, f4, f5⟩ := frz6 HA.out
            have hl := blk_lt HA.out
            go_simp
            refine hK _ _ ?_
            clear hK K c0 c1 c2 c3 c4 c5 f0 f1 f2 f3 f4 f5
            obtain ⟨bX5, hD⟩ : ∃ W, W = ((((((bX4).setCell ⟨bX2.heap.size, 0, none⟩ (S [])).setCell ⟨bX2.heap.size, 1, none⟩ (S (l404 ++ s4))).setCell ⟨bX2.heap.size, 2, none⟩ (.bool true)).setCell ⟨bX2.heap.size, 3, none⟩ (.bool false)).setCell ⟨bX2.heap.size, 4, none⟩ (.bool false)).setCell ⟨bX2.heap.size, 5, none⟩ (.int .u64 6) := ⟨_, rfl⟩
            rw [← hD]
            obtain ⟨hk, hg⟩ := put6 HA.out _ _ _ _ _ _ hD
            have hb := grown_below HF.out.b hg GHA.out hl
            have HK := Lib.hid ((hg.block _ (blk_lt HF.out.k) (fun e => NHAHF.out (by injection e))).trans HF.out.k)
            have HB := Lib.hid hb
            replace HZ := Lib.hid ((hg.block _ (blk_lt HZ.out) (fun e => NHZHA.out (by injection e with e; exact e.symm))).trans HZ.out)
            replace HA := Lib.hid hk
            clear hk hg hD hl hb
            refine wpAny_ready (rs := [11]) (by kernel_rfl) (by simp) ?_
            refine AllReady.cons rfl (fun K hK => ?_) AllReady.nil
            obtain ⟨c0, c1⟩ := box2 HZ.out
            obtain ⟨f0, f1⟩ := box2' HZ.out
            have hl := blk_lt HZ.out
            go_simp
            refine hK _ _ ?_
            clear hK K c0 c1 f0 f1
            obtain ⟨bX6, hD⟩ : ∃ W, W = ((bX5).setCell ⟨bX3.heap.size, 0, none⟩ (.int .u8 0)).setCell ⟨bX3.heap.size, 1, none⟩ (.slice none 0 0) := ⟨_, rfl⟩
            rw [← hD]
            obtain ⟨hk, hg⟩ := put2 HZ.out _ _ hD
            have hb := grown_below HB.out hg GHZ.out hl
            replace HK := Lib.hid ((hg.block _ (blk_lt HK.out) (fun e => NHZHF.out (by injection e))).trans HK.out)
            replace HB := Lib.hid hb
            replace HA := Lib.hid ((hg.block _ (blk_lt HA.out) (fun e => NHZHA.out (by injection e))).trans HA.out)
            replace HZ := Lib.hid hk
            clear hk hg hD hl hb
            refine wpAny_ready (rs := [12]) (by kernel_rfl) (by simp) ?_
            refine AllReady.cons rfl (fun K hK => ?_) AllReady.nil
            go_simp
            refine hK _ _ ?_
            clear hK K
            refine wpAny_ready (rs := [13]) (by kernel_rfl) (by simp) ?_
            refine AllReady.cons rfl (fun K hK => ?_) AllReady.nil
            go_simp
            refine hK _ _ ?_
            clear hK K
            refine wpAny_done (by kernel_rfl) ?_ _
            go_simp
            exact ⟨rfl, HB.out, HK.out, _, HA.out, _, _, _, _, _, _, _, _, _, rfl⟩
          refine AllReady.cons rfl (fun K hK => ?_) AllReady.nil
          go_simp
          refine hK _ _ ?_
          clear hK K
          obtain ⟨bX3, hD, hbD, hF⟩ := alcx bX2 #[.int .u8 0, .slice none 0 0] 40
          rw [← hD]
          have GHZ := Lib.hid HF.out.b.size
          have NHZHF := Lib.hid (Nat.ne_of_lt (blk_lt HF.out.k))
          replace HF := Lib.hid (HF.out.under hbD)
          have HZ := Lib.hid hF
          clear hbD hD hF
          refine wpAny_ready (rs := [8]) (by kernel_rfl) (by simp) ?_
          refine AllReady.cons rfl (fun K hK => ?_) AllReady.nil
          go_simp
          refine hK _ _ ?_
          clear hK K
          obtain ⟨bX4, hD, hbD, hF⟩ := alcx bX3 #[S [], S [], .bool false, .bool false, .bool false, .int .u64 0] 24
          rw [← hD]
          have GHA := Lib.hid HF.out.b.size
          have NHAHF := Lib.hid (Nat.ne_of_lt (blk_lt HF.out.k))
          have NHAHZ := Lib.hid (Nat.ne_of_lt (blk_lt HZ.out))
          replace HF := Lib.hid (HF.out.under hbD)
          replace HZ := Lib.hid (blk_under HZ.out hbD)
          have HA := Lib.hid hF
          clear hbD hD hF
          refine wpAny_ready (rs := [10]) (by kernel_rfl) (by simp) ?_
          refine AllReady.cons rfl (fun K hK => ?_) AllReady.nil
          obtain ⟨c0, c1, c2, c3, c4, c5⟩ := box6 HA.out
          obtain ⟨f0, f1, f2, f3, f4, f5⟩ := frz6 HA.out
          have hl := blk_lt HA.out
          go_simp
          refine hK _ _ ?_
          clear hK K c0 c1 c2 c3 c4 c5 f0 f1 f2 f3 f4 f5
          obtain ⟨bX5, hD⟩ : ∃ W, W = ((((((bX4).setCell ⟨bX3.heap.size, 0, none⟩ (S [])).setCell ⟨bX3.heap.size, 1, none⟩ (S (l404 ++ s4))).setCell ⟨bX3.heap.size, 2, none⟩ (.bool true)).setCell ⟨bX3.heap.size, 3, none⟩ (.bool false)).setCell ⟨bX3.heap.size, 4, none⟩ (.bool false)).setCell ⟨bX3.heap.size, 5, none⟩ (.int .u64 6) := ⟨_, rfl⟩
          rw [← hD]
          obtain ⟨hk, hg⟩ := put6 HA.out _ _ _ _ _ _ hD
          have hb := grown_below HF.out.b hg GHA.out hl
          have HK := Lib.hid ((hg.block _ (blk_lt HF.out.k) (fun e => NHAHF.out (by injection e))).trans HF.out.k)
          have HB := Lib.hid hb
          replace HZ := Lib.hid ((hg.block _ (blk_lt HZ.out) (fun e => NHAHZ.out (by injection e))).trans HZ.out)
          replace HA := Lib.hid hk
          clear hk hg hD hl hb
          refine wpAny_ready (rs := [11]) (by kernel_rfl) (by simp) ?_
          refine AllReady.cons rfl (fun K hK => ?_) AllReady.nil
          obtain ⟨c0, c1⟩ := box2 HZ.out
          obtain ⟨f0, f1⟩ := box2' HZ.out
          have hl := blk_lt HZ.out
          go_simp
          refine hK _ _ ?_
          clear hK K c0 c1 f0 f1
          obtain ⟨bX6, hD⟩ : ∃ W, W = ((bX5).setCell ⟨bX2.heap.size, 0, none⟩ (.int .u8 0)).setCell ⟨bX2.heap.size, 1, none⟩ (.slice none 0 0) := ⟨_, rfl⟩
          rw [← hD]
          obtain ⟨hk, hg⟩ := put2 HZ.out _ _ hD
          have hb := grown_below HB.out hg GHZ.out hl
          replace HK := Lib.hid ((hg.block _ (blk_lt HK.out) (fun e => NHZHF.out (by injection e))).trans HK.out)
          replace HB := Lib.hid hb
          replace HA := Lib.hid ((hg.block _ (blk_lt HA.out) (fun e => NHAHZ.out (by injection e with e; exact e.symm))).trans HA.out)
          replace HZ := Lib.hid hk
          clear hk hg hD hl hb
          refine wpAny_ready (rs := [12]) (by kernel_rfl) (by simp) ?_
          refine AllReady.cons rfl (fun K hK => ?_) AllReady.nil
          go_simp
          refine hK _ _ ?_
          clear hK K
          refine wpAny_ready (rs := [13]) (by kernel_rfl) (by simp) ?_
          refine AllReady.cons rfl (fun K hK => ?_) AllReady.nil
          go_simp
          refine hK _ _ ?_
          clear hK K
          refine wpAny_done (by kernel_rfl) ?_ _
          go_simp
          exact ⟨rfl, HB.out, HK.out, _, HA.out, _, _, _, _, _, _, _, _, _, rfl⟩
        refine AllReady.cons rfl (fun K hK => ?_) ?_
        · skip
          go_simp
          refine hK _ _ ?_
          clear hK K
          obtain ⟨bX2, hD, hbD, hF⟩ := alcx bX1 #[S [], S [], .bool false, .bool false, .bool false, .int .u64 0] 24
          rw [← hD]
          have GHA := Lib.hid HF.out.b.size
          have NHAHF := Lib.hid (Nat.ne_of_lt (blk_lt HF.out.k))
          replace HF := Lib.hid (HF.out.under hbD)
          have HA := Lib.hid hF
          clear hbD hD hF
          refine wpAny_ready (rs := [2, 9]) (by kernel_rfl) (by simp) ?_
          refine AllReady.cons rfl (fun K hK => ?_) ?_
          · skip
            go_simp
            go_at_call 10
            refine (lk_b bX2 s4 Hs4.out Hs4l.out HF.out.t).mono ?_
            rintro e bX3 ⟨rfl, hbD⟩
            replace HF := Lib.hid (HF.out.under hbD)
            replace HA := Lib.hid (blk_under HA.out hbD)
            clear hbD
            refine hK _ _ ?_
            clear hK K
            refine tk 3 ?vb6 rfl (by kernel_rfl) (fun _ _ _ h => nomatch h.1) ?hb6 ?rb6
            case hb6 => (intro w; go_simp; first | done | (with_reducible rfl))
            refine tk 4 ?vb7 rfl (by kernel_rfl) (fun _ _ _ h => nomatch h.1) ?hb7 ?rb7
            case hb7 => (intro w; go_simp; first | done | (with_reducible rfl))
            refine tk 5 ?vb8 rfl (by kernel_rfl) (fun _ _ _ h => nomatch h.1) ?hb8 ?rb8
            case hb8 => (intro w; go_simp; first | done | (with_reducible rfl))
            refine tk 6 ?vb9 rfl (by kernel_rfl) (fun _ _ _ h => nomatch h.1) ?hb9 ?rb9
            case hb9 => (intro w; go_simp; first | done | (with_reducible rfl))
            refine tk 7 ?vb10 rfl (by kernel_rfl) (fun _ _ _ h => nomatch h.1) ?hb10 ?rb10
            case hb10 => (intro w; go_simp; first | done | (with_reducible rfl))
            go_simp
            refine wpAny_ready (rs := [9]) (by kernel_rfl) (by simp) ?_
            refine AllReady.cons rfl (fun K hK => ?_) AllReady.nil
            go_simp
            refine hK _ _ ?_
            clear hK K
            obtain ⟨bX4, hD, hbD, hF⟩ := alcx bX3 #[.int .u8 0, .slice none 0 0] 40
            rw [← hD]
            have GHZ := Lib.hid HF.out.b.size
            have NHZHF := Lib.hid (Nat.ne_of_lt (blk_lt HF.out.k))
            have NHZHA := Lib.hid (Nat.ne_of_lt (blk_lt HA.out))
            replace HF := Lib.hid (HF.out.under hbD)
            replace HA := Lib.hid (blk_under HA.out hbD)
            have HZ := Lib.hid hF
            clear hbD hD hF
            refine wpAny_ready (rs := [10]) (by kernel_rfl) (by simp) ?_
            refine AllReady.cons rfl (fun K hK => ?_) AllReady.nil
            obtain ⟨c0, c1, c2, c3, c4, c5⟩ := box6 HA.out
            obtain ⟨f0, f1, f2, f3, f4, f5⟩ := frz6 HA.out
            have hl := blk_lt HA.out
            go_simp
            refine hK _ _ ?_
            clear hK K c0 c1 c2 c3 c4 c5 f0 f1 f2 f3 f4 f5
            obtain ⟨bX5, hD⟩ : ∃ W, W = ((((((bX4).setCell ⟨bX1.heap.size, 0, none⟩ (S [])).setCell ⟨bX1.heap.size, 1, none⟩ (S (l404 ++ s4))).setCell ⟨bX1.heap.size, 2, none⟩ (.bool true)).setCell ⟨bX1.heap.size, 3, none⟩ (.bool false)).setCell ⟨bX1.heap.size, 4, none⟩ (.bool false)).setCell ⟨bX1.heap.size, 5, none⟩ (.int .u64 6) := ⟨_, rfl⟩
            rw [← hD]
            obtain ⟨hk, hg⟩ := put6 HA.out _ _ _ _ _ _ hD
            have hb := grown_below HF.out.b hg GHA.out hl
            have HK := Lib.hid ((hg.block _ (blk_lt HF.out.k) (fun e => NHAHF.out (by injection e))).trans HF.out.k)
            have HB := Lib.hid hb
            replace HZ := Lib.hid ((hg.block _ (blk_lt HZ.out) (fun e => NHZHA.out (by injection e with e; exact e.symm))).trans HZ.out)
            replace HA := Lib.hid hk
            clear hk hg hD hl hb
            refine wpAny_ready (rs := [11]) (by kernel_rfl) (by simp) ?_
            refine AllReady.cons rfl (fun K hK => ?_) AllReady.nil
            obtain ⟨c0, c1⟩ := box2 HZ.out
            obtain ⟨f0, f1⟩ := box2' HZ.out
            have hl := blk_lt HZ.out
            go_simp
            refine hK _ _ ?_
            clear hK K c0 c1 f0 f1
            obtain ⟨bX6, hD⟩ : ∃ W, W = ((bX5).setCell ⟨bX3.heap.size, 0, none⟩ (.int .u8 0)).setCell ⟨bX3.heap.size, 1, none⟩ (.slice none 0 0) := ⟨_, rfl⟩
            rw [← hD]
            obtain ⟨hk, hg⟩ := put2 HZ.out _ _ hD
            have hb := grown_below HB.out hg GHZ.out hl
            replace HK := Lib.hid ((hg.block _ (blk_lt HK.out) (fun e => NHZHF.out (by injection e))).trans HK.out)
            replace HB := Lib.hid hb
            replace HA := Lib.hid ((hg.block _ (blk_lt HA.out) (fun e => NHZHA.out (by injection e))).trans HA.out)
            replace HZ := Lib.hid hk
            clear hk hg hD hl hb
            refine wpAny_ready (rs := [12]) (by kernel_rfl) (by simp) ?_
            refine AllReady.cons rfl (fun K hK => ?_) AllReady.nil
            go_simp
            refine hK _ _ ?_
            clear hK K
            refine wpAny_ready (rs := [13]) (by kernel_rfl) (by simp) ?_
            refine AllReady.cons rfl (fun K hK => ?_) AllReady.nil
            go_simp
            refine hK _ _ ?_
            clear hK K
            refine wpAny_done (by kernel_rfl) ?_ _
            go_simp
            exact ⟨rfl, HB.out, HK.out, _, HA.out, _, _, _, _, _, _, _, _, _, rfl⟩
          refine AllReady.cons rfl (fun K hK => ?_) AllReady.nil
          go_simp
          refine hK _ _ ?_
          clear hK K
          obtain ⟨bX3, hD, hbD, hF⟩ := alcx bX2 #[.int .u8 0, .slice none 0 0] 40
          rw [← hD]
          have GHZ := Lib.hid HF.out.b.size
          have NHZHF := Lib.hid (Nat.ne_of_lt (blk_lt HF.out.k))
          have NHZHA := Lib.hid (Nat.ne_of_lt (blk_lt HA.out))
          replace HF := Lib.hid (HF.out.under hbD)
          replace HA := Lib.hid (blk_under HA.out hbD)
          have HZ := Lib.hid hF
          clear hbD hD hF
          refine wpAny_ready (rs := [2]) (by kernel_rfl) (by simp) ?_
          refine AllReady.cons rfl (fun K hK => ?_) AllReady.nil
          go_simp
          go_at_call 10
          refine (lk_b bX3 s4 Hs4.out Hs4l.out HF.out.t).mono ?_
          rintro e bX4 ⟨rfl, hbD⟩
          replace HF := Lib.hid (HF.out.under hbD)
          replace HA := Lib.hid (blk_under HA.out hbD)
          replace HZ := Lib.hid (blk_under HZ.out hbD)
          clear hbD
          refine hK _ _ ?_
          clear hK K
          refine tk 3 ?vb11 rfl (by kernel_rfl) (fun _ _ _ h => nomatch h.1) ?hb11 ?rb11
          case hb11 => (intro w; go_simp; first | done | (with_reducible rfl))
          refine tk 4 ?vb12 rfl (by kernel_rfl) (fun _ _ _ h => nomatch h.1) ?hb12 ?rb12
          case hb12 => (intro w; go_simp; first | done | (with_reducible rfl))
          refine tk 5 ?vb13 rfl (by kernel_rfl) (fun _ _ _ h => nomatch h.1) ?hb13 ?rb13
          case hb13 => (intro w; go_simp; first | done | (with_reducible rfl))
          refine tk 6 ?vb14 rfl (by kernel_rfl) (fun _ _ _ h => nomatch h.1) ?hb14 ?rb14
          case hb14 => (intro w; go_simp; first | done | (with_reducible rfl))
          refine tk 7 ?vb15 rfl (by kernel_rfl) (fun _ _ _ h => nomatch h.1) ?hb15 ?rb15
          case hb15 => (intro w; go_simp; first | done | (with_reducible rfl))
          go_simp
          refine wpAny_ready (rs := [10]) (by kernel_rfl) (by simp) ?_
          refine AllReady.cons rfl (fun K hK => ?_) AllReady.nil
          obtain ⟨c0, c1, c2, c3, c4, c5⟩ := box6 HA.out
          obtain ⟨f0, f1, f2, f3, f4, f5⟩ := frz6 HA.out
          have hl := blk_lt HA.out
          go_simp
          refine hK _ _ ?_
          clear hK K c0 c1 c2 c3 c4 c5 f0 f1 f2 f3 f4 f5
          obtain ⟨bX5, hD⟩ : ∃ W, W = ((((((bX4).setCell ⟨bX1.heap.size, 0, none⟩ (S [])).setCell ⟨bX1.heap.size, 1, none⟩ (S (l404 ++ s4))).setCell ⟨bX1.heap.size, 2, none⟩ (.bool true)).setCell ⟨bX1.heap.size, 3, none⟩ (.bool false)).setCell ⟨bX1.heap.size, 4, none⟩ (.bool false)).setCell ⟨bX1.heap.size, 5, none⟩ (.int .u64 6) := ⟨_, rfl⟩
          rw [← hD]
          obtain ⟨hk, hg⟩ := put6 HA.out _ _ _ _ _ _ hD
          have hb := grown_below HF.out.b hg GHA.out hl
          have HK := Lib.hid ((hg.block _ (blk_lt HF.out.k) (fun e => NHAHF.out (by injection e))).trans HF.out.k)
          have HB := Lib.hid hb
          replace HZ := Lib.hid ((hg.block _ (blk_lt HZ.out) (fun e => NHZHA.out (by injection e with e; exact e.symm))).trans HZ.out)
          replace HA := Lib.hid hk
          clear hk hg hD hl hb
          refine wpAny_ready (rs := [11]) (by kernel_rfl) (by simp) ?_
          refine AllReady.cons rfl (fun K hK => ?_) AllReady.nil
          obtain ⟨c0, c1⟩ := box2 HZ.out
          obtain ⟨f0, f1⟩ := box2' HZ.out
          have hl := blk_lt HZ.out
          go_simp
          refine hK _ _ ?_
          clear hK K c0 c1 f0 f1
          obtain ⟨bX6, hD⟩ : ∃ W, W = ((bX5).setCell ⟨bX2.heap.size, 0, none⟩ (.int .u8 0)).setCell ⟨bX2.heap.size, 1, none⟩ (.slice none 0 0) := ⟨_, rfl⟩
          rw [← hD]
          obtain ⟨hk, hg⟩ := put2 HZ.out _ _ hD
          have hb := grown_below HB.out hg GHZ.out hl
          replace HK := Lib.hid ((hg.block _ (blk_lt HK.out) (fun e => NHZHF.out (by injection e))).trans HK.out)
          replace HB := Lib.hid hb
          replace HA := Lib.hid ((hg.block _ (blk_lt HA.out) (fun e => NHZHA.out (by injection e))).trans HA.out)
          replace HZ := Lib.hid hk
          clear hk hg hD hl hb
          refine wpAny_ready (rs := [12]) (by kernel_rfl) (by simp) ?_
          refine AllReady.cons rfl (fun K hK => ?_) AllReady.nil
          go_simp
          refine hK _ _ ?_
          clear hK K
          refine wpAny_ready (rs := [13]) (by kernel_rfl) (by simp) ?_
          refine AllReady.cons rfl (fun K hK => ?_) AllReady.nil
          go_simp
          refine hK _ _ ?_
          clear hK K
          refine wpAny_done (by kernel_rfl) ?_ _
          go_simp
          exact ⟨rfl, HB.out, HK.out, _, HA.out, _, _, _, _, _, _, _, _, _, rfl⟩
        refine AllReady.cons rfl (fun K hK => ?_) AllReady.nil
        go_simp
        refine hK _ _ ?_
        clear hK K
        obtain ⟨bX2, hD, hbD, hF⟩ := alcx bX1 #[.int .u8 0, .slice none 0 0] 40
        rw [← hD]
        have GHZ := Lib.hid HF.out.b.size
        have NHZHF := Lib.hid (Nat.ne_of_lt (blk_lt HF.out.k))
        replace HF := Lib.hid (HF.out.under hbD)
        have HZ := Lib.hid hF
        clear hbD hD hF
        refine wpAny_ready (rs := [2, 8]) (by kernel_rfl) (by simp) ?_
        refine AllReady.cons rfl (fun K hK => ?_) ?_
        · skip
          go_simp
          go_at_call 10
          refine (lk_b bX2 s4 Hs4.out Hs4l.out HF.out.t).mono ?_
          rintro e bX3 ⟨rfl, hbD⟩
          replace HF := Lib.hid (HF.out.under hbD)
          replace HZ := Lib.hid (blk_under HZ.out hbD)
          clear hbD
          refine hK _ _ ?_
          clear hK K
          refine tk 3 ?vb16 rfl (by kernel_rfl) (fun _ _ _ h => nomatch h.1) ?hb16 ?rb16
          case hb16 => (intro w; go_simp; first | done | (with_reducible rfl))
          refine tk 4 ?vb17 rfl (by kernel_rfl) (fun _ _ _ h => nomatch h.1) ?hb17 ?rb17
          case hb17 => (intro w; go_simp; first | done | (with_reducible rfl))
          refine tk 5 ?vb18 rfl (by kernel_rfl) (fun _ _ _ h => nomatch h.1) ?hb18 ?rb18
          case hb18 => (intro w; go_simp; first | done | (with_reducible rfl))
          refine tk 6 ?vb19 rfl (by kernel_rfl) (fun _ _ _ h => nomatch h.1) ?hb19 ?rb19
          case hb19 => (intro w; go_simp; first | done | (with_reducible rfl))
          refine tk 7 ?vb20 rfl (by kernel_rfl) (fun _ _ _ h => nomatch h.1) ?hb20 ?rb20
          case hb20 => (intro w; go_simp; first | done | (with_reducible rfl))
          go_simp
          refine wpAny_ready (rs := [8]) (by kernel_rfl) (by simp) ?_
          refine AllReady.cons rfl (fun K hK => ?_) AllReady.nil
          go_simp
          refine hK _ _ ?_
          clear hK K
          obtain ⟨bX4, hD, hbD, hF⟩ := alcx bX3 #[S [], S [], .bool false, .bool false, .bool false, .int .u64 0] 24
          rw [← hD]
          have GHA := Lib.hid HF.out.b.size
          have NHAHF := Lib.hid (Nat.ne_of_lt (blk_lt HF.out.k))
          have NHAHZ := Lib.hid (Nat.ne_of_lt (blk_lt HZ.out))
          replace HF := Lib.hid (HF.out.under hbD)
          replace HZ := Lib.hid (blk_under HZ.out hbD)
          have HA := Lib.hid hF
          clear hbD hD hF
          refine wpAny_ready (rs := [10]) (by kernel_rfl) (by simp) ?_
          refine AllReady.cons rfl (fun K hK => ?_) AllReady.nil
          obtain ⟨c0, c1, c2, c3, c4, c5⟩ := box6 HA.out
          obtain ⟨f0, f1, f2, f3, f4, f5⟩ := frz6 HA.out
          have hl := blk_lt HA.out
          go_simp
          refine hK _ _ ?_
          clear hK K c0 c1 c2 c3 c4 c5 f0 f1 f2 f3 f4 f5
          obtain ⟨bX5, hD⟩ : ∃ W, W = ((((((bX4).setCell ⟨bX3.heap.size, 0, none⟩ (S [])).setCell ⟨bX3.heap.size, 1, none⟩ (S (l404 ++ s4))).setCell ⟨bX3.heap.size, 2, none⟩ (.bool true)).setCell ⟨bX3.heap.size, 3, none⟩ (.bool false)).setCell ⟨bX3.heap.size, 4, none⟩ (.bool false)).setCell ⟨bX3.heap.size, 5, none⟩ (.int .u64 6) := ⟨_, rfl⟩
          rw [← hD]
          obtain ⟨hk, hg⟩ := put6 HA.out _ _ _ _ _ _ hD
          have hb := grown_below HF.out.b hg GHA.out hl
          have HK := Lib.hid ((hg.block _ (blk_lt HF.out.k) (fun e => NHAHF.out (by injection e))).trans HF.out.k)
          have HB := Lib.hid hb
          replace HZ := Lib.hid ((hg.block _ (blk_lt HZ.out) (fun e => NHAHZ.out (by injection e))).trans HZ.out)
          replace HA := Lib.hid hk
          clear hk hg hD hl hb
          refine wpAny_ready (rs := [11]) (by kernel_rfl) (by simp) ?_
          refine AllReady.cons rfl (fun K hK => ?_) AllReady.nil
          obtain ⟨c0, c1⟩ := box2 HZ.out
          obtain ⟨f0, f1⟩ := box2' HZ.out
          have hl := blk_lt HZ.out
          go_simp
          refine hK _ _ ?_
          clear hK K c0 c1 f0 f1
          obtain ⟨bX6, hD⟩ : ∃ W, W = ((bX5).setCell ⟨bX1.heap.size, 0, none⟩ (.int .u8 0)).setCell ⟨bX1.heap.size, 1, none⟩ (.slice none 0 0) := ⟨_, rfl⟩
          rw [← hD]
          obtain ⟨hk, hg⟩ := put2 HZ.out _ _ hD
          have hb := grown_below HB.out hg GHZ.out hl
          replace HK := Lib.hid ((hg.block _ (blk_lt HK.out) (fun e => NHZHF.out (by injection e))).trans HK.out)
          replace HB := Lib.hid hb
          replace HA := Lib.hid ((hg.block _ (blk_lt HA.out) (fun e => NHAHZ.out (by injection e with e; exact e.symm))).trans HA.out)
          replace HZ := Lib.hid hk
          clear hk hg hD hl hb
          refine wpAny_ready (rs := [12]) (by kernel_rfl) (by simp) ?_
          refine AllReady.cons rfl (fun K hK => ?_) AllReady.nil
          go_simp
          refine hK _ _ ?_
          clear hK K
          refine wpAny_ready (rs := [13]) (by kernel_rfl) (by simp) ?_
          refine AllReady.cons rfl (fun K hK => ?_) AllReady.nil
          go_simp
          refine hK _ _ ?_
          clear hK K
          refine wpAny_done (by kernel_rfl) ?_ _
          go_simp
          exact ⟨rfl, HB.out, HK.out, _, HA.out, _, _, _, _, _, _, _, _, _, rfl⟩
        refine AllReady.cons rfl (fun K hK => ?_) AllReady.nil
        go_simp
        refine hK _ _ ?_
        clear hK K
        obtain ⟨bX3, hD, hbD, hF⟩ := alcx bX2 #[S [], S [], .bool false, .bool false, .bool false, .int .u64 0] 24
        rw [← hD]
        have GHA := Lib.hid HF.out.b.size
        have NHAHF := Lib.hid (Nat.ne_of_lt (blk_lt HF.out.k))
        have NHAHZ := Lib.hid (Nat.ne_of_lt (blk_lt HZ.out))
        replace HF := Lib.hid (HF.out.under hbD)
        replace HZ := Lib.hid (blk_under HZ.out hbD)
        have HA := Lib.hid hF
        clear hbD hD hF
        refine wpAny_ready (rs := [2]) (by kernel_rfl) (by simp) ?_
        refine AllReady.cons rfl (fun K hK => ?_) AllReady.nil
        go_simp
        go_at_call 10
        refine (lk_b bX3 s4 Hs4.out Hs4l.out HF.out.t).mono ?_
        rintro e bX4 ⟨rfl, hbD⟩
        replace HF := Lib.hid (HF.out.under hbD)
        replace HZ := Lib.hid (blk_under HZ.out hbD)
        replace HA := Lib.hid (blk_under HA.out hbD)
        clear hbD
        refine hK _ _ ?_
        clear hK K
        refine tk 3 ?vb21 rfl (by kernel_rfl) (fun _ _ _ h => nomatch h.1) ?hb21 ?rb21
        case hb21 => (intro w; go_simp; first | done | (with_reducible rfl))
        refine tk 4 ?vb22 rfl (by kernel_rfl) (fun _ _ _ h => nomatch h.1) ?hb22 ?rb22
        case hb22 => (intro w; go_simp; first | done | (with_reducible rfl))
        refine tk 5 ?vb23 rfl (by kernel_rfl) (fun _ _ _ h => nomatch h.1) ?hb23 ?rb23
        case hb23 => (intro w; go_simp; first | done | (with_reducible rfl))
        refine tk 6 ?vb24 rfl (by kernel_rfl) (fun _ _ _ h => nomatch h.1) ?hb24 ?rb24
        case hb24 => (intro w; go_simp; first | done | (with_reducible rfl))
        refine tk 7 ?vb25 rfl (by kernel_rfl) (fun _ _ _ h => nomatch h.1) ?hb25 ?rb25
        case hb25 => (intro w; go_simp; first | done | (with_reducible rfl))
        go_simp
        refine wpAny_ready (rs := [10]) (by kernel_rfl) (by simp) ?_
        refine AllReady.cons rfl (fun K hK => ?_) AllReady.nil
        obtain ⟨c0, c1, c2, c3, c4, c5⟩ := box6 HA.out
        obtain ⟨f0, f1, f2, f3, f4, f5⟩ := frz6 HA.out
        have hl := blk_lt HA.out
        go_simp
        refine hK _ _ ?_
        clear hK K c0 c1 c2 c3 c4 c5 f0 f1 f2 f3 f4 f5
        obtain ⟨bX5, hD⟩ : ∃ W, W = ((((((bX4).setCell ⟨bX2.heap.size, 0, none⟩ (S [])).setCell ⟨bX2.heap.size, 1, none⟩ (S (l404 ++ s4))).setCell ⟨bX2.heap.size, 2, none⟩ (.bool true)).setCell ⟨bX2.heap.size, 3, none⟩ (.bool false)).setCell ⟨bX2.heap.size, 4, none⟩ (.bool false)).setCell ⟨bX2.heap.size, 5, none⟩ (.int .u64 6) := ⟨_, rfl⟩
        rw [← hD]
        obtain ⟨hk, hg⟩ := put6 HA.out _ _ _ _ _ _ hD
        have hb := grown_below HF.out.b hg GHA.out hl
        have HK := Lib.hid ((hg.block _ (blk_lt HF.out.k) (fun e => NHAHF.out (by injection e))).trans HF.out.k)
        have HB := Lib.hid hb
        replace HZ := Lib.hid ((hg.block _ (blk_lt HZ.out) (fun e => NHAHZ.out (by injection e))).trans HZ.out)
        replace HA := Lib.hid hk
        clear hk hg hD hl hb
        refine wpAny_ready (rs := [11]) (by kernel_rfl) (by simp) ?_
        refine AllReady.cons rfl (fun K hK => ?_) AllReady.nil
        obtain ⟨c0, c1⟩ := box2 HZ.out
        obtain ⟨f0, f1⟩ := box2' HZ.out
        have hl := blk_lt HZ.out
        go_simp
        refine hK _ _ ?_
        clear hK K c0 c1 f0 f1
        obtain ⟨bX6, hD⟩ : ∃ W, W = ((bX5).setCell ⟨bX1.heap.size, 0, none⟩ (.int .u8 0)).setCell ⟨bX1.heap.size, 1, none⟩ (.slice none 0 0) := ⟨_, rfl⟩
        rw [← hD]
        obtain ⟨hk, hg⟩ := put2 HZ.out _ _ hD
        have hb := grown_below HB.out hg GHZ.out hl
        replace HK := Lib.hid ((hg.block _ (blk_lt HK.out) (fun e => NHZHF.out (by injection e))).trans HK.out)
        replace HB := Lib.hid hb
        replace HA := Lib.hid ((hg.block _ (blk_lt HA.out) (fun e => NHAHZ.out (by injection e with e; exact e.symm))).trans HA.out)
        replace HZ := Lib.hid hk
        clear hk hg hD hl hb
        refine wpAny_ready (rs := [12]) (by kernel_rfl) (by simp) ?_
        refine AllReady.cons rfl (fun K hK => ?_) AllReady.nil
        go_simp
        refine hK _ _ ?_
        clear hK K
        refine wpAny_ready (rs := [13]) (by kernel_rfl) (by simp) ?_
        refine AllReady.cons rfl (fun K hK => ?_) AllReady.nil
        go_simp
        refine hK _ _ ?_
        clear hK K
        refine wpAny_done (by kernel_rfl) ?_ _
        go_simp
        exact ⟨rfl, HB.out, HK.out, _, HA.out, _, _, _, _, _, _, _, _, _, rfl⟩
      refine AllReady.cons rfl (fun K hK => ?_) ?_
      · skip
        go_simp
        refine hK _ _ ?_
        clear hK K
        obtain ⟨bX1, hD, hbD, hF⟩ := alcx bX0 #[S [], S [], .bool false, .bool false, .bool false, .int .u64 0] 24
        rw [← hD]
        have GHA := Lib.hid HF.out.b.size
        have NHAHF := Lib.hid (Nat.ne_of_lt (blk_lt HF.out.k))
        replace HF := Lib.hid (HF.out.under hbD)
        have HA := Lib.hid hF
        clear hbD hD hF
        refine wpAny_ready (rs := [1, 9]) (by kernel_rfl) (by simp) ?_
        refine AllReady.cons rfl (fun K hK => ?_) ?_
        · skip
          go_simp
          go_at_call 9
          refine (cn_rules bX1).mono ?_
          rintro e bX2 ⟨rfl, hbD⟩
          replace HF := Lib.hid (HF.out.under hbD)
          replace HA := Lib.hid (blk_under HA.out hbD)
          clear hbD
          refine hK _ _ ?_
          clear hK K
          refine wpAny_ready (rs := [2, 9]) (by kernel_rfl) (by simp) ?_
          refine AllReady.cons rfl (fun K hK => ?_) ?_
          · skip
            go_simp
            go_at_call 10
            refine (lk_b bX2 s4 Hs4.out Hs4l.out HF.out.t).mono ?_
            rintro e bX3 ⟨rfl, hbD⟩
            replace HF := Lib.hid (HF.out.under hbD)
            replace HA := Lib.hid (blk_under HA.out hbD)
            clear hbD
            refine hK _ _ ?_
            clear hK K
            refine tk 3 ?vb26 rfl (by kernel_rfl) (fun _ _ _ h => nomatch h.1) ?hb26 ?rb26
            case hb26 => (intro w; go_simp; first | done | (with_reducible rfl))
            refine tk 4 ?vb27 rfl (by kernel_rfl) (fun _ _ _ h => nomatch h.1) ?hb27 ?rb27
            case hb27 => (intro w; go_simp; first | done | (with_reducible rfl))
            refine tk 5 ?vb28 rfl (by kernel_rfl) (fun _ _ _ h => nomatch h.1) ?hb28 ?rb28
            case hb28 => (intro w; go_simp; first | done | (with_reducible rfl))
            refine tk 6 ?vb29 rfl (by kernel_rfl) (fun _ _ _ h => nomatch h.1) ?hb29 ?rb29
            case hb29 => (intro w; go_simp; first | done | (with_reducible rfl))
            refine tk 7 ?vb30 rfl (by kernel_rfl) (fun _ _ _ h => nomatch h.1) ?hb30 ?rb30
            case hb30 => (intro w; go_simp; first | done | (with_reducible rfl))
            go_simp
            refine wpAny_ready (rs := [9]) (by kernel_rfl) (by simp) ?_
            refine AllReady.cons rfl (fun K hK => ?_) AllReady.nil
            go_simp
            refine hK _ _ ?_
            clear hK K
            obtain ⟨bX4, hD, hbD, hF⟩ := alcx bX3 #[.int .u8 0, .slice none 0 0] 40
            rw [← hD]
            have GHZ := Lib.hid HF.out.b.size
            have NHZHF := Lib.hid (Nat.ne_of_lt (blk_lt HF.out.k))
            have NHZHA := Lib.hid (Nat.ne_of_lt (blk_lt HA.out))
            replace HF := Lib.hid (HF.out.under hbD)
            replace HA := Lib.hid (blk_under HA.out hbD)
            have HZ := Lib.hid hF
            clear hbD hD hF
            refine wpAny_ready (rs := [10]) (by kernel_rfl) (by simp) ?_
            refine AllReady.cons rfl (fun K hK => ?_) AllReady.nil
            obtain ⟨c0, c1, c2, c3, c4, c5⟩ := box6 HA.out
            obtain ⟨f0, f1, f2, f3, f4, f5⟩ := frz6 HA.out
            have hl := blk_lt HA.out
            go_simp
            refine hK _ _ ?_
            clear hK K c0 c1 c2 c3 c4 c5 f0 f1 f2 f3 f4 f5
            obtain ⟨bX5, hD⟩ : ∃ W, W = ((((((bX4).setCell ⟨bX0.heap.size, 0, none⟩ (S [])).setCell ⟨bX0.heap.size, 1, none⟩ (S (l404 ++ s4))).setCell ⟨bX0.heap.size, 2, none⟩ (.bool true)).setCell ⟨bX0.heap.size, 3, none⟩ (.bool false)).setCell ⟨bX0.heap.size, 4, none⟩ (.bool false)).setCell ⟨bX0.heap.size, 5, none⟩ (.int .u64 6) := ⟨_, rfl⟩
            rw [← hD]
            obtain ⟨hk, hg⟩ := put6 HA.out _ _ _ _ _ _ hD
            have hb := grown_below HF.out.b hg GHA.out hl
            have HK := Lib.hid ((hg.block _ (blk_lt HF.out.k) (fun e => NHAHF.out (by injection e))).trans HF.out.k)
            have HB := Lib.hid hb
            replace HZ := Lib.hid ((hg.block _ (blk_lt HZ.out) (fun e => NHZHA.out (by injection e with e; exact e.symm))).trans HZ.out)
            replace HA := Lib.hid hk
            clear hk hg hD hl hb
            refine wpAny_ready (rs := [11]) (by kernel_rfl) (by simp) ?_
            refine AllReady.cons rfl (fun K hK => ?_) AllReady.nil
            obtain ⟨c0, c1⟩ := box2 HZ.out
            obtain ⟨f0, f1⟩ := box2' HZ.out
            have hl := blk_lt HZ.out
            go_simp
            refine hK _ _ ?_
            clear hK K c0 c1 f0 f1
            obtain ⟨bX6, hD⟩ : ∃ W, W = ((bX5).setCell ⟨bX3.heap.size, 0, none⟩ (.int .u8 0)).setCell ⟨bX3.heap.size, 1, none⟩ (.slice none 0 0) := ⟨_, rfl⟩
            rw [← hD]
            obtain ⟨hk, hg⟩ := put2 HZ.out _ _ hD
            have hb := grown_below HB.out hg GHZ.out hl
            replace HK := Lib.hid ((hg.block _ (blk_lt HK.out) (fun e => NHZHF.out (by injection e))).trans HK.out)
            replace HB := Lib.hid hb
            replace HA := Lib.hid ((hg.block _ (blk_lt HA.out) (fun e => NHZHA.out (by injection e))).trans HA.out)
            replace HZ := Lib.hid hk
            clear hk hg hD hl hb
            refine wpAny_ready (rs := [12]) (by kernel_rfl) (by simp) ?_
            refine AllReady.cons rfl (fun K hK => ?_) AllReady.nil
            go_simp
            refine hK _ _ ?_
            clear hK K
            refine wpAny_ready (rs := [13]) (by kernel_rfl) (by simp) ?_
            refine AllReady.cons rfl (fun K hK => ?_) AllReady.nil
            go_simp
            refine hK _ _ ?_
            clear hK K
            refine wpAny_done (by kernel_rfl) ?_ _
            go_simp
            exact ⟨rfl, HB.out, HK.out, _, HA.out, _, _, _, _, _, _, _, _, _, rfl⟩
          refine AllReady.cons rfl (fun K hK => ?_) AllReady.nil
          go_simp
          refine hK _ _ ?_
          clear hK K
          obtain ⟨bX3, hD, hbD, hF⟩ := alcx bX2 #[.int .u8 0, .slice none 0 0] 40
          rw [← hD]
          have GHZ := Lib.hid HF.out.b.size
          have NHZHF := Lib.hid (Nat.ne_of_lt (blk_lt HF.out.k))
          have NHZHA := Lib.hid (Nat.ne_of_lt (blk_lt HA.out))
          replace HF := Lib.hid (HF.out.under hbD)
          replace HA := Lib.hid (blk_under HA.out hbD)
          have HZ := Lib.hid hF
          clear hbD hD hF
          refine wpAny_ready (rs := [2]) (by kernel_rfl) (by simp) ?_
          refine AllReady.cons rfl (fun K hK => ?_) AllReady.nil
          go_simp
          go_at_call 10
          refine (lk_b bX3 s4 Hs4.out Hs4l.out HF.out.t).mono ?_
          rintro e bX4 ⟨rfl, hbD⟩
          replace HF := Lib.hid (HF.out.under hbD)
          replace HA := Lib.hid (blk_under HA.out hbD)
          replace HZ := Lib.hid (blk_under HZ.out hbD)
          clear hbD
          refine hK _ _ ?_
          clear hK K
          refine tk 3 ?vb31 rfl (by kernel_rfl) (fun _ _ _ h => nomatch h.1) ?hb31 ?rb31
          case hb31 => (intro w; go_simp; first | done | (with_reducible rfl))
          refine tk 4 ?vb32 rfl (by kernel_rfl) (fun _ _ _ h => nomatch h.1) ?hb32 ?rb32
          case hb32 => (intro w; go_simp; first | done | (with_reducible rfl))
          refine tk 5 ?vb33 rfl (by kernel_rfl) (fun _ _ _ h => nomatch h.1) ?hb33 ?rb33
          case hb33 => (intro w; go_simp; first | done | (with_reducible rfl))
          refine tk 6 ?vb34 rfl (by kernel_rfl) (fun _ _ _ h => nomatch h.1) ?hb34 ?rb34
          case hb34 => (intro w; go_simp; first | done | (with_reducible rfl))
          refine tk 7 ?vb35 rfl (by kernel_rfl) (fun _ _ _ h => nomatch h.1) ?hb35 ?rb35
          case hb35 => (intro w; go_simp; first | done | (with_reducible rfl))
          go_simp
          refine wpAny_ready (rs := [10]) (by kernel_rfl) (by simp) ?_
          refine AllReady.cons rfl (fun K hK => ?_) AllReady.nil
          obtain ⟨c0, c1, c2, c3, c4, c5⟩ := box6 HA.out
          obtain ⟨f0, f1, f2, f3, f4, f5⟩ := frz6 HA.out
          have hl := blk_lt HA.out
          go_simp
          refine hK _ _ ?_
          clear hK K c0 c1 c2 c3 c4 c5 f0 f1 f2 f3 f4 f5
          obtain ⟨bX5, hD⟩ : ∃ W, W = ((((((bX4).setCell ⟨bX0.heap.size, 0, none⟩ (S [])).setCell ⟨bX0.heap.size, 1, none⟩ (S (l404 ++ s4))).setCell ⟨bX0.heap.size, 2, none⟩ (.bool true)).setCell ⟨bX0.heap.size, 3, none⟩ (.bool false)).setCell ⟨bX0.heap.size, 4, none⟩ (.bool false)).setCell ⟨bX0.heap.size, 5, none⟩ (.int .u64 6) := ⟨_, rfl⟩
          rw [← hD]
          obtain ⟨hk, hg⟩ := put6 HA.out _ _ _ _ _ _ hD
          have hb := grown_below HF.out.b hg GHA.out hl
          have HK := Lib.hid ((hg.block _ (blk_lt HF.out.k) (fun e => NHAHF.out (by injection e))).trans HF.out.k)
          have HB := Lib.hid hb
          replace HZ := Lib.hid ((hg.block _ (blk_lt HZ.out) (fun e => NHZHA.out (by injection e with e; exact e.symm))).trans HZ.out)
          replace HA := Lib.hid hk
          clear hk hg hD hl hb
          refine wpAny_ready (rs := [11]) (by kernel_rfl) (by simp) ?_
          refine AllReady.cons rfl (fun K hK => ?_) AllReady.nil
          obtain ⟨c0, c1⟩ := box2 HZ.out
          obtain ⟨f0, f1⟩ := box2' HZ.out
          have hl := blk_lt HZ.out
          go_simp
          refine hK _ _ ?_
          clear hK K c0 c1 f0 f1
          obtain ⟨bX6, hD⟩ : ∃ W, W = ((bX5).setCell ⟨bX2.heap.size, 0, none⟩ (.int .u8 0)).setCell ⟨bX2.heap.size, 1, none⟩ (.slice none 0 0) := ⟨_, rfl⟩
          rw [← hD]
          obtain ⟨hk, hg⟩ := put2 HZ.out _ _ hD
          have hb := grown_below HB.out hg GHZ.out hl
          replace HK := Lib.hid ((hg.block _ (blk_lt HK.out) (fun e => NHZHF.out (by injection e))).trans HK.out)
          replace HB := Lib.hid hb
          replace HA := Lib.hid ((hg.block _ (blk_lt HA.out) (fun e => NHZHA.out (by injection e))).trans HA.out)
          replace HZ := Lib.hid hk
          clear hk hg hD hl hb
          refine wpAny_ready (rs := [12]) (by kernel_rfl) (by simp) ?_
          refine AllReady.cons rfl (fun K hK => ?_) AllReady.nil
          go_simp
          refine hK _ _ ?_
          clear hK K
          refine wpAny_ready (rs := [13]) (by kernel_rfl) (by simp) ?_
          refine AllReady.cons rfl (fun K hK => ?_) AllReady.nil
          go_simp
          refine hK _ _ ?_
          clear hK K
          refine wpAny_done (by kernel_rfl) ?_ _
          go_simp
          exact ⟨rfl, HB.out, HK.out, _, HA.out, _, _, _, _, _, _, _, _, _, rfl⟩
        refine AllReady.cons rfl (fun K hK => ?_) AllReady.nil
        go_simp
        refine hK _ _ ?_
        clear hK K
        obtain ⟨bX2, hD, hbD, hF⟩ := alcx bX1 #[.int .u8 0, .slice none 0 0] 40
        rw [← hD]
        have GHZ := Lib.hid HF.out.b.size
        have NHZHF := Lib.hid (Nat.ne_of_lt (blk_lt HF.out.k))
        have NHZHA := Lib.hid (Nat.ne_of_lt (blk_lt HA.out))
        replace HF := Lib.hid (HF.out.under hbD)
        replace HA := Lib.hid (blk_under HA.out hbD)
        have HZ := Lib.hid hF
        clear hbD hD hF
        refine wpAny_ready (rs := [1]) (by kernel_rfl) (by simp) ?_
        refine AllReady.cons rfl (fun K hK => ?_) AllReady.nil
        go_simp
        go_at_call 9
        refine (cn_rules bX2).mono ?_
        rintro e bX3 ⟨rfl, hbD⟩
        replace HF := Lib.hid (HF.out.under hbD)
        replace HA := Lib.hid (blk_under HA.out hbD)
        replace HZ := Lib.hid (blk_under HZ.out hbD)
        clear hbD
        refine hK _ _ ?_
        clear hK K
        refine wpAny_ready (rs := [2]) (by kernel_rfl) (by simp) ?_
        refine AllReady.cons rfl (fun K hK => ?_) AllReady.nil
        go_simp
        go_at_call 10
        refine (lk_b bX3 s4 Hs4.out Hs4l.out HF.out.t).mono ?_
        rintro e bX4 ⟨rfl, hbD⟩
        replace HF := Lib.hid (HF.out.under hbD)
        replace HA := Lib.hid (blk_under HA.out hbD)
        replace HZ := Lib.hid (blk_under HZ.out hbD)
        clear hbD
        refine hK _ _ ?_
        clear hK K
        refine tk 3 ?vb36 rfl (by kernel_rfl) (fun _ _ _ h => nomatch h.1) ?hb36 ?rb36
        case hb36 => (intro w; go_simp; first | done | (with_reducible rfl))
        refine tk 4 ?vb37 rfl (by kernel_rfl) (fun _ _ _ h => nomatch h.1) ?hb37 ?rb37
        case hb37 => (intro w; go_simp; first | done | (with_reducible rfl))
        refine tk 5 ?vb38 rfl (by kernel_rfl) (fun _ _ _ h => nomatch h.1) ?hb38 ?rb38
        case hb38 => (intro w; go_simp; first | done | (with_reducible rfl))
        refine tk 6 ?vb39 rfl (by kernel_rfl) (fun _ _ _ h => nomatch h.1) ?hb39 ?rb39
        case hb39 => (intro w; go_simp; first | done | (with_reducible rfl))
        refine tk 7 ?vb40 rfl (by kernel_rfl) (fun _ _ _ h => nomatch h.1) ?hb40 ?rb40
        case hb40 => (intro w; go_simp; first | done | (with_reducible rfl))
        go_simp
        refine wpAny_ready (rs := [10]) (by kernel_rfl) (by simp) ?_
        refine AllReady.cons rfl (fun K hK => ?_) AllReady.nil
        obtain ⟨c0, c1, c2, c3, c4, c5⟩ := box6 HA.out
        obtain ⟨f0, f1, f2, f3, f4, f5⟩ := frz6 HA.out
        have hl := blk_lt HA.out
        go_simp
        refine hK _ _ ?_
        clear hK K c0 c1 c2 c3 c4 c5 f0 f1 f2 f3 f4 f5
        obtain ⟨bX5, hD⟩ : ∃ W, W = ((((((bX4).setCell ⟨bX0.heap.size, 0, none⟩ (S [])).setCell ⟨bX0.heap.size, 1, none⟩ (S (l404 ++ s4))).setCell ⟨bX0.heap.size, 2, none⟩ (.bool true)).setCell ⟨bX0.heap.size, 3, none⟩ (.bool false)).setCell ⟨bX0.heap.size, 4, none⟩ (.bool false)).setCell ⟨bX0.heap.size, 5, none⟩ (.int .u64 6) := ⟨_, rfl⟩
        rw [← hD]
        obtain ⟨hk, hg⟩ := put6 HA.out _ _ _ _ _ _ hD
        have hb := grown_below HF.out.b hg GHA.out hl
        have HK := Lib.hid ((hg.block _ (blk_lt HF.out.k) (fun e => NHAHF.out (by injection e))).trans HF.out.k)
        have HB := Lib.hid hb
        replace HZ := Lib.hid ((hg.block _ (blk_lt HZ.out) (fun e => NHZHA.out (by injection e with e; exact e.symm))).trans HZ.out)
        replace HA := Lib.hid hk
        clear hk hg hD hl hb
        refine wpAny_ready (rs := [11]) (by kernel_rfl) (by simp) ?_
        refine AllReady.cons rfl (fun K hK => ?_) AllReady.nil
        obtain ⟨c0, c1⟩ := box2 HZ.out
        obtain ⟨f0, f1⟩ := box2' HZ.out
        have hl := blk_lt HZ.out
        go_simp
        refine hK _ _ ?_
        clear hK K c0 c1 f0 f1
        obtain ⟨bX6, hD⟩ : ∃ W, W = ((bX5).setCell ⟨bX1.heap.size, 0, none⟩ (.int .u8 0)).setCell ⟨bX1.heap.size, 1, none⟩ (.slice none 0 0) := ⟨_, rfl⟩
        rw [← hD]
        obtain ⟨hk, hg⟩ := put2 HZ.out _ _ hD
        have hb := grown_below HB.out hg GHZ.out hl
        replace HK := Lib.hid ((hg.block _ (blk_lt HK.out) (fun e => NHZHF.out (by injection e))).trans HK.out)
        replace HB := Lib.hid hb
        replace HA := Lib.hid ((hg.block _ (blk_lt HA.out) (fun e => NHZHA.out (by injection e))).trans HA.out)
        replace HZ := Lib.hid hk
        clear hk hg hD hl hb
        refine wpAny_ready (rs := [12]) (by kernel_rfl) (by simp) ?_
        refine AllReady.cons rfl (fun K hK => ?_) AllReady.nil
        go_simp
        refine hK _ _ ?_
        clear hK K
        refine wpAny_ready (rs := [13]) (by kernel_rfl) (by simp) ?_
        refine AllReady.cons rfl (fun K hK => ?_) AllReady.nil
        go_simp
        refine hK _ _ ?_
        clear hK K
        refine wpAny_done (by kernel_rfl) ?_ _
        go_simp
        exact ⟨rfl, HB.out, HK.out, _, HA.out, _, _, _, _, _, _, _, _, _, rfl⟩
      refine AllReady.cons rfl (fun K hK => ?_) AllReady.nil
      go_simp
      refine hK _ _ ?_
      clear hK K
      obtain ⟨bX1, hD, hbD, hF⟩ := alcx bX0 #[.int .u8 0, .slice none 0 0] 40
      rw [← hD]
      have GHZ := Lib.hid HF.out.b.size
      have NHZHF := Lib.hid (Nat.ne_of_lt (blk_lt HF.out.k))
      replace HF := Lib.hid (HF.out.under hbD)
      have HZ := Lib.hid hF
      clear hbD hD hF
      refine wpAny_ready (rs := [1, 8]) (by kernel_rfl) (by simp) ?_
      refine AllReady.cons rfl (fun K hK => ?_) ?_
      · skip
        go_simp
        go_at_call 9
        refine (cn_rules bX1).mono ?_
        rintro e bX2 ⟨rfl, hbD⟩
        replace HF := Lib.hid (HF.out.under hbD)
        replace HZ := Lib.hid (blk_under HZ.out hbD)
        clear hbD
        refine hK _ _ ?_
        clear hK K
        refine wpAny_ready (rs := [2, 8]) (by kernel_rfl) (by simp) ?_
        refine AllReady.cons rfl (fun K hK => ?_) ?_
        · skip
          go_simp
          go_at_call 10
          refine (lk_b bX2 s4 Hs4.out Hs4l.out HF.out.t).mono ?_
          rintro e bX3 ⟨rfl, hbD⟩
          replace HF := Lib.hid (HF.out.under hbD)
          replace HZ := Lib.hid (blk_under HZ.out hbD)
          clear hbD
          refine hK _ _ ?_
          clear hK K
          refine tk 3 ?vb41 rfl (by kernel_rfl) (fun _ _ _ h => nomatch h.1) ?hb41 ?rb41
          case hb41 => (intro w; go_simp; first | done | (with_reducible rfl))
          refine tk 4 ?vb42 rfl (by kernel_rfl) (fun _ _ _ h => nomatch h.1) ?hb42 ?rb42
          case hb42 => (intro w; go_simp; first | done | (with_reducible rfl))
          refine tk 5 ?vb43 rfl (by kernel_rfl) (fun _ _ _ h => nomatch h.1) ?hb43 ?rb43
          case hb43 => (intro w; go_simp; first | done | (with_reducible rfl))
          refine tk 6 ?vb44 rfl (by kernel_rfl) (fun _ _ _ h => nomatch h.1) ?hb44 ?rb44
          case hb44 => (intro w; go_simp; first | done | (with_reducible rfl))
          refine tk 7 ?vb45 rfl (by kernel_rfl) (fun _ _ _ h => nomatch h.1) ?hb45 ?rb45
          case hb45 => (intro w; go_simp; first | done | (with_reducible rfl))
          go_simp
          refine wpAny_ready (rs := [8]) (by kernel_rfl) (by simp) ?_
          refine AllReady.cons rfl (fun K hK => ?_) AllReady.nil
          go_simp
          refine hK _ _ ?_
          clear hK K
          obtain ⟨bX4, hD, hbD, hF⟩ := alcx bX3 #[S [], S [], .bool false, .bool false, .bool false, .int .u64 0] 24
          rw [← hD]
          have GHA := Lib.hid HF.out.b.size
          have NHAHF := Lib.hid (Nat.ne_of_lt (blk_lt HF.out.k))
          have NHAHZ := Lib.hid (Nat.ne_of_lt (blk_lt HZ.out))
          replace HF := Lib.hid (HF.out.under hbD)
          replace HZ := Lib.hid (blk_under HZ.out hbD)
          have HA := Lib.hid hF
          clear hbD hD hF
          refine wpAny_ready (rs := [10]) (by kernel_rfl) (by simp) ?_
          refine AllReady.cons rfl (fun K hK => ?_) AllReady.nil
          obtain ⟨c0, c1, c2, c3, c4, c5⟩ := box6 HA.out
          obtain ⟨f0, f1, f2, f3, f4, f5⟩ := frz6 HA.out
          have hl := blk_lt HA.out
          go_simp
          refine hK _ _ ?_
          clear hK K c0 c1 c2 c3 c4 c5 f0 f1 f2 f3 f4 f5
          obtain ⟨bX5, hD⟩ : ∃ W, W = ((((((bX4).setCell ⟨bX3.heap.size, 0, none⟩ (S [])).setCell ⟨bX3.heap.size, 1, none⟩ (S (l404 ++ s4))).setCell ⟨bX3.heap.size, 2, none⟩ (.bool true)).setCell ⟨bX3.heap.size, 3, none⟩ (.bool false)).setCell ⟨bX3.heap.size, 4, none⟩ (.bool false)).setCell ⟨bX3.heap.size, 5, none⟩ (.int .u64 6) := ⟨_, rfl⟩
          rw [← hD]
          obtain ⟨hk, hg⟩ := put6 HA.out _ _ _ _ _ _ hD
          have hb := grown_below HF.out.b hg GHA.out hl
          have HK := Lib.hid ((hg.block _ (blk_lt HF.out.k) (fun e => NHAHF.out (by injection e))).trans HF.out.k)
          have HB := Lib.hid hb
          replace HZ := Lib.hid ((hg.block _ (blk_lt HZ.out) (fun e => NHAHZ.out (by injection e))).trans HZ.out)
          replace HA := Lib.hid hk
          clear hk hg hD hl hb
          refine wpAny_ready (rs := [11]) (by kernel_rfl) (by simp) ?_
          refine AllReady.cons rfl (fun K hK => ?_) AllReady.nil
          obtain ⟨c0, c1⟩ := box2 HZ.out
          obtain ⟨f0, f1⟩ := box2' HZ.out
          have hl := blk_lt HZ.out
          go_simp
          refine hK _ _ ?_
          clear hK K c0 c1 f0 f1
          obtain ⟨bX6, hD⟩ : ∃ W, W = ((bX5).setCell ⟨bX0.heap.size, 0, none⟩ (.int .u8 0)).setCell ⟨bX0.heap.size, 1, none⟩ (.slice none 0 0) := ⟨_, rfl⟩
          rw [← hD]
          obtain ⟨hk, hg⟩ := put2 HZ.out _ _ hD
          have hb := grown_below HB.out hg GHZ.out hl
          replace HK := Lib.hid ((hg.block _ (blk_lt HK.out) (fun e => NHZHF.out (by injection e))).trans HK.out)
          replace HB := Lib.hid hb
          replace HA := Lib.hid ((hg.block _ (blk_lt HA.out) (fun e => NHAHZ.out (by injection e with e; exact e.symm))).trans HA.out)
          replace HZ := Lib.hid hk
          clear hk hg hD hl hb
          refine wpAny_ready (rs := [12]) (by kernel_rfl) (by simp) ?_
          refine AllReady.cons rfl (fun K hK => ?_) AllReady.nil
          go_simp
          refine hK _ _ ?_
          clear hK K
          refine wpAny_ready (rs := [13]) (by kernel_rfl) (by simp) ?_
          refine AllReady.cons rfl (fun K hK => ?_) AllReady.nil
          go_simp
          refine hK _ _ ?_
          clear hK K
          refine wpAny_done (by kernel_rfl) ?_ _
          go_simp
          exact ⟨rfl, HB.out, HK.out, _, HA.out, _, _, _, _, _, _, _, _, _, rfl⟩
        refine AllReady.cons rfl (fun K hK => ?_) AllReady.nil
        go_simp
        refine hK _ _ ?_
        clear hK K
        obtain ⟨bX3, hD, hbD, hF⟩ := alcx bX2 #[S [], S [], .bool false, .bool false, .bool false, .int .u64 0] 24
        rw [← hD]
        have GHA := Lib.hid HF.out.b.size
        have NHAHF := Lib.hid (Nat.ne_of_lt (blk_lt HF.out.k))
        have NHAHZ := Lib.hid (Nat.ne_of_lt (blk_lt HZ.out))
        replace HF := Lib.hid (HF.out.under hbD)
        replace HZ := Lib.hid (blk_under HZ.out hbD)
        have HA := Lib.hid hF
        clear hbD hD hF
        refine wpAny_ready (rs := [2]) (by kernel_rfl) (by simp) ?_
        refine AllReady.cons rfl (fun K hK => ?_) AllReady.nil
        go_simp
        go_at_call 10
        refine (lk_b bX3 s4 Hs4.out Hs4l.out HF.out.t).mono ?_
        rintro e bX4 ⟨rfl, hbD⟩
        replace HF := Lib.hid (HF.out.under hbD)
        replace HZ := Lib.hid (blk_under HZ.out hbD)
        replace HA := Lib.hid (blk_under HA.out hbD)
        clear hbD
        refine hK _ _ ?_
        clear hK K
        refine tk 3 ?vb46 rfl (by kernel_rfl) (fun _ _ _ h => nomatch h.1) ?hb46 ?rb46
        case hb46 => (intro w; go_simp; first | done | (with_reducible rfl))
        refine tk 4 ?vb47 rfl (by kernel_rfl) (fun _ _ _ h => nomatch h.1) ?hb47 ?rb47
        case hb47 => (intro w; go_simp; first | done | (with_reducible rfl))
        refine tk 5 ?vb48 rfl (by kernel_rfl) (fun _ _ _ h => nomatch h.1) ?hb48 ?rb48
        case hb48 => (intro w; go_simp; first | done | (with_reducible rfl))
        refine tk 6 ?vb49 rfl (by kernel_rfl) (fun _ _ _ h => nomatch h.1) ?hb49 ?rb49
        case hb49 => (intro w; go_simp; first | done | (with_reducible rfl))
        refine tk 7 ?vb50 rfl (by kernel_rfl) (fun _ _ _ h => nomatch h.1) ?hb50 ?rb50
        case hb50 => (intro w; go_simp; first | done | (with_reducible rfl))
        go_simp
        refine wpAny_ready (rs := [10]) (by kernel_rfl) (by simp) ?_
        refine AllReady.cons rfl (fun K hK => ?_) AllReady.nil
        obtain ⟨c0, c1, c2, c3, c4, c5⟩ := box6 HA.out
        obtain ⟨f0, f1, f2, f3, f4, f5⟩ := frz6 HA.out
        have hl := blk_lt HA.out
        go_simp
        refine hK _ _ ?_
        clear hK K c0 c1 c2 c3 c4 c5 f0 f1 f2 f3 f4 f5
        obtain ⟨bX5, hD⟩ : ∃ W, W = ((((((bX4).setCell ⟨bX2.heap.size, 0, none⟩ (S [])).setCell ⟨bX2.heap.size, 1, none⟩ (S (l404 ++ s4))).setCell ⟨bX2.heap.size, 2, none⟩ (.bool true)).setCell ⟨bX2.heap.size, 3, none⟩ (.bool false)).setCell ⟨bX2.heap.size, 4, none⟩ (.bool false)).setCell ⟨bX2.heap.size, 5, none⟩ (.int .u64 6) := ⟨_, rfl⟩
        rw [← hD]
        obtain ⟨hk, hg⟩ := put6 HA.out _ _ _ _ _ _ hD
        have hb := grown_below HF.out.b hg GHA.out hl
        have HK := Lib.hid ((hg.block _ (blk_lt HF.out.k) (fun e => NHAHF.out (by injection e))).trans HF.out.k)
        have HB := Lib.hid hb
        replace HZ := Lib.hid ((hg.block _ (blk_lt HZ.out) (fun e => NHAHZ.out (by injection e))).trans HZ.out)
        replace HA := Lib.hid hk
        clear hk hg hD hl hb
        refine wpAny_ready (rs := [11]) (by kernel_rfl) (by simp) ?_
        refine AllReady.cons rfl (fun K hK => ?_) AllReady.nil
        obtain ⟨c0, c1⟩ := box2 HZ.out
        obtain ⟨f0, f1⟩ := box2' HZ.out
        have hl := blk_lt HZ.out
        go_simp
        refine hK _ _ ?_
        clear hK K c0 c1 f0 f1
        obtain ⟨bX6, hD⟩ : ∃ W, W = ((bX5).setCell ⟨bX0.heap.size, 0, none⟩ (.int .u8 0)).setCell ⟨bX0.heap.size, 1, none⟩ (.slice none 0 0) := ⟨_, rfl⟩
        rw [← hD]
        obtain ⟨hk, hg⟩ := put2 HZ.out _ _ hD
        have hb := grown_below HB.out hg GHZ.out hl
        replace HK := Lib.hid ((hg.block _ (blk_lt HK.out) (fun e => NHZHF.out (by injection e))).trans HK.out)
        replace HB := Lib.hid hb
        replace HA := Lib.hid ((hg.block _ (blk_lt HA.out) (fun e => NHAHZ.out (by injection e with e; exact e.symm))).trans HA.out)
        replace HZ := Lib.hid hk
        clear hk hg hD hl hb
        refine wpAny_ready (rs := [12]) (by kernel_rfl) (by simp) ?_
        refine AllReady.cons rfl (fun K hK => ?_) AllReady.nil
        go_simp
        refine hK _ _ ?_
        clear hK K
        refine wpAny_ready (rs := [13]) (by kernel_rfl) (by simp) ?_
        refine AllReady.cons rfl (fun K hK => ?_) AllReady.nil
        go_simp
        refine hK _ _ ?_
        clear hK K
        refine wpAny_done (by kernel_rfl) ?_ _
        go_simp
        exact ⟨rfl, HB.out, HK.out, _, HA.out, _, _, _, _, _, _, _, _, _, rfl⟩
      refine AllReady.cons rfl (fun K hK => ?_) AllReady.nil
      go_simp
      refine hK _ _ ?_
      clear hK K
      obtain ⟨bX2, hD, hbD, hF⟩ := alcx bX1 #[S [], S [], .bool false, .bool false, .bool false, .int .u64 0] 24
      rw [← hD]
      have GHA := Lib.hid HF.out.b.size
      have NHAHF := Lib.hid (Nat.ne_of_lt (blk_lt HF.out.k))
      have NHAHZ := Lib.hid (Nat.ne_of_lt (blk_lt HZ.out))
      replace HF := Lib.hid (HF.out.under hbD)
      replace HZ := Lib.hid (blk_under HZ.out hbD)
      have HA := Lib.hid hF
      clear hbD hD hF
      refine wpAny_ready (rs := [1]) (by kernel_rfl) (by simp) ?_
      refine AllReady.cons rfl (fun K hK => ?_) AllReady.nil
      go_simp
      go_at_call 9
      refine (cn_rules bX2).mono ?_
      rintro e bX3 ⟨rfl, hbD⟩
      replace HF := Lib.hid (HF.out.under hbD)
      replace HZ := Lib.hid (blk_under HZ.out hbD)
      replace HA := Lib.hid (blk_under HA.out hbD)
      clear hbD
      refine hK _ _ ?_
      clear hK K
      refine wpAny_ready (rs := [2]) (by kernel_rfl) (by simp) ?_
      refine AllReady.cons rfl (fun K hK => ?_) AllReady.nil
      go_simp
      go_at_call 10
      refine (lk_b bX3 s4 Hs4.out Hs4l.out HF.out.t).mono ?_
      rintro e bX4 ⟨rfl, hbD⟩
      replace HF := Lib.hid (HF.out.under hbD)
      replace HZ := Lib.hid (blk_under HZ.out hbD)
      replace HA := Lib.hid (blk_under HA.out hbD)
      clear hbD
      refine hK _ _ ?_
      clear hK K
      refine tk 3 ?vb51 rfl (by kernel_rfl) (fun _ _ _ h => nomatch h.1) ?hb51 ?rb51
      case hb51 => (intro w; go_simp; first | done | (with_reducible rfl))
      refine tk 4 ?vb52 rfl (by kernel_rfl) (fun _ _ _ h => nomatch h.1) ?hb52 ?rb52
      case hb52 => (intro w; go_simp; first | done | (with_reducible rfl))
      refine tk 5 ?vb53 rfl (by kernel_rfl) (fun _ _ _ h => nomatch h.1) ?hb53 ?rb53
      case hb53 => (intro w; go_simp; first | done | (with_reducible rfl))
      refine tk 6 ?vb54 rfl (by kernel_rfl) (fun _ _ _ h => nomatch h.1) ?hb54 ?rb54
      case hb54 => (intro w; go_simp; first | done | (with_reducible rfl))
      refine tk 7 ?vb55 rfl (by kernel_rfl) (fun _ _ _ h => nomatch h.1) ?hb55 ?rb55
      case hb55 => (intro w; go_simp; first | done | (with_reducible rfl))
      go_simp
      refine wpAny_ready (rs := [10]) (by kernel_rfl) (by simp) ?_
      refine AllReady.cons rfl (fun K hK => ?_) AllReady.nil
      obtain ⟨c0, c1, c2, c3, c4, c5⟩ := box6 HA.out
      obtain ⟨f0, f1, f2, f3, f4, f5⟩ := frz6 HA.out
      have hl := blk_lt HA.out
      go_simp
      refine hK _ _ ?_
      clear hK K c0 c1 c2 c3 c4 c5 f0 f1 f2 f3 f4 f5
      obtain ⟨bX5, hD⟩ : ∃ W, W = ((((((bX4).setCell ⟨bX1.heap.size, 0, none⟩ (S [])).setCell ⟨bX1.heap.size, 1, none⟩ (S (l404 ++ s4))).setCell ⟨bX1.heap.size, 2, none⟩ (.bool true)).setCell ⟨bX1.heap.size, 3, none⟩ (.bool false)).setCell ⟨bX1.heap.size, 4, none⟩ (.bool false)).setCell ⟨bX1.heap.size, 5, none⟩ (.int .u64 6) := ⟨_, rfl⟩
      rw [← hD]
      obtain ⟨hk, hg⟩ := put6 HA.out _ _ _ _ _ _ hD
      have hb := grown_below HF.out.b hg GHA.out hl
      have HK := Lib.hid ((hg.block _ (blk_lt HF.out.k) (fun e => NHAHF.out (by injection e))).trans HF.out.k)
      have HB := Lib.hid hb
      replace HZ := Lib.hid ((hg.block _ (blk_lt HZ.out) (fun e => NHAHZ.out (by injection e))).trans HZ.out)
      replace HA := Lib.hid hk
      clear hk hg hD hl hb
      refine wpAny_ready (rs := [11]) (by kernel_rfl) (by simp) ?_
      refine AllReady.cons rfl (fun K hK => ?_) AllReady.nil
      obtain ⟨c0, c1⟩ := box2 HZ.out
      obtain ⟨f0, f1⟩ := box2' HZ.out
      have hl := blk_lt HZ.out
      go_simp
      refine hK _ _ ?_
      clear hK K c0 c1 f0 f1
      obtain ⟨bX6, hD⟩ : ∃ W, W = ((bX5).setCell ⟨bX0.heap.size, 0, none⟩ (.int .u8 0)).setCell ⟨bX0.heap.size, 1, none⟩ (.slice none 0 0) := ⟨_, rfl⟩
      rw [← hD]
      obtain ⟨hk, hg⟩ := put2 HZ.out _ _ hD
      have hb := grown_below HB.out hg GHZ.out hl
      replace HK := Lib.hid ((hg.block _ (blk_lt HK.out) (fun e => NHZHF.out (by injection e))).trans HK.out)
      replace HB := Lib.hid hb
      replace HA := Lib.hid ((hg.block _ (blk_lt HA.out) (fun e => NHAHZ.out (by injection e with e; exact e.symm))).trans HA.out)
      replace HZ := Lib.hid hk
      clear hk hg hD hl hb
      refine wpAny_ready (rs := [12]) (by kernel_rfl) (by simp) ?_
      refine AllReady.cons rfl (fun K hK => ?_) AllReady.nil
      go_simp
      refine hK _ _ ?_
      clear hK K
      refine wpAny_ready (rs := [13]) (by kernel_rfl) (by simp) ?_
      refine AllReady.cons rfl (fun K hK => ?_) AllReady.nil
      go_simp
      refine hK _ _ ?_
      clear hK K
      refine wpAny_done (by kernel_rfl) ?_ _
      go_simp
      exact ⟨rfl, HB.out, HK.out, _, HA.out, _, _, _, _, _, _, _, _, _, rfl⟩
    refine AllReady.cons rfl (fun K hK => ?_) ?_
    · skip
      go_simp
      go_at_call 9
      refine (cn_rules bX0).mono ?_
      rintro e bX1 ⟨rfl, hbD⟩
      replace HF := Lib.hid (HF.out.under hbD)
      clear hbD
      refine hK _ _ ?_
      clear hK K
      refine wpAny_ready (rs := [0, 8, 9]) (by kernel_rfl) (by simp) ?_
      refine AllReady.cons rfl (fun K hK => ?_) ?_
      · skip
        obtain ⟨c0, c1, c2, c3, c4, c5⟩ := box6 HF.out.k
        have hl := blk_lt HF.out.k
        go_simp
        refine hK _ _ ?_
        clear hK K c0 c1 c2 c3 c4 c5 hl
        refine wpAny_ready (rs := [2, 8, 9]) (by kernel_rfl) (by simp) ?_
        refine AllReady.cons rfl (fun K hK => ?_) ?_
        · skip
          go_simp
          go_at_call 10
          refine (lk_b bX1 s4 Hs4.out Hs4l.out HF.out.t).mono ?_
          rintro e bX2 ⟨rfl, hbD⟩
          replace HF := Lib.hid (HF.out.under hbD)
          clear hbD
          refine hK _ _ ?_
          clear hK K
          refine tk 3 ?vb56 rfl (by kernel_rfl) (fun _ _ _ h => nomatch h.1) ?hb56 ?rb56
          case hb56 => (intro w; go_simp; first | done | (with_reducible rfl))
          refine tk 4 ?vb57 rfl (by kernel_rfl) (fun _ _ _ h => nomatch h.1) ?hb57 ?rb57
          case hb57 => (intro w; go_simp; first | done | (with_reducible rfl))
          refine tk 5 ?vb58 rfl (by kernel_rfl) (fun _ _ _ h => nomatch h.1) ?hb58 ?rb58
          case hb58 => (intro w; go_simp; first | done | (with_reducible rfl))
          refine tk 6 ?vb59 rfl (by kernel_rfl) (fun _ _ _ h => nomatch h.1) ?hb59 ?rb59
          case hb59 => (intro w; go_simp; first | done | (with_reducible rfl))
          refine tk 7 ?vb60 rfl (by kernel_rfl) (fun _ _ _ h => nomatch h.1) ?hb60 ?rb60
          case hb60 => (intro w; go_simp; first | done | (with_reducible rfl))
          go_simp
          refine wpAny_ready (rs := [8, 9]) (by kernel_rfl) (by simp) ?_
          refine AllReady.cons rfl (fun K hK => ?_) ?_
          · skip
            go_simp
            refine hK _ _ ?_
            clear hK K
            obtain ⟨bX3, hD, hbD, hF⟩ := alcx bX2 #[S [], S [], .bool false, .bool false, .bool false, .int .u64 0] 24
            rw [← hD]
            have GHA := Lib.hid HF.out.b.size
            have NHAHF := Lib.hid (Nat.ne_of_lt (blk_lt HF.out.k))
            replace HF := Lib.hid (HF.out.under hbD)
            have HA := Lib.hid hF
            clear hbD hD hF
            refine wpAny_ready (rs := [9]) (by kernel_rfl) (by simp) ?_
            refine AllReady.cons rfl (fun K hK => ?_) AllReady.nil
            go_simp
            refine hK _ _ ?_
            clear hK K
            obtain ⟨bX4, hD, hbD, hF⟩ := alcx bX3 #[.int .u8 0, .slice none 0 0] 40
            rw [← hD]
            have GHZ := Lib.hid HF.out.b.size
            have NHZHF := Lib.hid (Nat.ne_of_lt (blk_lt HF.out.k))
            have NHZHA := Lib.hid (Nat.ne_of_lt (blk_lt HA.out))
            replace HF := Lib.hid (HF.out.under hbD)
            replace HA := Lib.hid (blk_under HA.out hbD)
            have HZ := Lib.hid hF
            clear hbD hD hF
            refine wpAny_ready (rs := [10]) (by kernel_rfl) (by simp) ?_
            refine AllReady.cons rfl (fun K hK => ?_) AllReady.nil
            obtain ⟨c0, c1, c2, c3, c4, c5⟩ := box6 HA.out
            obtain ⟨f0, f1, f2, f3, f4, f5⟩ := frz6 HA.out
            have hl := blk_lt HA.out
            go_simp
            refine hK _ _ ?_
            clear hK K c0 c1 c2 c3 c4 c5 f0 f1 f2 f3 f4 f5
            obtain ⟨bX5, hD⟩ : ∃ W, W = ((((((bX4).setCell ⟨bX2.heap.size, 0, none⟩ (S [])).setCell ⟨bX2.heap.size, 1, none⟩ (S (l404 ++ s4))).setCell ⟨bX2.heap.size, 2, none⟩ (.bool true)).setCell ⟨bX2.heap.size, 3, none⟩ (.bool false)).setCell ⟨bX2.heap.size, 4, none⟩ (.bool false)).setCell ⟨bX2.heap.size, 5, none⟩ (.int .u64 6) := ⟨_, rfl⟩
            rw [← hD]
            obtain ⟨hk, hg⟩ := put6 HA.out _ _ _ _ _ _ hD
            have hb := grown_below HF.out.b hg GHA.out hl
            have HK := Lib.hid ((hg.block _ (blk_lt HF.out.k) (fun e => NHAHF.out (by injection e))).trans HF.out.k)
            have HB := Lib.hid hb
            replace HZ := Lib.hid ((hg.block _ (blk_lt HZ.out) (fun e => NHZHA.out (by injection e with e; exact e.symm))).trans HZ.out)
            replace HA := Lib.hid hk
            clear hk hg hD hl hb
            refine wpAny_ready (rs := [11]) (by kernel_rfl) (by simp) ?_
            refine AllReady.cons rfl (fun K hK => ?_) AllReady.nil
            obtain ⟨c0, c1⟩ := box2 HZ.out
            obtain ⟨f0, f1⟩ := box2' HZ.out
            have hl := blk_lt HZ.out
            go_simp
            refine hK _ _ ?_
            clear hK K c0 c1 f0 f1
            obtain ⟨bX6, hD⟩ : ∃ W, W = ((bX5).setCell ⟨bX3.heap.size, 0, none⟩ (.int .u8 0)).setCell ⟨bX3.heap.size, 1, none⟩ (.slice none 0 0) := ⟨_, rfl⟩
            rw [← hD]
            obtain ⟨hk, hg⟩ := put2 HZ.out _ _ hD
            have hb := grown_below HB.out hg GHZ.out hl
            replace HK := Lib.hid ((hg.block _ (blk_lt HK.out) (fun e => NHZHF.out (by injection e))).trans HK.out)
            replace HB := Lib.hid hb
            replace HA := Lib.hid ((hg.block _ (blk_lt HA.out) (fun e => NHZHA.out (by injection e))).trans HA.out)
            replace HZ := Lib.hid hk
            clear hk hg hD hl hb
            refine wpAny_ready (rs := [12]) (by kernel_rfl) (by simp) ?_
            refine AllReady.cons rfl (fun K hK => ?_) AllReady.nil
            go_simp
            refine hK _ _ ?_
            clear hK K
            refine wpAny_ready (rs := [13]) (by kernel_rfl) (by simp) ?_
            refine AllReady.cons rfl (fun K hK => ?_) AllReady.nil
            go_simp
            refine hK _ _ ?_
            clear hK K
            refine wpAny_done (by kernel_rfl) ?_ _
            go_simp
            exact ⟨rfl, HB.out, HK.out, _, HA.out, _, _, _, _, _, _, _, _, _, rfl⟩
          refine AllReady.cons rfl (fun K hK => ?_) AllReady.nil
          go_simp
          refine hK _ _ ?_
          clear hK K
          obtain ⟨bX3, hD, hbD, hF⟩ := alcx bX2 #[.int .u8 0, .slice none 0 0] 40
          rw [← hD]
          have GHZ := Lib.hid HF.out.b.size
          have NHZHF := Lib.hid (Nat.ne_of_lt (blk_lt HF.out.k))
          replace HF := Lib.hid (HF.out.under hbD)
          have HZ := Lib.hid hF
          clear hbD hD hF
          refine wpAny_ready (rs := [8]) (by kernel_rfl) (by simp) ?_
          refine AllReady.cons rfl (fun K hK => ?_) AllReady.nil
          go_simp
          refine hK _ _ ?_
          clear hK K
          obtain ⟨bX4, hD, hbD, hF⟩ := alcx bX3 #[S [], S [], .bool false, .bool false, .bool false, .int .u64 0] 24
          rw [← hD]
          have GHA := Lib.hid HF.out.b.size
          have NHAHF := Lib.hid (Nat.ne_of_lt (blk_lt HF.out.k))
          have NHAHZ := Lib.hid (Nat.ne_of_lt (blk_lt HZ.out))
          replace HF := Lib.hid (HF.out.under hbD)
          replace HZ := Lib.hid (blk_under HZ.out hbD)
          have HA := Lib.hid hF
          clear hbD hD hF
          refine wpAny_ready (rs := [10]) (by kernel_rfl) (by simp) ?_
          refine AllReady.cons rfl (fun K hK => ?_) AllReady.nil
          obtain ⟨c0, c1, c2, c3, c4, c5⟩ := box6 HA.out
          obtain ⟨f0, f1, f2, f3, f4, f5⟩ := frz6 HA.out
          have hl := blk_lt HA.out
          go_simp
          refine hK _ _ ?_
          clear hK K c0 c1 c2 c3 c4 c5 f0 f1 f2 f3 f4 f5
          obtain ⟨bX5, hD⟩ : ∃ W, W = ((((((bX4).setCell ⟨bX3.heap.size, 0, none⟩ (S [])).setCell ⟨bX3.heap.size, 1, none⟩ (S (l404 ++ s4))).setCell ⟨bX3.heap.size, 2, none⟩ (.bool true)).setCell ⟨bX3.heap.size, 3, none⟩ (.bool false)).setCell ⟨bX3.heap.size, 4, none⟩ (.bool false)).setCell ⟨bX3.heap.size, 5, none⟩ (.int .u64 6) := ⟨_, rfl⟩
          rw [← hD]
          obtain ⟨hk, hg⟩ := put6 HA.out _ _ _ _ _ _ hD
          have hb := grown_below HF.out.b hg GHA.out hl
          have HK := Lib.hid ((hg.block _ (blk_lt HF.out.k) (fun e => NHAHF.out (by injection e))).trans HF.out.k)
          have HB := Lib.hid hb
          replace HZ := Lib.hid ((hg.block _ (blk_lt HZ.out) (fun e => NHAHZ.out (by injection e))).trans HZ.out)
          replace HA := Lib.hid hk
          clear hk hg hD hl hb
          refine wpAny_ready (rs := [11]) (by kernel_rfl) (by simp) ?_
          refine AllReady.cons rfl (fun K hK => ?_) AllReady.nil
          obtain ⟨c0, c1⟩ := box2 HZ.out
          obtain ⟨f0, f1⟩ := box2' HZ.out
          have hl := blk_lt HZ.out
          go_simp
          refine hK _ _ ?_
          clear hK K c0 c1 f0 f1
          obtain ⟨bX6, hD⟩ : ∃ W, W = ((bX5).setCell ⟨bX2.heap.size, 0, none⟩ (.int .u8 0)).setCell ⟨bX2.heap.size, 1, none⟩ (.slice none 0 0) := ⟨_, rfl⟩
          rw [← hD]
          obtain ⟨hk, hg⟩ := put2 HZ.out _ _ hD
          have hb := grown_below HB.out hg GHZ.out hl
          replace HK := Lib.hid ((hg.block _ (blk_lt HK.out) (fun e => NHZHF.out (by injection e))).trans HK.out)
          replace HB := Lib.hid hb
          replace HA := Lib.hid ((hg.block _ (blk_lt HA.out) (fun e => NHAHZ.out (by injection e with e; exact e.symm))).trans HA.out)
          replace HZ := Lib.hid hk
          clear hk hg hD hl hb
          refine wpAny_ready (rs := [12]) (by kernel_rfl) (by simp) ?_
          refine AllReady.cons rfl (fun K hK => ?_) AllReady.nil
          go_simp
          refine hK _ _ ?_
          clear hK K
          refine wpAny_ready (rs := [13]) (by kernel_rfl) (by simp) ?_
          refine AllReady.cons rfl (fun K hK => ?_) AllReady.nil
          go_simp
          refine hK _ _ ?_
          clear hK K
          refine wpAny_done (by kernel_rfl) ?_ _
          go_simp
          exact ⟨rfl, HB.out, HK.out, _, HA.out, _, _, _, _, _, _, _, _, _, rfl⟩
        refine AllReady.cons rfl (fun K hK => ?_) ?_
        · skip
          go_simp
          refine hK _ _ ?_
          clear hK K
          obtain ⟨bX2, hD, hbD, hF⟩ := alcx bX1 #[S [], S [], .bool false, .bool false, .bool false, .int .u64 0] 24
          rw [← hD]
          have GHA := Lib.hid HF.out.b.size
          have NHAHF := Lib.hid (Nat.ne_of_lt (blk_lt HF.out.k))
          replace HF := Lib.hid (HF.out.under hbD)
          have HA := Lib.hid hF
          clear hbD hD hF
          refine wpAny_ready (rs := [2, 9]) (by kernel_rfl) (by simp) ?_
          refine AllReady.cons rfl (fun K hK => ?_) ?_
          · skip
            go_simp
            go_at_call 10
            refine (lk_b bX2 s4 Hs4.out Hs4l.out HF.out.t).mono ?_
            rintro e bX3 ⟨rfl, hbD⟩
            replace HF := Lib.hid (HF.out.under hbD)
            replace HA := Lib.hid (blk_under HA.out hbD)
            clear hbD
            refine hK _ _ ?_
            clear hK K
            refine tk 3 ?vb61 rfl (by kernel_rfl) (fun _ _ _ h => nomatch h.1) ?hb61 ?rb61
            case hb61 => (intro w; go_simp; first | done | (with_reducible rfl))
            refine tk 4 ?vb62 rfl (by kernel_rfl) (fun _ _ _ h => nomatch h.1) ?hb62 ?rb62
            case hb62 => (intro w; go_simp; first | done | (with_reducible rfl))
            refine tk 5 ?vb63 rfl (by kernel_rfl) (fun _ _ _ h => nomatch h.1) ?hb63 ?rb63
            case hb63 => (intro w; go_simp; first | done | (with_reducible rfl))
            refine tk 6 ?vb64 rfl (by kernel_rfl) (fun _ _ _ h => nomatch h.1) ?hb64 ?rb64
            case hb64 => (intro w; go_simp; first | done | (with_reducible rfl))
            refine tk 7 ?vb65 rfl (by kernel_rfl) (fun _ _ _ h => nomatch h.1) ?hb65 ?rb65
            case hb65 => (intro w; go_simp; first | done | (with_reducible rfl))
            go_simp
            refine wpAny_ready (rs := [9]) (by kernel_rfl) (by simp) ?_
            refine AllReady.cons rfl (fun K hK => ?_) AllReady.nil
            go_simp
            refine hK _ _ ?_
            clear hK K
            obtain ⟨bX4, hD, hbD, hF⟩ := alcx bX3 #[.int .u8 0, .slice none 0 0] 40
            rw [← hD]
            have GHZ := Lib.hid HF.out.b.size
            have NHZHF := Lib.hid (Nat.ne_of_lt (blk_lt HF.out.k))
            have NHZHA := Lib.hid (Nat.ne_of_lt (blk_lt HA.out))
            replace HF := Lib.hid (HF.out.under hbD)
            replace HA := Lib.hid (blk_under HA.out hbD)
            have HZ := Lib.hid hF
            clear hbD hD hF
            refine wpAny_ready (rs := [10]) (by kernel_rfl) (by simp) ?_
            refine AllReady.cons rfl (fun K hK => ?_) AllReady.nil
            obtain ⟨c0, c1, c2, c3, c4, c5⟩ := box6 HA.out
            obtain ⟨f0, f1, f2, f3, f4, f5⟩ := frz6 HA.out
            have hl := blk_lt HA.out
            go_simp
            refine hK _ _ ?_
            clear hK K c0 c1 c2 c3 c4 c5 f0 f1 f2 f3 f4 f5
            obtain ⟨bX5, hD⟩ : ∃ W, W = ((((((bX4).setCell ⟨bX1.heap.size, 0, none⟩ (S [])).setCell ⟨bX1.heap.size, 1, none⟩ (S (l404 ++ s4))).setCell ⟨bX1.heap.size, 2, none⟩ (.bool true)).setCell ⟨bX1.heap.size, 3, none⟩ (.bool false)).setCell ⟨bX1.heap.size, 4, none⟩ (.bool false)).setCell ⟨bX1.heap.size, 5, none⟩ (.int .u64 6) := ⟨_, rfl⟩
            rw [← hD]
            obtain ⟨hk, hg⟩ := put6 HA.out _ _ _ _ _ _ hD
            have hb := grown_below HF.out.b hg GHA.out hl
            have HK := Lib.hid ((hg.block _ (blk_lt HF.out.k) (fun e => NHAHF.out (by injection e))).trans HF.out.k)
            have HB := Lib.hid hb
            replace HZ := Lib.hid ((hg.block _ (blk_lt HZ.out) (fun e => NHZHA.out (by injection e with e; exact e.symm))).trans HZ.out)
            replace HA := Lib.hid hk
            clear hk hg hD hl hb
            refine wpAny_ready (rs := [11]) (by kernel_rfl) (by simp) ?_
            refine AllReady.cons rfl (fun K hK => ?_) AllReady.nil
            obtain ⟨c0, c1⟩ := box2 HZ.out
            obtain ⟨f0, f1⟩ := box2' HZ.out
            have hl := blk_lt HZ.out
            go_simp
            refine hK _ _ ?_
            clear hK K c0 c1 f0 f1
            obtain ⟨bX6, hD⟩ : ∃ W, W = ((bX5).setCell ⟨bX3.heap.size, 0, none⟩ (.int .u8 0)).setCell ⟨bX3.heap.size, 1, none⟩ (.slice none 0 0) := ⟨_, rfl⟩
            rw [← hD]
            obtain ⟨hk, hg⟩ := put2 HZ.out _ _ hD
            have hb := grown_below HB.out hg GHZ.out hl
            replace HK := Lib.hid ((hg.block _ (blk_lt HK.out) (fun e => NHZHF.out (by injection e))).trans HK.out)
            replace HB := Lib.hid hb
            replace HA := Lib.hid ((hg.block _ (blk_lt HA.out) (fun e => NHZHA.out (by injection e))).trans HA.out)
            replace HZ := Lib.hid hk
            clear hk hg hD hl hb
            refine wpAny_ready (rs := [12]) (by kernel_rfl) (by simp) ?_
            refine AllReady.cons rfl (fun K hK => ?_) AllReady.nil
            go_simp
            refine hK _ _ ?_
            clear hK K
            refine wpAny_ready (rs := [13]) (by kernel_rfl) (by simp) ?_
            refine AllReady.cons rfl (fun K hK => ?_) AllReady.nil
            go_simp
            refine hK _ _ ?_
            clear hK K
            refine wpAny_done (by kernel_rfl) ?_ _
            go_simp
            exact ⟨rfl, HB.out, HK.out, _, HA.out, _, _, _, _, _, _, _, _, _, rfl⟩
          refine AllReady.cons rfl (fun K hK => ?_) AllReady.nil
          go_simp
          refine hK _ _ ?_
          clear hK K
          obtain ⟨bX3, hD, hbD, hF⟩ := alcx bX2 #[.int .u8 0, .slice none 0 0] 40
          rw [← hD]
          have GHZ := Lib.hid HF.out.b.size
          have NHZHF := Lib.hid (Nat.ne_of_lt (blk_lt HF.out.k))
          have NHZHA := Lib.hid (Nat.ne_of_lt (blk_lt HA.out))
          replace HF := Lib.hid (HF.out.under hbD)
          replace HA := Lib.hid (blk_under HA.out hbD)
          have HZ := Lib.hid hF
          clear hbD hD hF
          refine wpAny_ready (rs := [2]) (by kernel_rfl) (by simp) ?_
          refine AllReady.cons rfl (fun K hK => ?_) AllReady.nil
          go_simp
          go_at_call 10
          refine (lk_b bX3 s4 Hs4.out Hs4l.out HF.out.t).mono ?_
          rintro e bX4 ⟨rfl, hbD⟩
          replace HF := Lib.hid (HF.out.under hbD)
          replace HA := Lib.hid (blk_under HA.out hbD)
          replace HZ := Lib.hid (blk_under HZ.out hbD)
          clear hbD
          refine hK _ _ ?_
          clear hK K
          refine tk 3 ?vb66 rfl (by kernel_rfl) (fun _ _ _ h => nomatch h.1) ?hb66 ?rb66
          case hb66 => (intro w; go_simp; first | done | (with_reducible rfl))
          refine tk 4 ?vb67 rfl (by kernel_rfl) (fun _ _ _ h => nomatch h.1) ?hb67 ?rb67
          case hb67 => (intro w; go_simp; first | done | (with_reducible rfl))
          refine tk 5 ?vb68 rfl (by kernel_rfl) (fun _ _ _ h => nomatch h.1) ?hb68 ?rb68
          case hb68 => (intro w; go_simp; first | done | (with_reducible rfl))
          refine tk 6 ?vb69 rfl (by kernel_rfl) (fun _ _ _ h => nomatch h.1) ?hb69 ?rb69
          case hb69 => (intro w; go_simp; first | done | (with_reducible rfl))
          refine tk 7 ?vb70 rfl (by kernel_rfl) (fun _ _ _ h => nomatch h.1) ?hb70 ?rb70
          case hb70 => (intro w; go_simp; first | done | (with_reducible rfl))
          go_simp
          refine wpAny_ready (rs := [10]) (by kernel_rfl) (by simp) ?_
          refine AllReady.cons rfl (fun K hK => ?_) AllReady.nil
          obtain ⟨c0, c1, c2, c3, c4, c5⟩ := box6 HA.out
          obtain ⟨f0, f1, f2, f3, f4, f5⟩ := frz6 HA.out
          have hl := blk_lt HA.out
          go_simp
          refine hK _ _ ?_
          clear hK K c0 c1 c2 c3 c4 c5 f0 f1 f2 f3 f4 f5
          obtain ⟨bX5, hD⟩ : ∃ W, W = ((((((bX4).setCell ⟨bX1.heap.size, 0, none⟩ (S [])).setCell ⟨bX1.heap.size, 1, none⟩ (S (l404 ++ s4))).setCell ⟨bX1.heap.size, 2, none⟩ (.bool true)).setCell ⟨bX1.heap.size, 3, none⟩ (.bool false)).setCell ⟨bX1.heap.size, 4, none⟩ (.bool false)).setCell ⟨bX1.heap.size, 5, none⟩ (.int .u64 6) := ⟨_, rfl⟩
          rw [← hD]
          obtain ⟨hk, hg⟩ := put6 HA.out _ _ _ _ _ _ hD
          have hb := grown_below HF.out.b hg GHA.out hl
          have HK := Lib.hid ((hg.block _ (blk_lt HF.out.k) (fun e => NHAHF.out (by injection e))).trans HF.out.k)
          have HB := Lib.hid hb
          replace HZ := Lib.hid ((hg.block _ (blk_lt HZ.out) (fun e => NHZHA.out (by injection e with e; exact e.symm))).trans HZ.out)
          replace HA := Lib.hid hk
          clear hk hg hD hl hb
          refine wpAny_ready (rs := [11]) (by kernel_rfl) (by simp) ?_
          refine AllReady.cons rfl (fun K hK => ?_) AllReady.nil
          obtain ⟨c0, c1⟩ := box2 HZ.out
          obtain ⟨f0, f1⟩ := box2' HZ.out
          have hl := blk_lt HZ.out
          go_simp
          refine hK _ _ ?_
          clear hK K c0 c1 f0 f1
          obtain ⟨bX6, hD⟩ : ∃ W, W = ((bX5).setCell ⟨bX2.heap.size, 0, none⟩ (.int .u8 0)).setCell ⟨bX2.heap.size, 1, none⟩ (.slice none 0 0) := ⟨_, rfl⟩
          rw [← hD]
          obtain ⟨hk, hg⟩ := put2 HZ.out _ _ hD
          have hb := grown_below HB.out hg GHZ.out hl
          replace HK := Lib.hid ((hg.block _ (blk_lt HK.out) (fun e => NHZHF.out (by injection e))).trans HK.out)
          replace HB := Lib.hid hb
          replace HA := Lib.hid ((hg.block _ (blk_lt HA.out) (fun e => NHZHA.out (by injection e))).trans HA.out)
          replace HZ := Lib.hid hk
          clear hk hg hD hl hb
          refine wpAny_ready (rs := [12]) (by kernel_rfl) (by simp) ?_
          refine AllReady.cons rfl (fun K hK => ?_) AllReady.nil
          go_simp
          refine hK _ _ ?_
          clear hK K
          refine wpAny_ready (rs := [13]) (by kernel_rfl) (by simp) ?_
          refine AllReady.cons rfl (fun K hK => ?_) AllReady.nil
          go_simp
          refine hK _ _ ?_
          clear hK K
          refine wpAny_done (by kernel_rfl) ?_ _
          go_simp
          exact ⟨rfl, HB.out, HK.out, _, HA.out, _, _, _, _, _, _, _, _, _, rfl⟩
        refine AllReady.cons rfl (fun K hK => ?_) AllReady.nil
        go_simp
        refine hK _ _ ?_
        clear hK K
        obtain ⟨bX2, hD, hbD, hF⟩ := alcx bX1 #[.int .u8 0, .slice none 0 0] 40
        rw [← hD]
        have GHZ := Lib.hid HF.out.b.size
        have NHZHF := Lib.hid (Nat.ne_of_lt (blk_lt HF.out.k))
        replace HF := Lib.hid (HF.out.under hbD)
        have HZ := Lib.hid hF
        clear hbD hD hF
        refine wpAny_ready (rs := [2, 8]) (by kernel_rfl) (by simp) ?_
        refine AllReady.cons rfl (fun K hK => ?_) ?_
        · skip
          go_simp
          go_at_call 10
          refine (lk_b bX2 s4 Hs4.out Hs4l.out HF.out.t).mono ?_
          rintro e bX3 ⟨rfl, hbD⟩
          replace HF := Lib.hid (HF.out.under hbD)
          replace HZ := Lib.hid (blk_under HZ.out hbD)
          clear hbD
          refine hK _ _ ?_
          clear hK K
          refine tk 3 ?vb71 rfl (by kernel_rfl) (fun _ _ _ h => nomatch h.1) ?hb71 ?rb71
          case hb71 => (intro w; go_simp; first | done | (with_reducible rfl))
          refine tk 4 ?vb72 rfl (by kernel_rfl) (fun _ _ _ h => nomatch h.1) ?hb72 ?rb72
          case hb72 => (intro w; go_simp; first | done | (with_reducible rfl))
          refine tk 5 ?vb73 rfl (by kernel_rfl) (fun _ _ _ h => nomatch h.1) ?hb73 ?rb73
          case hb73 => (intro w; go_simp; first | done | (with_reducible rfl))
          refine tk 6 ?vb74 rfl (by kernel_rfl) (fun _ _ _ h => nomatch h.1) ?hb74 ?rb74
          case hb74 => (intro w; go_simp; first | done | (with_reducible rfl))
          refine tk 7 ?vb75 rfl (by kernel_rfl) (fun _ _ _ h => nomatch h.1) ?hb75 ?rb75
          case hb75 => (intro w; go_simp; first | done | (with_reducible rfl))
          go_simp
          refine wpAny_ready (rs := [8]) (by kernel_rfl) (by simp) ?_
          refine AllReady.cons rfl (fun K hK => ?_) AllReady.nil
          go_simp
          refine hK _ _ ?_
          clear hK K
          obtain ⟨bX4, hD, hbD, hF⟩ := alcx bX3 #[S [], S [], .bool false, .bool false, .bool false, .int .u64 0] 24
          rw [← hD]
          have GHA := Lib.hid HF.out.b.size
          have NHAHF := Lib.hid (Nat.ne_of_lt (blk_lt HF.out.k))
          have NHAHZ := Lib.hid (Nat.ne_of_lt (blk_lt HZ.out))
          replace HF := Lib.hid (HF.out.under hbD)
          replace HZ := Lib.hid (blk_under HZ.out hbD)
          have HA := Lib.hid hF
          clear hbD hD hF
          refine wpAny_ready (rs := [10]) (by kernel_rfl) (by simp) ?_
          refine AllReady.cons rfl (fun K hK => ?_) AllReady.nil
          obtain ⟨c0, c1, c2, c3, c4, c5⟩ := box6 HA.out
          obtain ⟨f0, f1, f2, f3, f4, f5⟩ := frz6 HA.out
          have hl := blk_lt HA.out
          go_simp
          refine hK _ _ ?_
          clear hK K c0 c1 c2 c3 c4 c5 f0 f1 f2 f3 f4 f5
          obtain ⟨bX5, hD⟩ : ∃ W, W = ((((((bX4).setCell ⟨bX3.heap.size, 0, none⟩ (S [])).setCell ⟨bX3.heap.size, 1, none⟩ (S (l404 ++ s4))).setCell ⟨bX3.heap.size, 2, none⟩ (.bool true)).setCell ⟨bX3.heap.size, 3, none⟩ (.bool false)).setCell ⟨bX3.heap.size, 4, none⟩ (.bool false)).setCell ⟨bX3.heap.size, 5, none⟩ (.int .u64 6) := ⟨_, rfl⟩
          rw [← hD]
          obtain ⟨hk, hg⟩ := put6 HA.out _ _ _ _ _ _ hD
          have hb := grown_below HF.out.b hg GHA.out hl
          have HK := Lib.hid ((hg.block _ (blk_lt HF.out.k) (fun e => NHAHF.out (by injection e))).trans HF.out.k)
          have HB := Lib.hid hb
          replace HZ := Lib.hid ((hg.block _ (blk_lt HZ.out) (fun e => NHAHZ.out (by injection e))).trans HZ.out)
          replace HA := Lib.hid hk
          clear hk hg hD hl hb
          refine wpAny_ready (rs := [11]) (by kernel_rfl) (by simp) ?_
          refine AllReady.cons rfl (fun K hK => ?_) AllReady.nil
          obtain ⟨c0, c1⟩ := box2 HZ.out
          obtain ⟨f0, f1⟩ := box2' HZ.out
          have hl := blk_lt HZ.out
          go_simp
          refine hK _ _ ?_
          clear hK K c0 c1 f0 f1
          obtain ⟨bX6, hD⟩ : ∃ W, W = ((bX5).setCell ⟨bX1.heap.size, 0, none⟩ (.int .u8 0)).setCell ⟨bX1.heap.size, 1, none⟩ (.slice none 0 0) := ⟨_, rfl⟩
          rw [← hD]
          obtain ⟨hk, hg⟩ := put2 HZ.out _ _ hD
          have hb := grown_below HB.out hg GHZ.out hl
          replace HK := Lib.hid ((hg.block _ (blk_lt HK.out) (fun e => NHZHF.out (by injection e))).trans HK.out)
          replace HB := Lib.hid hb
          replace HA := Lib.hid ((hg.block _ (blk_lt HA.out) (fun e => NHAHZ.out (by injection e with e; exact e.symm))).trans HA.out)
          replace HZ := Lib.hid hk
          clear hk hg hD hl hb
          refine wpAny_ready (rs := [12]) (by kernel_rfl) (by simp) ?_
          refine AllReady.cons rfl (fun K hK => ?_) AllReady.nil
          go_simp
          refine hK _ _ ?_
          clear hK K
          refine wpAny_ready (rs := [13]) (by kernel_rfl) (by simp) ?_
          refine AllReady.cons rfl (fun K hK => ?_) AllReady.nil
          go_simp
          refine hK _ _ ?_
          clear hK K
          refine wpAny_done (by kernel_rfl) ?_ _
          go_simp
          exact ⟨rfl, HB.out, HK.out, _, HA.out, _, _, _, _, _, _, _, _, _, rfl⟩
        refine AllReady.cons rfl (fun K hK => ?_) AllReady.nil
        go_simp
        refine hK _ _ ?_
        clear hK K
        obtain ⟨bX3, hD, hbD, hF⟩ := alcx bX2 #[S [], S [], .bool false, .bool false, .bool false, .int .u64 0] 24
        rw [← hD]
        have GHA := Lib.hid HF.out.b.size
        have NHAHF := Lib.hid (Nat.ne_of_lt (blk_lt HF.out.k))
        have NHAHZ := Lib.hid (Nat.ne_of_lt (blk_lt HZ.out))
        replace HF := Lib.hid (HF.out.under hbD)
        replace HZ := Lib.hid (blk_under HZ.out hbD)
        have HA := Lib.hid hF
        clear hbD hD hF
        refine wpAny_ready (rs := [2]) (by kernel_rfl) (by simp) ?_
        refine AllReady.cons rfl (fun K hK => ?_) AllReady.nil
        go_simp
        go_at_call 10
        refine (lk_b bX3 s4 Hs4.out Hs4l.out HF.out.t).mono ?_
        rintro e bX4 ⟨rfl, hbD⟩
        replace HF := Lib.hid (HF.out.under hbD)
        replace HZ := Lib.hid (blk_under HZ.out hbD)
        replace HA := Lib.hid (blk_under HA.out hbD)
        clear hbD
        refine hK _ _ ?_
        clear hK K
        refine tk 3 ?vb76 rfl (by kernel_rfl) (fun _ _ _ h => nomatch h.1) ?hb76 ?rb76
        case hb76 => (intro w; go_simp; first | done | (with_reducible rfl))
        refine tk 4 ?vb77 rfl (by kernel_rfl) (fun _ _ _ h => nomatch h.1) ?hb77 ?rb77
        case hb77 => (intro w; go_simp; first | done | (with_reducible rfl))
        refine tk 5 ?vb78 rfl (by kernel_rfl) (fun _ _ _ h => nomatch h.1) ?hb78 ?rb78
        case hb78 => (intro w; go_simp; first | done | (with_reducible rfl))
        refine tk 6 ?vb79 rfl (by kernel_rfl) (fun _ _ _ h => nomatch h.1) ?hb79 ?rb79
        case hb79 => (intro w; go_simp; first | done | (with_reducible rfl))
        refine tk 7 ?vb80 rfl (by kernel_rfl) (fun _ _ _ h => nomatch h.1) ?hb80 ?rb80
        case hb80 => (intro w; go_simp; first | done | (with_reducible rfl))
        go_simp
        refine wpAny_ready (rs := [10]) (by kernel_rfl) (by simp) ?_
        refine AllReady.cons rfl (fun K hK => ?_) AllReady.nil
        obtain ⟨c0, c1, c2, c3, c4, c5⟩ := box6 HA.out
        obtain ⟨f0, f1, f2, f3, f4, f5⟩ := frz6 HA.out
        have hl := blk_lt HA.out
        go_simp
        refine hK _ _ ?_
        clear hK K c0 c1 c2 c3 c4 c5 f0 f1 f2 f3 f4 f5
        obtain ⟨bX5, hD⟩ : ∃ W, W = ((((((bX4).setCell ⟨bX2.heap.size, 0, none⟩ (S [])).setCell ⟨bX2.heap.size, 1, none⟩ (S (l404 ++ s4))).setCell ⟨bX2.heap.size, 2, none⟩ (.bool true)).setCell ⟨bX2.heap.size, 3, none⟩ (.bool false)).setCell ⟨bX2.heap.size, 4, none⟩ (.bool false)).setCell ⟨bX2.heap.size, 5, none⟩ (.int .u64 6) := ⟨_, rfl⟩
        rw [← hD]
        obtain ⟨hk, hg⟩ := put6 HA.out _ _ _ _ _ _ hD
        have hb := grown_below HF.out.b hg GHA.out hl
        have HK := Lib.hid ((hg.block _ (blk_lt HF.out.k) (fun e => NHAHF.out (by injection e))).trans HF.out.k)
        have HB := Lib.hid hb
        replace HZ := Lib.hid ((hg.block _ (blk_lt HZ.out) (fun e => NHAHZ.out (by injection e))).trans HZ.out)
        replace HA := Lib.hid hk
        clear hk hg hD hl hb
        refine wpAny_ready (rs := [11]) (by kernel_rfl) (by simp) ?_
        refine AllReady.cons rfl (fun K hK => ?_) AllReady.nil
        obtain ⟨c0, c1⟩ := box2 HZ.out
        obtain ⟨f0, f1⟩ := box2' HZ.out
        have hl := blk_lt HZ.out
        go_simp
        refine hK _ _ ?_
        clear hK K c0 c1 f0 f1
        obtain ⟨bX6, hD⟩ : ∃ W, W = ((bX5).setCell ⟨bX1.heap.size, 0, none⟩ (.int .u8 0)).setCell ⟨bX1.heap.size, 1, none⟩ (.slice none 0 0) := ⟨_, rfl⟩
        rw [← hD]
        obtain ⟨hk, hg⟩ := put2 HZ.out _ _ hD
        have hb := grown_below HB.out hg GHZ.out hl
        replace HK := Lib.hid ((hg.block _ (blk_lt HK.out) (fun e => NHZHF.out (by injection e))).trans HK.out)
        replace HB := Lib.hid hb
        replace HA := Lib.hid ((hg.block _ (blk_lt HA.out) (fun e => NHAHZ.out (by injection e with e; exact e.symm))).trans HA.out)
        replace HZ := Lib.hid hk
        clear hk hg hD hl hb
        refine wpAny_ready (rs := [12]) (by kernel_rfl) (by simp) ?_
        refine AllReady.cons rfl (fun K hK => ?_) AllReady.nil
        go_simp
        refine hK _ _ ?_
        clear hK K
        refine wpAny_ready (rs := [13]) (by kernel_rfl) (by simp) ?_
        refine AllReady.cons rfl (fun K hK => ?_) AllReady.nil
        go_simp
        refine hK _ _ ?_
        clear hK K
        refine wpAny_done (by kernel_rfl) ?_ _
        go_simp
        exact ⟨rfl, HB.out, HK.out, _, HA.out, _, _, _, _, _, _, _, _, _, rfl⟩
      refine AllReady.cons rfl (fun K hK => ?_) ?_
      · skip
        go_simp
        refine hK _ _ ?_
        clear hK K
        obtain ⟨bX2, hD, hbD, hF⟩ := alcx bX1 #[S [], S [], .bool false, .bool false, .bool false, .int .u64 0] 24
        rw [← hD]
        have GHA := Lib.hid HF.out.b.size
        have NHAHF := Lib.hid (Nat.ne_of_lt (blk_lt HF.out.k))
        replace HF := Lib.hid (HF.out.under hbD)
        have HA := Lib.hid hF
        clear hbD hD hF
        refine wpAny_ready (rs := [0, 9]) (by kernel_rfl) (by simp) ?_
        refine AllReady.cons rfl (fun K hK => ?_) ?_
        · skip
          obtain ⟨c0, c1, c2, c3, c4, c5⟩ := box6 HF.out.k
          have hl := blk_lt HF.out.k
          go_simp
          refine hK _ _ ?_
          clear hK K c0 c1 c2 c3 c4 c5 hl
          refine wpAny_ready (rs := [2, 9]) (by kernel_rfl) (by simp) ?_
          refine AllReady.cons rfl (fun K hK => ?_) ?_
          · skip
            go_simp
            go_at_call 10
            refine (lk_b bX2 s4 Hs4.out Hs4l.out HF.out.t).mono ?_
            rintro e bX3 ⟨rfl, hbD⟩
            replace HF := Lib.hid (HF.out.under hbD)
            replace HA := Lib.hid (blk_under HA.out hbD)
            clear hbD
            refine hK _ _ ?_
            clear hK K
            refine tk 3 ?vb81 rfl (by kernel_rfl) (fun _ _ _ h => nomatch h.1) ?hb81 ?rb81
            case hb81 => (intro w; go_simp; first | done | (with_reducible rfl))
            refine tk 4 ?vb82 rfl (by kernel_rfl) (fun _ _ _ h => nomatch h.1) ?hb82 ?rb82
            case hb82 => (intro w; go_simp; first | done | (with_reducible rfl))
            refine tk 5 ?vb83 rfl (by kernel_rfl) (fun _ _ _ h => nomatch h.1) ?hb83 ?rb83
            case hb83 => (intro w; go_simp; first | done | (with_reducible rfl))
            refine tk 6 ?vb84 rfl (by kernel_rfl) (fun _ _ _ h => nomatch h.1) ?hb84 ?rb84
            case hb84 => (intro w; go_simp; first | done | (with_reducible rfl))
            refine tk 7 ?vb85 rfl (by kernel_rfl) (fun _ _ _ h => nomatch h.1) ?hb85 ?rb85
            case hb85 => (intro w; go_simp; first | done | (with_reducible rfl))
            go_simp
            refine wpAny_ready (rs := [9]) (by kernel_rfl) (by simp) ?_
            refine AllReady.cons rfl (fun K hK => ?_) AllReady.nil
            go_simp
            refine hK _ _ ?_
            clear hK K
            obtain ⟨bX4, hD, hbD, hF⟩ := alcx bX3 #[.int .u8 0, .slice none 0 0] 40
            rw [← hD]
            have GHZ := Lib.hid HF.out.b.size
            have NHZHF := Lib.hid (Nat.ne_of_lt (blk_lt HF.out.k))
            have NHZHA := Lib.hid (Nat.ne_of_lt (blk_lt HA.out))
            replace HF := Lib.hid (HF.out.under hbD)
            replace HA := Lib.hid (blk_under HA.out hbD)
            have HZ := Lib.hid hF
            clear hbD hD hF
            refine wpAny_ready (rs := [10]) (by kernel_rfl) (by simp) ?_
            refine AllReady.cons rfl (fun K hK => ?_) AllReady.nil
            obtain ⟨c0, c1, c2, c3, c4, c5⟩ := box6 HA.out
            obtain ⟨f0, f1, f2, f3, f4, f5⟩ := frz6 HA.out
            have hl := blk_lt HA.out
            go_simp
            refine hK _ _ ?_
            clear hK K c0 c1 c2 c3 c4 c5 f0 f1 f2 f3 f4 f5
            obtain ⟨bX5, hD⟩ : ∃ W, W = ((((((bX4).setCell ⟨bX1.heap.size, 0, none⟩ (S [])).setCell ⟨bX1.heap.size, 1, none⟩ (S (l404 ++ s4))).setCell ⟨bX1.heap.size, 2, none⟩ (.bool true)).setCell ⟨bX1.heap.size, 3, none⟩ (.bool false)).setCell ⟨bX1.heap.size, 4, none⟩ (.bool false)).setCell ⟨bX1.heap.size, 5, none⟩ (.int .u64 6) := ⟨_, rfl⟩
            rw [← hD]
            obtain ⟨hk, hg⟩ := put6 HA.out _ _ _ _ _ _ hD
            have hb := grown_below HF.out.b hg GHA.out hl
            have HK := Lib.hid ((hg.block _ (blk_lt HF.out.k) (fun e => NHAHF.out (by injection e))).trans HF.out.k)
            have HB := Lib.hid hb
            replace HZ := Lib.hid ((hg.block _ (blk_lt HZ.out) (fun e => NHZHA.out (by injection e with e; exact e.symm))).trans HZ.out)
            replace HA := Lib.hid hk
            clear hk hg hD hl hb
            refine wpAny_ready (rs := [11]) (by kernel_rfl) (by simp) ?_
            refine AllReady.cons rfl (fun K hK => ?_) AllReady.nil
            obtain ⟨c0, c1⟩ := box2 HZ.out
            obtain ⟨f0, f1⟩ := box2' HZ.out
            have hl := blk_lt HZ.out
            go_simp
            refine hK _ _ ?_
            clear hK K c0 c1 f0 f1
            obtain ⟨bX6, hD⟩ : ∃ W, W = ((bX5).setCell ⟨bX3.heap.size, 0, none⟩ (.int .u8 0)).setCell ⟨bX3.heap.size, 1, none⟩ (.slice none 0 0) := ⟨_, rfl⟩
            rw [← hD]
            obtain ⟨hk, hg⟩ := put2 HZ.out _ _ hD
            have hb := grown_below HB.out hg GHZ.out hl
            replace HK := Lib.hid ((hg.block _ (blk_lt HK.out) (fun e => NHZHF.out (by injection e))).trans HK.out)
            replace HB := Lib.hid hb
            replace HA := Lib.hid ((hg.block _ (blk_lt HA.out) (fun e => NHZHA.out (by injection e))).trans HA.out)
            replace HZ := Lib.hid hk
            clear hk hg hD hl hb
            refine wpAny_ready (rs := [12]) (by kernel_rfl) (by simp) ?_
            refine AllReady.cons rfl (fun K hK => ?_) AllReady.nil
            go_simp
            refine hK _ _ ?_
            clear hK K
            refine wpAny_ready (rs := [13]) (by kernel_rfl) (by simp) ?_
            refine AllReady.cons rfl (fun K hK => ?_) AllReady.nil
            go_simp
            refine hK _ _ ?_
            clear hK K
            refine wpAny_done (by kernel_rfl) ?_ _
            go_simp
            exact ⟨rfl, HB.out, HK.out, _, HA.out, _, _, _, _, _, _, _, _, _, rfl⟩
          refine AllReady.cons rfl (fun K hK => ?_) AllReady.nil
          go_simp
          refine hK _ _ ?_
          clear hK K
          obtain ⟨bX3, hD, hbD, hF⟩ := alcx bX2 #[.int .u8 0, .slice none 0 0] 40
          rw [← hD]
          have GHZ := Lib.hid HF.out.b.size
          have NHZHF := Lib.hid (Nat.ne_of_lt (blk_lt HF.out.k))
          have NHZHA := Lib.hid (Nat.ne_of_lt (blk_lt HA.out))
          replace HF := Lib.hid (HF.out.under hbD)
          replace HA := Lib.hid (blk_under HA.out hbD)
          have HZ := Lib.hid hF
          clear hbD hD hF
          refine wpAny_ready (rs := [2]) (by kernel_rfl) (by simp) ?_
          refine AllReady.cons rfl (fun K hK => ?_) AllReady.nil
          go_simp
          go_at_call 10
          refine (lk_b bX3 s4 Hs4.out Hs4l.out HF.out.t).mono ?_
          rintro e bX4 ⟨rfl, hbD⟩
          replace HF := Lib.hid (HF.out.under hbD)
          replace HA := Lib.hid (blk_under HA.out hbD)
          replace HZ := Lib.hid (blk_under HZ.out hbD)
          clear hbD
          refine hK _ _ ?_
          clear hK K
          refine tk 3 ?vb86 rfl (by kernel_rfl) (fun _ _ _ h => nomatch h.1) ?hb86 ?rb86
          case hb86 => (intro w; go_simp; first | done | (with_reducible rfl))
          refine tk 4 ?vb87 rfl (by kernel_rfl) (fun _ _ _ h => nomatch h.1) ?hb87 ?rb87
          case hb87 => (intro w; go_simp; first | done | (with_reducible rfl))
          refine tk 5 ?vb88 rfl (by kernel_rfl) (fun _ _ _ h => nomatch h.1) ?hb88 ?rb88
          case hb88 => (intro w; go_simp; first | done | (with_reducible rfl))
          refine tk 6 ?vb89 rfl (by kernel_rfl) (fun _ _ _ h => nomatch h.1) ?hb89 ?rb89
          case hb89 => (intro w; go_simp; first | done | (with_reducible rfl))
          refine tk 7 ?vb90 rfl (by kernel_rfl) (fun _ _ _ h => nomatch h.1) ?hb90 ?rb90
          case hb90 => (intro w; go_simp; first | done | (with_reducible rfl))
          go_simp
          refine wpAny_ready (rs := [10]) (by kernel_rfl) (by simp) ?_
          refine AllReady.cons rfl (fun K hK => ?_) AllReady.nil
          obtain ⟨c0, c1, c2, c3, c4, c5⟩ := box6 HA.out
          obtain ⟨f0, f1, f2, f3, f4, f5⟩ := frz6 HA.out
          have hl := blk_lt HA.out
          go_simp
          refine hK _ _ ?_
          clear hK K c0 c1 c2 c3 c4 c5 f0 f1 f2 f3 f4 f5
          obtain ⟨bX5, hD⟩ : ∃ W, W = ((((((bX4).setCell ⟨bX1.heap.size, 0, none⟩ (S [])).setCell ⟨bX1.heap.size, 1, none⟩ (S (l404 ++ s4))).setCell ⟨bX1.heap.size, 2, none⟩ (.bool true)).setCell ⟨bX1.heap.size, 3, none⟩ (.bool false)).setCell ⟨bX1.heap.size, 4, none⟩ (.bool false)).setCell ⟨bX1.heap.size, 5, none⟩ (.int .u64 6) := ⟨_, rfl⟩
          rw [← hD]
          obtain ⟨hk, hg⟩ := put6 HA.out _ _ _ _ _ _ hD
          have hb := grown_below HF.out.b hg GHA.out hl
          have HK := Lib.hid ((hg.block _ (blk_lt HF.out.k) (fun e => NHAHF.out (by injection e))).trans HF.out.k)
          have HB := Lib.hid hb
          replace HZ := Lib.hid ((hg.block _ (blk_lt HZ.out) (fun e => NHZHA.out (by injection e with e; exact e.symm))).trans HZ.out)
          replace HA := Lib.hid hk
          clear hk hg hD hl hb
          refine wpAny_ready (rs := [11]) (by kernel_rfl) (by simp) ?_
          refine AllReady.cons rfl (fun K hK => ?_) AllReady.nil
          obtain ⟨c0, c1⟩ := box2 HZ.out
          obtain ⟨f0, f1⟩ := box2' HZ.out
          have hl := blk_lt HZ.out
          go_simp
          refine hK _ _ ?_
          clear hK K c0 c1 f0 f1
          obtain ⟨bX6, hD⟩ : ∃ W, W = ((bX5).setCell ⟨bX2.heap.size, 0, none⟩ (.int .u8 0)).setCell ⟨bX2.heap.size, 1, none⟩ (.slice none 0 0) := ⟨_, rfl⟩
          rw [← hD]
          obtain ⟨hk, hg⟩ := put2 HZ.out _ _ hD
          have hb := grown_below HB.out hg GHZ.out hl
          replace HK := Lib.hid ((hg.block _ (blk_lt HK.out) (fun e => NHZHF.out (by injection e))).trans HK.out)
          replace HB := Lib.hid hb
          replace HA := Lib.hid ((hg.block _ (blk_lt HA.out) (fun e => NHZHA.out (by injection e))).trans HA.out)
          replace HZ := Lib.hid hk
          clear hk hg hD hl hb
          refine wpAny_ready (rs := [12]) (by kernel_rfl) (by simp) ?_
          refine AllReady.cons rfl (fun K hK => ?_) AllReady.nil
          go_simp
          refine hK _ _ ?_
          clear hK K
          refine wpAny_ready (rs := [13]) (by kernel_rfl) (by simp) ?_
          refine AllReady.cons rfl (fun K hK => ?_) AllReady.nil
          go_simp
          refine hK _ _ ?_
          clear hK K
          refine wpAny_done (by kernel_rfl) ?_ _
          go_simp
          exact ⟨rfl, HB.out, HK.out, _, HA.out, _, _, _, _, _, _, _, _, _, rfl⟩
        refine AllReady.cons rfl (fun K hK => ?_) AllReady.nil
        go_simp
        refine hK _ _ ?_
        clear hK K
        obtain ⟨bX3, hD, hbD, hF⟩ := alcx bX2 #[.int .u8 0, .slice none 0 0] 40
        rw [← hD]
        have GHZ := Lib.hid HF.out.b.size
        have NHZHF := Lib.hid (Nat.ne_of_lt (blk_lt HF.out.k))
        have NHZHA := Lib.hid (Nat.ne_of_lt (blk_lt HA.out))
        replace HF := Lib.hid (HF.out.under hbD)
        replace HA := Lib.hid (blk_under HA.out hbD)
        have HZ := Lib.hid hF
        clear hbD hD hF
        refine wpAny_ready (rs := [0]) (by kernel_rfl) (by simp) ?_
        refine AllReady.cons rfl (fun K hK => ?_) AllReady.nil
        obtain ⟨c0, c1, c2, c3, c4, c5⟩ := box6 HF.out.k
        have hl := blk_lt HF.out.k
        go_simp
        refine hK _ _ ?_
        clear hK K c0 c1 c2 c3 c4 c5 hl
        refine wpAny_ready (rs := [2]) (by kernel_rfl) (by simp) ?_
        refine AllReady.cons rfl (fun K hK => ?_) AllReady.nil
        go_simp
        go_at_call 10
        refine (lk_b bX3 s4 Hs4.out Hs4l.out HF.out.t).mono ?_
        rintro e bX4 ⟨rfl, hbD⟩
        replace HF := Lib.hid (HF.out.under hbD)
        replace HA := Lib.hid (blk_under HA.out hbD)
        replace HZ := Lib.hid (blk_under HZ.out hbD)
        clear hbD
        refine hK _ _ ?_
        clear hK K
        refine tk 3 ?vb91 rfl (by kernel_rfl) (fun _ _ _ h => nomatch h.1) ?hb91 ?rb91
        case hb91 => (intro w; go_simp; first | done | (with_reducible rfl))
        refine tk 4 ?vb92 rfl (by kernel_rfl) (fun _ _ _ h => nomatch h.1) ?hb92 ?rb92
        case hb92 => (intro w; go_simp; first | done | (with_reducible rfl))
        refine tk 5 ?vb93 rfl (by kernel_rfl) (fun _ _ _ h => nomatch h.1) ?hb93 ?rb93
        case hb93 => (intro w; go_simp; first | done | (with_reducible rfl))
        refine tk 6 ?vb94 rfl (by kernel_rfl) (fun _ _ _ h => nomatch h.1) ?hb94 ?rb94
        case hb94 => (intro w; go_simp; first | done | (with_reducible rfl))
        refine tk 7 ?vb95 rfl (by kernel_rfl) (fun _ _ _ h => nomatch h.1) ?hb95 ?rb95
        case hb95 => (intro w; go_simp; first | done | (with_reducible rfl))
        go_simp
        refine wpAny_ready (rs := [10]) (by kernel_rfl) (by simp) ?_
        refine AllReady.cons rfl (fun K hK => ?_) AllReady.nil
        obtain ⟨c0, c1, c2, c3, c4, c5⟩ := box6 HA.out
        obtain ⟨f0, f1, f2, f3, f4, f5⟩ := frz6 HA.out
        have hl := blk_lt HA.out
        go_simp
        refine hK _ _ ?_
        clear hK K c0 c1 c2 c3 c4 c5 f0 f1 f2 f3 f4 f5
        obtain ⟨bX5, hD⟩ : ∃ W, W = ((((((bX4).setCell ⟨bX1.heap.size, 0, none⟩ (S [])).setCell ⟨bX1.heap.size, 1, none⟩ (S (l404 ++ s4))).setCell ⟨bX1.heap.size, 2, none⟩ (.bool true)).setCell ⟨bX1.heap.size, 3, none⟩ (.bool false)).setCell ⟨bX1.heap.size, 4, none⟩ (.bool false)).setCell ⟨bX1.heap.size, 5, none⟩ (.int .u64 6) := ⟨_, rfl⟩
        rw [← hD]
        obtain ⟨hk, hg⟩ := put6 HA.out _ _ _ _ _ _ hD
        have hb := grown_below HF.out.b hg GHA.out hl
        have HK := Lib.hid ((hg.block _ (blk_lt HF.out.k) (fun e => NHAHF.out (by injection e))).trans HF.out.k)
        have HB := Lib.hid hb
        replace HZ := Lib.hid ((hg.block _ (blk_lt HZ.out) (fun e => NHZHA.out (by injection e with e; exact e.symm))).trans HZ.out)
        replace HA := Lib.hid hk
        clear hk hg hD hl hb
        refine wpAny_ready (rs := [11]) (by kernel_rfl) (by simp) ?_
        refine AllReady.cons rfl (fun K hK => ?_) AllReady.nil
        obtain ⟨c0, c1⟩ := box2 HZ.out
        obtain ⟨f0, f1⟩ := box2' HZ.out
        have hl := blk_lt HZ.out
        go_simp
        refine hK _ _ ?_
        clear hK K c0 c1 f0 f1
        obtain ⟨bX6, hD⟩ : ∃ W, W = ((bX5).setCell ⟨bX2.heap.size, 0, none⟩ (.int .u8 0)).setCell ⟨bX2.heap.size, 1, none⟩ (.slice none 0 0) := ⟨_, rfl⟩
        rw [← hD]
        obtain ⟨hk, hg⟩ := put2 HZ.out _ _ hD
        have hb := grown_below HB.out hg GHZ.out hl
        replace HK := Lib.hid ((hg.block _ (blk_lt HK.out) (fun e => NHZHF.out (by injection e))).trans HK.out)
        replace HB := Lib.hid hb
        replace HA := Lib.hid ((hg.block _ (blk_lt HA.out) (fun e => NHZHA.out (by injection e))).trans HA.out)
        replace HZ := Lib.hid hk
        clear hk hg hD hl hb
        refine wpAny_ready (rs := [12]) (by kernel_rfl) (by simp) ?_
        refine AllReady.cons rfl (fun K hK => ?_) AllReady.nil
        go_simp
        refine hK _ _ ?_
        clear hK K
        refine wpAny_ready (rs := [13]) (by kernel_rfl) (by simp) ?_
        refine AllReady.cons rfl (fun K hK => ?_) AllReady.nil
        go_simp
        refine hK _ _ ?_
        clear hK K
        refine wpAny_done (by kernel_rfl) ?_ _
        go_simp
        exact ⟨rfl, HB.out, HK.out, _, HA.out, _, _, _, _, _, _, _, _, _, rfl⟩
      refine AllReady.cons rfl (fun K hK => ?_) AllReady.nil
      go_simp
      refine hK _ _ ?_
      clear hK K
      obtain ⟨bX2, hD, hbD, hF⟩ := alcx bX1 #[.int .u8 0, .slice none 0 0] 40
      rw [← hD]
      have GHZ := Lib.hid HF.out.b.size
      have NHZHF := Lib.hid (Nat.ne_of_lt (blk_lt HF.out.k))
      replace HF := Lib.hid (HF.out.under hbD)
      have HZ := Lib.hid hF
      clear hbD hD hF
      refine wpAny_ready (rs := [0, 8]) (by kernel_rfl) (by simp) ?_
      refine AllReady.cons rfl (fun K hK => ?_) ?_
      · skip
        obtain ⟨c0, c1, c2, c3, c4, c5⟩ := box6 HF.out.k
        have hl := blk_lt HF.out.k
        go_simp
        refine hK _ _ ?_
        clear hK K c0 c1 c2 c3 c4 c5 hl
        refine wpAny_ready (rs := [2, 8]) (by kernel_rfl) (by simp) ?_
        refine AllReady.cons rfl (fun K hK => ?_) ?_
        · skip
          go_simp
          go_at_call 10
          refine (lk_b bX2 s4 Hs4.out Hs4l.out HF.out.t).mono ?_
          rintro e bX3 ⟨rfl, hbD⟩
          replace HF := Lib.hid (HF.out.under hbD)
          replace HZ := Lib.hid (blk_under HZ.out hbD)
          clear hbD
          refine hK _ _ ?_
          clear hK K
          refine tk 3 ?vb96 rfl (by kernel_rfl) (fun _ _ _ h => nomatch h.1) ?hb96 ?rb96
          case hb96 => (intro w; go_simp; first | done | (with_reducible rfl))
          refine tk 4 ?vb97 rfl (by kernel_rfl) (fun _ _ _ h => nomatch h.1) ?hb97 ?rb97
          case hb97 => (intro w; go_simp; first | done | (with_reducible rfl))
          refine tk 5 ?vb98 rfl (by kernel_rfl) (fun _ _ _ h => nomatch h.1) ?hb98 ?rb98
          case hb98 => (intro w; go_simp; first | done | (with_reducible rfl))
          refine tk 6 ?vb99 rfl (by kernel_rfl) (fun _ _ _ h => nomatch h.1) ?hb99 ?rb99
          case hb99 => (intro w; go_simp; first | done | (with_reducible rfl))
          refine tk 7 ?vb100 rfl (by kernel_rfl) (fun _ _ _ h => nomatch h.1) ?hb100 ?rb100
          case hb100 => (intro w; go_simp; first | done | (with_reducible rfl))
          go_simp
          refine wpAny_ready (rs := [8]) (by kernel_rfl) (by simp) ?_
          refine AllReady.cons rfl (fun K hK => ?_) AllReady.nil
          go_simp
          refine hK _ _ ?_
          clear hK K
          obtain ⟨bX4, hD, hbD, hF⟩ := alcx bX3 #[S [], S [], .bool false, .bool false, .bool false, .int .u64 0] 24
          rw [← hD]
          have GHA := Lib.hid HF.out.b.size
          have NHAHF := Lib.hid (Nat.ne_of_lt (blk_lt HF.out.k))
          have NHAHZ := Lib.hid (Nat.ne_of_lt (blk_lt HZ.out))
          replace HF := Lib.hid (HF.out.under hbD)
          replace HZ := Lib.hid (blk_under HZ.out hbD)
          have HA := Lib.hid hF
          clear hbD hD hF
          refine wpAny_ready (rs := [10]) (by kernel_rfl) (by simp) ?_
          refine AllReady.cons rfl (fun K hK => ?_) AllReady.nil
          obtain ⟨c0, c1, c2, c3, c4, c5⟩ := box6 HA.out
          obtain ⟨f0, f1, f2, f3, f4, f5⟩ := frz6 HA.out
          have hl := blk_lt HA.out
          go_simp
          refine hK _ _ ?_
          clear hK K c0 c1 c2 c3 c4 c5 f0 f1 f2 f3 f4 f5
          obtain ⟨bX5, hD⟩ : ∃ W, W = ((((((bX4).setCell ⟨bX3.heap.size, 0, none⟩ (S [])).setCell ⟨bX3.heap.size, 1, none⟩ (S (l404 ++ s4))).setCell ⟨bX3.heap.size, 2, none⟩ (.bool true)).setCell ⟨bX3.heap.size, 3, none⟩ (.bool false)).setCell ⟨bX3.heap.size, 4, none⟩ (.bool false)).setCell ⟨bX3.heap.size, 5, none⟩ (.int .u64 6) := ⟨_, rfl⟩
          rw [← hD]
          obtain ⟨hk, hg⟩ := put6 HA.out _ _ _ _ _ _ hD
          have hb := grown_below HF.out.b hg GHA.out hl
          have HK := Lib.hid ((hg.block _ (blk_lt HF.out.k) (fun e => NHAHF.out (by injection e))).trans HF.out.k)
          have HB := Lib.hid hb
          replace HZ := Lib.hid ((hg.block _ (blk_lt HZ.out) (fun e => NHAHZ.out (by injection e))).trans HZ.out)
          replace HA := Lib.hid hk
          clear hk hg hD hl hb
          refine wpAny_ready (rs := [11]) (by kernel_rfl) (by simp) ?_
          refine AllReady.cons rfl (fun K hK => ?_) AllReady.nil
          obtain ⟨c0, c1⟩ := box2 HZ.out
          obtain ⟨f0, f1⟩ := box2' HZ.out
          have hl := blk_lt HZ.out
          go_simp
          refine hK _ _ ?_
          clear hK K c0 c1 f0 f1
          obtain ⟨bX6, hD⟩ : ∃ W, W = ((bX5).setCell ⟨bX1.heap.size, 0, none⟩ (.int .u8 0)).setCell ⟨bX1.heap.size, 1, none⟩ (.slice none 0 0) := ⟨_, rfl⟩
          rw [← hD]
          obtain ⟨hk, hg⟩ := put2 HZ.out _ _ hD
          have hb := grown_below HB.out hg GHZ.out hl
          replace HK := Lib.hid ((hg.block _ (blk_lt HK.out) (fun e => NHZHF.out (by injection e))).trans HK.out)
          replace HB := Lib.hid hb
          replace HA := Lib.hid ((hg.block _ (blk_lt HA.out) (fun e => NHAHZ.out (by injection e with e; exact e.symm))).trans HA.out)
          replace HZ := Lib.hid hk
          clear hk hg hD hl hb
          refine wpAny_ready (rs := [12]) (by kernel_rfl) (by simp) ?_
          refine AllReady.cons rfl (fun K hK => ?_) AllReady.nil
          go_simp
          refine hK _ _ ?_
          clear hK K
          refine wpAny_ready (rs := [13]) (by kernel_rfl) (by simp) ?_
          refine AllReady.cons rfl (fun K hK => ?_) AllReady.nil
          go_simp
          refine hK _ _ ?_
          clear hK K
          refine wpAny_done (by kernel_rfl) ?_ _
          go_simp
          exact ⟨rfl, HB.out, HK.out, _, HA.out, _, _, _, _, _, _, _, _, _, rfl⟩
        refine AllReady.cons rfl (fun K hK => ?_) AllReady.nil
        go_simp
        refine hK _ _ ?_
        clear hK K
        obtain ⟨bX3, hD, hbD, hF⟩ := alcx bX2 #[S [], S [], .bool false, .bool false, .bool false, .int .u64 0] 24
        rw [← hD]
        have GHA := Lib.hid HF.out.b.size
        have NHAHF := Lib.hid (Nat.ne_of_lt (blk_lt HF.out.k))
        have NHAHZ := Lib.hid (Nat.ne_of_lt (blk_lt HZ.out))
        replace HF := Lib.hid (HF.out.under hbD)
        replace HZ := Lib.hid (blk_under HZ.out hbD)
        have HA := Lib.hid hF
        clear hbD hD hF
        refine wpAny_ready (rs := [2]) (by kernel_rfl) (by simp) ?_
        refine AllReady.cons rfl (fun K hK => ?_) AllReady.nil
        go_simp
        go_at_call 10
        refine (lk_b bX3 s4 Hs4.out Hs4l.out HF.out.t).mono ?_
        rintro e bX4 ⟨rfl, hbD⟩
        replace HF := Lib.hid (HF.out.under hbD)
        replace HZ := Lib.hid (blk_under HZ.out hbD)
        replace HA := Lib.hid (blk_under HA.out hbD)
        clear hbD
        refine hK _ _ ?_
        clear hK K
        refine tk 3 ?vb101 rfl (by kernel_rfl) (fun _ _ _ h => nomatch h.1) ?hb101 ?rb101
        case hb101 => (intro w; go_simp; first | done | (with_reducible rfl))
        refine tk 4 ?vb102 rfl (by kernel_rfl) (fun _ _ _ h => nomatch h.1) ?hb102 ?rb102
        case hb102 => (intro w; go_simp; first | done | (with_reducible rfl))
        refine tk 5 ?vb103 rfl (by kernel_rfl) (fun _ _ _ h => nomatch h.1) ?hb103 ?rb103
        case hb103 => (intro w; go_simp; first | done | (with_reducible rfl))
        refine tk 6 ?vb104 rfl (by kernel_rfl) (fun _ _ _ h => nomatch h.1) ?hb104 ?rb104
        case hb104 => (intro w; go_simp; first | done | (with_reducible rfl))
        refine tk 7 ?vb105 rfl (by kernel_rfl) (fun _ _ _ h => nomatch h.1) ?hb105 ?rb105
        case hb105 => (intro w; go_simp; first | done | (with_reducible rfl))
        go_simp
        refine wpAny_ready (rs := [10]) (by kernel_rfl) (by simp) ?_
        refine AllReady.cons rfl (fun K hK => ?_) AllReady.nil
        obtain ⟨c0, c1, c2, c3, c4, c5⟩ := box6 HA.out
        obtain ⟨f0, f1, f2, f3, f4, f5⟩ := frz6 HA.out
        have hl := blk_lt HA.out
        go_simp
        refine hK _ _ ?_
        clear hK K c0 c1 c2 c3 c4 c5 f0 f1 f2 f3 f4 f5
        obtain ⟨bX5, hD⟩ : ∃ W, W = ((((((bX4).setCell ⟨bX2.heap.size, 0, none⟩ (S [])).setCell ⟨bX2.heap.size, 1, none⟩ (S (l404 ++ s4))).setCell ⟨bX2.heap.size, 2, none⟩ (.bool true)).setCell ⟨bX2.heap.size, 3, none⟩ (.bool false)).setCell ⟨bX2.heap.size, 4, none⟩ (.bool false)).setCell ⟨bX2.heap.size, 5, none⟩ (.int .u64 6) := ⟨_, rfl⟩
        rw [← hD]
        obtain ⟨hk, hg⟩ := put6 HA.out _ _ _ _ _ _ hD
        have hb := grown_below HF.out.b hg GHA.out hl
        have HK := Lib.hid ((hg.block _ (blk_lt HF.out.k) (fun e => NHAHF.out (by injection e))).trans HF.out.k)
        have HB := Lib.hid hb
        replace HZ := Lib.hid ((hg.block _ (blk_lt HZ.out) (fun e => NHAHZ.out (by injection e))).trans HZ.out)
        replace HA := Lib.hid hk
        clear hk hg hD hl hb
        refine wpAny_ready (rs := [11]) (by kernel_rfl) (by simp) ?_
        refine AllReady.cons rfl (fun K hK => ?_) AllReady.nil
        obtain ⟨c0, c1⟩ := box2 HZ.out
        obtain ⟨f0, f1⟩ := box2' HZ.out
        have hl := blk_lt HZ.out
        go_simp
        refine hK _ _ ?_
        clear hK K c0 c1 f0 f1
        obtain ⟨bX6, hD⟩ : ∃ W, W = ((bX5).setCell ⟨bX1.heap.size, 0, none⟩ (.int .u8 0)).setCell ⟨bX1.heap.size, 1, none⟩ (.slice none 0 0) := ⟨_, rfl⟩
        rw [← hD]
        obtain ⟨hk, hg⟩ := put2 HZ.out _ _ hD
        have hb := grown_below HB.out hg GHZ.out hl
        replace HK := Lib.hid ((hg.block _ (blk_lt HK.out) (fun e => NHZHF.out (by injection e))).trans HK.out)
        replace HB := Lib.hid hb
        replace HA := Lib.hid ((hg.block _ (blk_lt HA.out) (fun e => NHAHZ.out (by injection e with e; exact e.symm))).trans HA.out)
        replace HZ := Lib.hid hk
        clear hk hg hD hl hb
        refine wpAny_ready (rs := [12]) (by kernel_rfl) (by simp) ?_
        refine AllReady.cons rfl (fun K hK => ?_) AllReady.nil
        go_simp
        refine hK _ _ ?_
        clear hK K
        refine wpAny_ready (rs := [13]) (by kernel_rfl) (by simp) ?_
        refine AllReady.cons rfl (fun K hK => ?_) AllReady.nil
        go_simp
        refine hK _ _ ?_
        clear hK K
        refine wpAny_done (by kernel_rfl) ?_ _
        go_simp
        exact ⟨rfl, HB.out, HK.out, _, HA.out, _, _, _, _, _, _, _, _, _, rfl⟩
      refine AllReady.cons rfl (fun K hK => ?_) AllReady.nil
      go_simp
      refine hK _ _ ?_
      clear hK K
      obtain ⟨bX3, hD, hbD, hF⟩ := alcx bX2 #[S [], S [], .bool false, .bool false, .bool false, .int .u64 0] 24
      rw [← hD]
      have GHA := Lib.hid HF.out.b.size
      have NHAHF := Lib.hid (Nat.ne_of_lt (blk_lt HF.out.k))
      have NHAHZ := Lib.hid (Nat.ne_of_lt (blk_lt HZ.out))
      replace HF := Lib.hid (HF.out.under hbD)
      replace HZ := Lib.hid (blk_under HZ.out hbD)
      have HA := Lib.hid hF
      clear hbD hD hF
      refine wpAny_ready (rs := [0]) (by kernel_rfl) (by simp) ?_
      refine AllReady.cons rfl (fun K hK => ?_) AllReady.nil
      obtain ⟨c0, c1, c2, c3, c4, c5⟩ := box6 HF.out.k
      have hl := blk_lt HF.out.k
      go_simp
      refine hK _ _ ?_
      clear hK K c0 c1 c2 c3 c4 c5 hl
      refine wpAny_ready (rs := [2]) (by kernel_rfl) (by simp) ?_
      refine AllReady.cons rfl (fun K hK => ?_) AllReady.nil
      go_simp
      go_at_call 10
      refine (lk_b bX3 s4 Hs4.out Hs4l.out HF.out.t).mono ?_
      rintro e bX4 ⟨rfl, hbD⟩
      replace HF := Lib.hid (HF.out.under hbD)
      replace HZ := Lib.hid (blk_under HZ.out hbD)
      replace HA := Lib.hid (blk_under HA.out hbD)
      clear hbD
      refine hK _ _ ?_
      clear hK K
      refine tk 3 ?vb106 rfl (by kernel_rfl) (fun _ _ _ h => nomatch h.1) ?hb106 ?rb106
      case hb106 => (intro w; go_simp; first | done | (with_reducible rfl))
      refine tk 4 ?vb107 rfl (by kernel_rfl) (fun _ _ _ h => nomatch h.1) ?hb107 ?rb107
      case hb107 => (intro w; go_simp; first | done | (with_reducible rfl))
      refine tk 5 ?vb108 rfl (by kernel_rfl) (fun _ _ _ h => nomatch h.1) ?hb108 ?rb108
      case hb108 => (intro w; go_simp; first | done | (with_reducible rfl))
      refine tk 6 ?vb109 rfl (by kernel_rfl) (fun _ _ _ h => nomatch h.1) ?hb109 ?rb109
      case hb109 => (intro w; go_simp; first | done | (with_reducible rfl))
      refine tk 7 ?vb110 rfl (by kernel_rfl) (fun _ _ _ h => nomatch h.1) ?hb110 ?rb110
      case hb110 => (intro w; go_simp; first | done | (with_reducible rfl))
      go_simp
      refine wpAny_ready (rs := [10]) (by kernel_rfl) (by simp) ?_
      refine AllReady.cons rfl (fun K hK => ?_) AllReady.nil
      obtain ⟨c0, c1, c2, c3, c4, c5⟩ := box6 HA.out
      obtain ⟨f0, f1, f2, f3, f4, f5⟩ := frz6 HA.out
      have hl := blk_lt HA.out
      go_simp
      refine hK _ _ ?_
      clear hK K c0 c1 c2 c3 c4 c5 f0 f1 f2 f3 f4 f5
      obtain ⟨bX5, hD⟩ : ∃ W, W = ((((((bX4).setCell ⟨bX2.heap.size, 0, none⟩ (S [])).setCell ⟨bX2.heap.size, 1, none⟩ (S (l404 ++ s4))).setCell ⟨bX2.heap.size, 2, none⟩ (.bool true)).setCell ⟨bX2.heap.size, 3, none⟩ (.bool false)).setCell ⟨bX2.heap.size, 4, none⟩ (.bool false)).setCell ⟨bX2.heap.size, 5, none⟩ (.int .u64 6) := ⟨_, rfl⟩
      rw [← hD]
      obtain ⟨hk, hg⟩ := put6 HA.out _ _ _ _ _ _ hD
      have hb := grown_below HF.out.b hg GHA.out hl
      have HK := Lib.hid ((hg.block _ (blk_lt HF.out.k) (fun e => NHAHF.out (by injection e))).trans HF.out.k)
      have HB := Lib.hid hb
      replace HZ := Lib.hid ((hg.block _ (blk_lt HZ.out) (fun e => NHAHZ.out (by injection e))).trans HZ.out)
      replace HA := Lib.hid hk
      clear hk hg hD hl hb
      refine wpAny_ready (rs := [11]) (by kernel_rfl) (by simp) ?_
      refine AllReady.cons rfl (fun K hK => ?_) AllReady.nil
      obtain ⟨c0, c1⟩ := box2 HZ.out
      obtain ⟨f0, f1⟩ := box2' HZ.out
      have hl := blk_lt HZ.out
      go_simp
      refine hK _ _ ?_
      clear hK K c0 c1 f0 f1
      obtain ⟨bX6, hD⟩ : ∃ W, W = ((bX5).setCell ⟨bX1.heap.size, 0, none⟩ (.int .u8 0)).setCell ⟨bX1.heap.size, 1, none⟩ (.slice none 0 0) := ⟨_, rfl⟩
      rw [← hD]
      obtain ⟨hk, hg⟩ := put2 HZ.out _ _ hD
      have hb := grown_below HB.out hg GHZ.out hl
      replace HK := Lib.hid ((hg.block _ (blk_lt HK.out) (fun e => NHZHF.out (by injection e))).trans HK.out)
      replace HB := Lib.hid hb
      replace HA := Lib.hid ((hg.block _ (blk_lt HA.out) (fun e => NHAHZ.out (by injection e with e; exact e.symm))).trans HA.out)
      replace HZ := Lib.hid hk
      clear hk hg hD hl hb
      refine wpAny_ready (rs := [12]) (by kernel_rfl) (by simp) ?_
      refine AllReady.cons rfl (fun K hK => ?_) AllReady.nil
      go_simp
      refine hK _ _ ?_
      clear hK K
      refine wpAny_ready (rs := [13]) (by kernel_rfl) (by simp) ?_
      refine AllReady.cons rfl (fun K hK => ?_) AllReady.nil
      go_simp
      refine hK _ _ ?_
      clear hK K
      refine wpAny_done (by kernel_rfl) ?_ _
      go_simp
      exact ⟨rfl, HB.out, HK.out, _, HA.out, _, _, _, _, _, _, _, _, _, rfl⟩
    refine AllReady.cons rfl (fun K hK => ?_) ?_
    · skip
      go_simp
      refine hK _ _ ?_
      clear hK K
      obtain ⟨bX1, hD, hbD, hF⟩ := alcx bX0 #[S [], S [], .bool false, .bool false, .bool false, .int .u64 0] 24
      rw [← hD]
      have GHA := Lib.hid HF.out.b.size
      have NHAHF := Lib.hid (Nat.ne_of_lt (blk_lt HF.out.k))
      replace HF := Lib.hid (HF.out.under hbD)
      have HA := Lib.hid hF
      clear hbD hD hF
      refine wpAny_ready (rs := [0, 1, 9]) (by kernel_rfl) (by simp) ?_
      refine AllReady.cons rfl (fun K hK => ?_) ?_
      · skip
        obtain ⟨c0, c1, c2, c3, c4, c5⟩ := box6 HF.out.k
        have hl := blk_lt HF.out.k
        go_simp
        refine hK _ _ ?_
        clear hK K c0 c1 c2 c3 c4 c5 hl
        refine wpAny_ready (rs := [1, 9]) (by kernel_rfl) (by simp) ?_
        refine AllReady.cons rfl (fun K hK => ?_) ?_
        · skip
          go_simp
          go_at_call 9
          refine (cn_rules bX1).mono ?_
          rintro e bX2 ⟨rfl, hbD⟩
          replace HF := Lib.hid (HF.out.under hbD)
          replace HA := Lib.hid (blk_under HA.out hbD)
          clear hbD
          refine hK _ _ ?_
          clear hK K
          refine wpAny_ready (rs := [2, 9]) (by kernel_rfl) (by simp) ?_
          refine AllReady.cons rfl (fun K hK => ?_) ?_
          · skip
            go_simp
            go_at_call 10
            refine (lk_b bX2 s4 Hs4.out Hs4l.out HF.out.t).mono ?_
            rintro e bX3 ⟨rfl, hbD⟩
            replace HF := Lib.hid (HF.out.under hbD)
            replace HA := Lib.hid (blk_under HA.out hbD)
            clear hbD
            refine hK _ _ ?_
            clear hK K
            refine tk 3 ?vb111 rfl (by kernel_rfl) (fun _ _ _ h => nomatch h.1) ?hb111 ?rb111
            case hb111 => (intro w; go_simp; first | done | (with_reducible rfl))
            refine tk 4 ?vb112 rfl (by kernel_rfl) (fun _ _ _ h => nomatch h.1) ?hb112 ?rb112
            case hb112 => (intro w; go_simp; first | done | (with_reducible rfl))
            refine tk 5 ?vb113 rfl (by kernel_rfl) (fun _ _ _ h => nomatch h.1) ?hb113 ?rb113
            case hb113 => (intro w; go_simp; first | done | (with_reducible rfl))
            refine tk 6 ?vb114 rfl (by kernel_rfl) (fun _ _ _ h => nomatch h.1) ?hb114 ?rb114
            case hb114 => (intro w; go_simp; first | done | (with_reducible rfl))
            refine tk 7 ?vb115 rfl (by kernel_rfl) (fun _ _ _ h => nomatch h.1) ?hb115 ?rb115
            case hb115 => (intro w; go_simp; first | done | (with_reducible rfl))
            go_simp
            refine wpAny_ready (rs := [9]) (by kernel_rfl) (by simp) ?_
            refine AllReady.cons rfl (fun K hK => ?_) AllReady.nil
            go_simp
            refine hK _ _ ?_
            clear hK K
            obtain ⟨bX4, hD, hbD, hF⟩ := alcx bX3 #[.int .u8 0, .slice none 0 0] 40
            rw [← hD]
            have GHZ := Lib.hid HF.out.b.size
            have NHZHF := Lib.hid (Nat.ne_of_lt (blk_lt HF.out.k))
            have NHZHA := Lib.hid (Nat.ne_of_lt (blk_lt HA.out))
            replace HF := Lib.hid (HF.out.under hbD)
            replace HA := Lib.hid (blk_under HA.out hbD)
            have HZ := Lib.hid hF
            clear hbD hD hF
            refine wpAny_ready (rs := [10]) (by kernel_rfl) (by simp) ?_
            refine AllReady.cons rfl (fun K hK => ?_) AllReady.nil
            obtain ⟨c0, c1, c2, c3, c4, c5⟩ := box6 HA.out
            obtain ⟨f0, f1, f2, f3, f4, f5⟩ := frz6 HA.out
            have hl := blk_lt HA.out
            go_simp
            refine hK _ _ ?_
            clear hK K c0 c1 c2 c3 c4 c5 f0 f1 f2 f3 f4 f5
            obtain ⟨bX5, hD⟩ : ∃ W, W = ((((((bX4).setCell ⟨bX0.heap.size, 0, none⟩ (S [])).setCell ⟨bX0.heap.size, 1, none⟩ (S (l404 ++ s4))).setCell ⟨bX0.heap.size, 2, none⟩ (.bool true)).setCell ⟨bX0.heap.size, 3, none⟩ (.bool false)).setCell ⟨bX0.heap.size, 4, none⟩ (.bool false)).setCell ⟨bX0.heap.size, 5, none⟩ (.int .u64 6) := ⟨_, rfl⟩
            rw [← hD]
            obtain ⟨hk, hg⟩ := put6 HA.out _ _ _ _ _ _ hD
            have hb := grown_below HF.out.b hg GHA.out hl
            have HK := Lib.hid ((hg.block _ (blk_lt HF.out.k) (fun e => NHAHF.out (by injection e))).trans HF.out.k)
            have HB := Lib.hid hb
            replace HZ := Lib.hid ((hg.block _ (blk_lt HZ.out) (fun e => NHZHA.out (by injection e with e; exact e.symm))).trans HZ.out)
            replace HA := Lib.hid hk
            clear hk hg hD hl hb
            refine wpAny_ready (rs := [11]) (by kernel_rfl) (by simp) ?_
            refine AllReady.cons rfl (fun K hK => ?_) AllReady.nil
            obtain ⟨c0, c1⟩ := box2 HZ.out
            obtain ⟨f0, f1⟩ := box2' HZ.out
            have hl := blk_lt HZ.out
            go_simp
            refine hK _ _ ?_
            clear hK K c0 c1 f0 f1
            obtain ⟨bX6, hD⟩ : ∃ W, W = ((bX5).setCell ⟨bX3.heap.size, 0, none⟩ (.int .u8 0)).setCell ⟨bX3.heap.size, 1, none⟩ (.slice none 0 0) := ⟨_, rfl⟩
            rw [← hD]
            obtain ⟨hk, hg⟩ := put2 HZ.out _ _ hD
            have hb := grown_below HB.out hg GHZ.out hl
            replace HK := Lib.hid ((hg.block _ (blk_lt HK.out) (fun e => NHZHF.out (by injection e))).trans HK.out)
            replace HB := Lib.hid hb
            replace HA := Lib.hid ((hg.block _ (blk_lt HA.out) (fun e => NHZHA.out (by injection e))).trans HA.out)
            replace HZ := Lib.hid hk
            clear hk hg hD hl hb
            refine wpAny_ready (rs := [12]) (by kernel_rfl) (by simp) ?_
            refine AllReady.cons rfl (fun K hK => ?_) AllReady.nil
            go_simp
            refine hK _ _ ?_
            clear hK K
            refine wpAny_ready (rs := [13]) (by kernel_rfl) (by simp) ?_
            refine AllReady.cons rfl (fun K hK => ?_) AllReady.nil
            go_simp
            refine hK _ _ ?_
            clear hK K
            refine wpAny_done (by kernel_rfl) ?_ _
            go_simp
            exact ⟨rfl, HB.out, HK.out, _, HA.out, _, _, _, _, _, _, _, _, _, rfl⟩
          refine AllReady.cons rfl (fun K hK => ?_) AllReady.nil
          go_simp
          refine hK _ _ ?_
          clear hK K
          obtain ⟨bX3, hD, hbD, hF⟩ := alcx bX2 #[.int .u8 0, .slice none 0 0] 40
          rw [← hD]
          have GHZ := Lib.hid HF.out.b.size
          have NHZHF := Lib.hid (Nat.ne_of_lt (blk_lt HF.out.k))
          have NHZHA := Lib.hid (Nat.ne_of_lt (blk_lt HA.out))
          replace HF := Lib.hid (HF.out.under hbD)
          replace HA := Lib.hid (blk_under HA.out hbD)
          have HZ := Lib.hid hF
          clear hbD hD hF
          refine wpAny_ready (rs := [2]) (by kernel_rfl) (by simp) ?_
          refine AllReady.cons rfl (fun K hK => ?_) AllReady.nil
          go_simp
          go_at_call 10
          refine (lk_b bX3 s4 Hs4.out Hs4l.out HF.out.t).mono ?_
          rintro e bX4 ⟨rfl, hbD⟩
          replace HF := Lib.hid (HF.out.under hbD)
          replace HA := Lib.hid (blk_under HA.out hbD)
          replace HZ := Lib.hid (blk_under HZ.out hbD)
          clear hbD
          refine hK _ _ ?_
          clear hK K
          refine tk 3 ?vb116 rfl (by kernel_rfl) (fun _ _ _ h => nomatch h.1) ?hb116 ?rb116
          case hb116 => (intro w; go_simp; first | done | (with_reducible rfl))
          refine tk 4 ?vb117 rfl (by kernel_rfl) (fun _ _ _ h => nomatch h.1) ?hb117 ?rb117
          case hb117 => (intro w; go_simp; first | done | (with_reducible rfl))
          refine tk 5 ?vb118 rfl (by kernel_rfl) (fun _ _ _ h => nomatch h.1) ?hb118 ?rb118
          case hb118 => (intro w; go_simp; first | done | (with_reducible rfl))
          refine tk 6 ?vb119 rfl (by kernel_rfl) (fun _ _ _ h => nomatch h.1) ?hb119 ?rb119
          case hb119 => (intro w; go_simp; first | done | (with_reducible rfl))
          refine tk 7 ?vb120 rfl (by kernel_rfl) (fun _ _ _ h => nomatch h.1) ?hb120 ?rb120
          case hb120 => (intro w; go_simp; first | done | (with_reducible rfl))
          go_simp
          refine wpAny_ready (rs := [10]) (by kernel_rfl) (by simp) ?_
          refine AllReady.cons rfl (fun K hK => ?_) AllReady.nil
          obtain ⟨c0, c1, c2, c3, c4, c5⟩ := box6 HA.out
          obtain ⟨f0, f1, f2, f3, f4, f5⟩ := frz6 HA.out
          have hl := blk_lt HA.out
          go_simp
          refine hK _ _ ?_
          clear hK K c0 c1 c2 c3 c4 c5 f0 f1 f2 f3 f4 f5
          obtain ⟨bX5, hD⟩ : ∃ W, W = ((((((bX4).setCell ⟨bX0.heap.size, 0, none⟩ (S [])).setCell ⟨bX0.heap.size, 1, none⟩ (S (l404 ++ s4))).setCell ⟨bX0.heap.size, 2, none⟩ (.bool true)).setCell ⟨bX0.heap.size, 3, none⟩ (.bool false)).setCell ⟨bX0.heap.size, 4, none⟩ (.bool false)).setCell ⟨bX0.heap.size, 5, none⟩ (.int .u64 6) := ⟨_, rfl⟩
          rw [← hD]
          obtain ⟨hk, hg⟩ := put6 HA.out _ _ _ _ _ _ hD
          have hb := grown_below HF.out.b hg GHA.out hl
          have HK := Lib.hid ((hg.block _ (blk_lt HF.out.k) (fun e => NHAHF.out (by injection e))).trans HF.out.k)
          have HB := Lib.hid hb
          replace HZ := Lib.hid ((hg.block _ (blk_lt HZ.out) (fun e => NHZHA.out (by injection e with e; exact e.symm))).trans HZ.out)
          replace HA := Lib.hid hk
          clear hk hg hD hl hb
          refine wpAny_ready (rs := [11]) (by kernel_rfl) (by simp) ?_
          refine AllReady.cons rfl (fun K hK => ?_) AllReady.nil
          obtain ⟨c0, c1⟩ := box2 HZ.out
          obtain ⟨f0, f1⟩ := box2' HZ.out
          have hl := blk_lt HZ.out
          go_simp
          refine hK _ _ ?_
          clear hK K c0 c1 f0 f1
          obtain ⟨bX6, hD⟩ : ∃ W, W = ((bX5).setCell ⟨bX2.heap.size, 0, none⟩ (.int .u8 0)).setCell ⟨bX2.heap.size, 1, none⟩ (.slice none 0 0) := ⟨_, rfl⟩
          rw [← hD]
          obtain ⟨hk, hg⟩ := put2 HZ.out _ _ hD
          have hb := grown_below HB.out hg GHZ.out hl
          replace HK := Lib.hid ((hg.block _ (blk_lt HK.out) (fun e => NHZHF.out (by injection e))).trans HK.out)
          replace HB := Lib.hid hb
          replace HA := Lib.hid ((hg.block _ (blk_lt HA.out) (fun e => NHZHA.out (by injection e))).trans HA.out)
          replace HZ := Lib.hid hk
          clear hk hg hD hl hb
          refine wpAny_ready (rs := [12]) (by kernel_rfl) (by simp) ?_
          refine AllReady.cons rfl (fun K hK => ?_) AllReady.nil
          go_simp
          refine hK _ _ ?_
          clear hK K
          refine wpAny_ready (rs := [13]) (by kernel_rfl) (by simp) ?_
          refine AllReady.cons rfl (fun K hK => ?_) AllReady.nil
          go_simp
          refine hK _ _ ?_
          clear hK K
          refine wpAny_done (by kernel_rfl) ?_ _
          go_simp
          exact ⟨rfl, HB.out, HK.out, _, HA.out, _, _, _, _, _, _, _, _, _, rfl⟩
        refine AllReady.cons rfl (fun K hK => ?_) AllReady.nil
        go_simp
        refine hK _ _ ?_
        clear hK K
        obtain ⟨bX2, hD, hbD, hF⟩ := alcx bX1 #[.int .u8 0, .slice none 0 0] 40
        rw [← hD]
        have GHZ := Lib.hid HF.out.b.size
        have NHZHF := Lib.hid (Nat.ne_of_lt (blk_lt HF.out.k))
        have NHZHA := Lib.hid (Nat.ne_of_lt (blk_lt HA.out))
        replace HF := Lib.hid (HF.out.under hbD)
        replace HA := Lib.hid (blk_under HA.out hbD)
        have HZ := Lib.hid hF
        clear hbD hD hF
        refine wpAny_ready (rs := [1]) (by kernel_rfl) (by simp) ?_
        refine AllReady.cons rfl (fun K hK => ?_) AllReady.nil
        go_simp
        go_at_call 9
        refine (cn_rules bX2).mono ?_
        rintro e bX3 ⟨rfl, hbD⟩
        replace HF := Lib.hid (HF.out.under hbD)
        replace HA := Lib.hid (blk_under HA.out hbD)
        replace HZ := Lib.hid (blk_under HZ.out hbD)
        clear hbD
        refine hK _ _ ?_
        clear hK K
        refine wpAny_ready (rs := [2]) (by kernel_rfl) (by simp) ?_
        refine AllReady.cons rfl (fun K hK => ?_) AllReady.nil
        go_simp
        go_at_call 10
        refine (lk_b bX3 s4 Hs4.out Hs4l.out HF.out.t).mono ?_
        rintro e bX4 ⟨rfl, hbD⟩
        replace HF := Lib.hid (HF.out.under hbD)
        replace HA := Lib.hid (blk_under HA.out hbD)
        replace HZ := Lib.hid (blk_under HZ.out hbD)
        clear hbD
        refine hK _ _ ?_
        clear hK K
        refine tk 3 ?vb121 rfl (by kernel_rfl) (fun _ _ _ h => nomatch h.1) ?hb121 ?rb121
        case hb121 => (intro w; go_simp; first | done | (with_reducible rfl))
        refine tk 4 ?vb122 rfl (by kernel_rfl) (fun _ _ _ h => nomatch h.1) ?hb122 ?rb122
        case hb122 => (intro w; go_simp; first | done | (with_reducible rfl))
        refine tk 5 ?vb123 rfl (by kernel_rfl) (fun _ _ _ h => nomatch h.1) ?hb123 ?rb123
        case hb123 => (intro w; go_simp; first | done | (with_reducible rfl))
        refine tk 6 ?vb124 rfl (by kernel_rfl) (fun _ _ _ h => nomatch h.1) ?hb124 ?rb124
        case hb124 => (intro w; go_simp; first | done | (with_reducible rfl))
        refine tk 7 ?vb125 rfl (by kernel_rfl) (fun _ _ _ h => nomatch h.1) ?hb125 ?rb125
        case hb125 => (intro w; go_simp; first | done | (with_reducible rfl))
        go_simp
        refine wpAny_ready (rs := [10]) (by kernel_rfl) (by simp) ?_
        refine AllReady.cons rfl (fun K hK => ?_) AllReady.nil
        obtain ⟨c0, c1, c2, c3, c4, c5⟩ := box6 HA.out
        obtain ⟨f0, f1, f2, f3, f4, f5⟩ := frz6 HA.out
        have hl := blk_lt HA.out
        go_simp
        refine hK _ _ ?_
        clear hK K c0 c1 c2 c3 c4 c5 f0 f1 f2 f3 f4 f5
        obtain ⟨bX5, hD⟩ : ∃ W, W = ((((((bX4).setCell ⟨bX0.heap.size, 0, none⟩ (S [])).setCell ⟨bX0.heap.size, 1, none⟩ (S (l404 ++ s4))).setCell ⟨bX0.heap.size, 2, none⟩ (.bool true)).setCell ⟨bX0.heap.size, 3, none⟩ (.bool false)).setCell ⟨bX0.heap.size, 4, none⟩ (.bool false)).setCell ⟨bX0.heap.size, 5, none⟩ (.int .u64 6) := ⟨_, rfl⟩
        rw [← hD]
        obtain ⟨hk, hg⟩ := put6 HA.out _ _ _ _ _ _ hD
        have hb := grown_below HF.out.b hg GHA.out hl
        have HK := Lib.hid ((hg.block _ (blk_lt HF.out.k) (fun e => NHAHF.out (by injection e))).trans HF.out.k)
        have HB := Lib.hid hb
        replace HZ := Lib.hid ((hg.block _ (blk_lt HZ.out) (fun e => NHZHA.out (by injection e with e; exact e.symm))).trans HZ.out)
        replace HA := Lib.hid hk
        clear hk hg hD hl hb
        refine wpAny_ready (rs := [11]) (by kernel_rfl) (by simp) ?_
        refine AllReady.cons rfl (fun K hK => ?_) AllReady.nil
        obtain ⟨c0, c1⟩ := box2 HZ.out
        obtain ⟨f0, f1⟩ := box2' HZ.out
        have hl := blk_lt HZ.out
        go_simp
        refine hK _ _ ?_
        clear hK K c0 c1 f0 f1
        obtain ⟨bX6, hD⟩ : ∃ W, W = ((bX5).setCell ⟨bX1.heap.size, 0, none⟩ (.int .u8 0)).setCell ⟨bX1.heap.size, 1, none⟩ (.slice none 0 0) := ⟨_, rfl⟩
        rw [← hD]
        obtain ⟨hk, hg⟩ := put2 HZ.out _ _ hD
        have hb := grown_below HB.out hg GHZ.out hl
        replace HK := Lib.hid ((hg.block _ (blk_lt HK.out) (fun e => NHZHF.out (by injection e))).trans HK.out)
        replace HB := Lib.hid hb
        replace HA := Lib.hid ((hg.block _ (blk_lt HA.out) (fun e => NHZHA.out (by injection e))).trans HA.out)
        replace HZ := Lib.hid hk
        clear hk hg hD hl hb
        refine wpAny_ready (rs := [12]) (by kernel_rfl) (by simp) ?_
        refine AllReady.cons rfl (fun K hK => ?_) AllReady.nil
        go_simp
        refine hK _ _ ?_
        clear hK K
        refine wpAny_ready (rs := [13]) (by kernel_rfl) (by simp) ?_
        refine AllReady.cons rfl (fun K hK => ?_) AllReady.nil
        go_simp
        refine hK _ _ ?_
        clear hK K
        refine wpAny_done (by kernel_rfl) ?_ _
        go_simp
        exact ⟨rfl, HB.out, HK.out, _, HA.out, _, _, _, _, _, _, _, _, _, rfl⟩
      refine AllReady.cons rfl (fun K hK => ?_) ?_
      · skip
        go_simp
        go_at_call 9
        refine (cn_rules bX1).mono ?_
        rintro e bX2 ⟨rfl, hbD⟩
        replace HF := Lib.hid (HF.out.under hbD)
        replace HA := Lib.hid (blk_under HA.out hbD)
        clear hbD
        refine hK _ _ ?_
        clear hK K
        refine wpAny_ready (rs := [0, 9]) (by kernel_rfl) (by simp) ?_
        refine AllReady.cons rfl (fun K hK => ?_) ?_
        · skip
          obtain ⟨c0, c1, c2, c3, c4, c5⟩ := box6 HF.out.k
          have hl := blk_lt HF.out.k
          go_simp
          refine hK _ _ ?_
          clear hK K c0 c1 c2 c3 c4 c5 hl
          refine wpAny_ready (rs := [2, 9]) (by kernel_rfl) (by simp) ?_
          refine AllReady.cons rfl (fun K hK => ?_) ?_
          · skip
            go_simp
            go_at_call 10
            refine (lk_b bX2 s4 Hs4.out Hs4l.out HF.out.t).mono ?_
            rintro e bX3 ⟨rfl, hbD⟩
            replace HF := Lib.hid (HF.out.under hbD)
            replace HA := Lib.hid (blk_under HA.out hbD)
            clear hbD
            refine hK _ _ ?_
            clear hK K
            refine tk 3 ?vb126 rfl (by kernel_rfl) (fun _ _ _ h => nomatch h.1) ?hb126 ?rb126
            case hb126 => (intro w; go_simp; first | done | (with_reducible rfl))
            refine tk 4 ?vb127 rfl (by kernel_rfl) (fun _ _ _ h => nomatch h.1) ?hb127 ?rb127
            case hb127 => (intro w; go_simp; first | done | (with_reducible rfl))
            refine tk 5 ?vb128 rfl (by kernel_rfl) (fun _ _ _ h => nomatch h.1) ?hb128 ?rb128
            case hb128 => (intro w; go_simp; first | done | (with_reducible rfl))
            refine tk 6 ?vb129 rfl (by kernel_rfl) (fun _ _ _ h => nomatch h.1) ?hb129 ?rb129
            case hb129 => (intro w; go_simp; first | done | (with_reducible rfl))
            refine tk 7 ?vb130 rfl (by kernel_rfl) (fun _ _ _ h => nomatch h.1) ?hb130 ?rb130
            case hb130 => (intro w; go_simp; first | done | (with_reducible rfl))
            go_simp
            refine wpAny_ready (rs := [9]) (by kernel_rfl) (by simp) ?_
            refine AllReady.cons rfl (fun K hK => ?_) AllReady.nil
            go_simp
            refine hK _ _ ?_
            clear hK K
            obtain ⟨bX4, hD, hbD, hF⟩ := alcx bX3 #[.int .u8 0, .slice none 0 0] 40
            rw [← hD]
            have GHZ := Lib.hid HF.out.b.size
            have NHZHF := Lib.hid (Nat.ne_of_lt (blk_lt HF.out.k))
            have NHZHA := Lib.hid (Nat.ne_of_lt (blk_lt HA.out))
            replace HF := Lib.hid (HF.out.under hbD)
            replace HA := Lib.hid (blk_under HA.out hbD)
            have HZ := Lib.hid hF
            clear hbD hD hF
            refine wpAny_ready (rs := [10]) (by kernel_rfl) (by simp) ?_
            refine AllReady.cons rfl (fun K hK => ?_) AllReady.nil
            obtain ⟨c0, c1, c2, c3, c4, c5⟩ := box6 HA.out
            obtain ⟨f0, f1, f2, f3, f4, f5⟩ := frz6 HA.out
            have hl := blk_lt HA.out
            go_simp
            refine hK _ _ ?_
            clear hK K c0 c1 c2 c3 c4 c5 f0 f1 f2 f3 f4 f5
            obtain ⟨bX5, hD⟩ : ∃ W, W = ((((((bX4).setCell ⟨bX0.heap.size, 0, none⟩ (S [])).setCell ⟨bX0.heap.size, 1, none⟩ (S (l404 ++ s4))).setCell ⟨bX0.heap.size, 2, none⟩ (.bool true)).setCell ⟨bX0.heap.size, 3, none⟩ (.bool false)).setCell ⟨bX0.heap.size, 4, none⟩ (.bool false)).setCell ⟨bX0.heap.size, 5, none⟩ (.int .u64 6) := ⟨_, rfl⟩
            rw [← hD]
            obtain ⟨hk, hg⟩ := put6 HA.out _ _ _ _ _ _ hD
            have hb := grown_below HF.out.b hg GHA.out hl
            have HK := Lib.hid ((hg.block _ (blk_lt HF.out.k) (fun e => NHAHF.out (by injection e))).trans HF.out.k)
            have HB := Lib.hid hb
            replace HZ := Lib.hid ((hg.block _ (blk_lt HZ.out) (fun e => NHZHA.out (by injection e with e; exact e.symm))).trans HZ.out)
            replace HA := Lib.hid hk
            clear hk hg hD hl hb
            refine wpAny_ready (rs := [11]) (by kernel_rfl) (by simp) ?_
            refine AllReady.cons rfl (fun K hK => ?_) AllReady.nil
            obtain ⟨c0, c1⟩ := box2 HZ.out
            obtain ⟨f0, f1⟩ := box2' HZ.out
            have hl := blk_lt HZ.out
            go_simp
            refine hK _ _ ?_
            clear hK K c0 c1 f0 f1
            obtain ⟨bX6, hD⟩ : ∃ W, W = ((bX5).setCell ⟨bX3.heap.size, 0, none⟩ (.int .u8 0)).setCell ⟨bX3.heap.size, 1, none⟩ (.slice none 0 0) := ⟨_, rfl⟩
            rw [← hD]
            obtain ⟨hk, hg⟩ := put2 HZ.out _ _ hD
            have hb := grown_below HB.out hg GHZ.out hl
            replace HK := Lib.hid ((hg.block _ (blk_lt HK.out) (fun e => NHZHF.out (by injection e))).trans HK.out)
            replace HB := Lib.hid hb
            replace HA := Lib.hid ((hg.block _ (blk_lt HA.out) (fun e => NHZHA.out (by injection e))).trans HA.out)
            replace HZ := Lib.hid hk
            clear hk hg hD hl hb
            refine wpAny_ready (rs := [12]) (by kernel_rfl) (by simp) ?_
            refine AllReady.cons rfl (fun K hK => ?_) AllReady.nil
            go_simp
            refine hK _ _ ?_
            clear hK K
            refine wpAny_ready (rs := [13]) (by kernel_rfl) (by simp) ?_
            refine AllReady.cons rfl (fun K hK => ?_) AllReady.nil
            go_simp
            refine hK _ _ ?_
            clear hK K
            refine wpAny_done (by kernel_rfl) ?_ _
            go_simp
            exact ⟨rfl, HB.out, HK.out, _, HA.out, _, _, _, _, _, _, _, _, _, rfl⟩
          refine AllReady.cons rfl (fun K hK => ?_) AllReady.nil
          go_simp
          refine hK _ _ ?_
          clear hK K
          obtain ⟨bX3, hD, hbD, hF⟩ := alcx bX2 #[.int .u8 0, .slice none 0 0] 40
          rw [← hD]
          have GHZ := Lib.hid HF.out.b.size
          have NHZHF := Lib.hid (Nat.ne_of_lt (blk_lt HF.out.k))
          have NHZHA := Lib.hid (Nat.ne_of_lt (blk_lt HA.out))
          replace HF := Lib.hid (HF.out.under hbD)
          replace HA := Lib.hid (blk_under HA.out hbD)
          have HZ := Lib.hid hF
          clear hbD hD hF
          refine wpAny_ready (rs := [2]) (by kernel_rfl) (by simp) ?_
          refine AllReady.cons rfl (fun K hK => ?_) AllReady.nil
          go_simp
          go_at_call 10
          refine (lk_b bX3 s4 Hs4.out Hs4l.out HF.out.t).mono ?_
          rintro e bX4 ⟨rfl, hbD⟩
          replace HF := Lib.hid (HF.out.under hbD)
          replace HA := Lib.hid (blk_under HA.out hbD)
          replace HZ := Lib.hid (blk_under HZ.out hbD)
          clear hbD
          refine hK _ _ ?_
          clear hK K
          refine tk 3 ?vb131 rfl (by kernel_rfl) (fun _ _ _ h => nomatch h.1) ?hb131 ?rb131
          case hb131 => (intro w; go_simp; first | done | (with_reducible rfl))
          refine tk 4 ?vb132 rfl (by kernel_rfl) (fun _ _ _ h => nomatch h.1) ?hb132 ?rb132
          case hb132 => (intro w; go_simp; first | done | (with_reducible rfl))
          refine tk 5 ?vb133 rfl (by kernel_rfl) (fun _ _ _ h => nomatch h.1) ?hb133 ?rb133
          case hb133 => (intro w; go_simp; first | done | (with_reducible rfl))
          refine tk 6 ?vb134 rfl (by kernel_rfl) (fun _ _ _ h => nomatch h.1) ?hb134 ?rb134
          case hb134 => (intro w; go_simp; first | done | (with_reducible rfl))
          refine tk 7 ?vb135 rfl (by kernel_rfl) (fun _ _ _ h => nomatch h.1) ?hb135 ?rb135
          case hb135 => (intro w; go_simp; first | done | (with_reducible rfl))
          go_simp
          refine wpAny_ready (rs := [10]) (by kernel_rfl) (by simp) ?_
          refine AllReady.cons rfl (fun K hK => ?_) AllReady.nil
          obtain ⟨c0, c1, c2, c3, c4, c5⟩ := box6 HA.out
          obtain ⟨f0, f1, f2, f3, f4, f5⟩ := frz6 HA.out
          have hl := blk_lt HA.out
          go_simp
          refine hK _ _ ?_
          clear hK K c0 c1 c2 c3 c4 c5 f0 f1 f2 f3 f4 f5
          obtain ⟨bX5, hD⟩ : ∃ W, W = ((((((bX4).setCell ⟨bX0.heap.size, 0, none⟩ (S [])).setCell ⟨bX0.heap.size, 1, none⟩ (S (l404 ++ s4))).setCell ⟨bX0.heap.size, 2, none⟩ (.bool true)).setCell ⟨bX0.heap.size, 3, none⟩ (.bool false)).setCell ⟨bX0.heap.size, 4, none⟩ (.bool false)).setCell ⟨bX0.heap.size, 5, none⟩ (.int .u64 6) := ⟨_, rfl⟩
          rw [← hD]
          obtain ⟨hk, hg⟩ := put6 HA.out _ _ _ _ _ _ hD
          have hb := grown_below HF.out.b hg GHA.out hl
          have HK := Lib.hid ((hg.block _ (blk_lt HF.out.k) (fun e => NHAHF.out (by injection e))).trans HF.out.k)
          have HB := Lib.hid hb
          replace HZ := Lib.hid ((hg.block _ (blk_lt HZ.out) (fun e => NHZHA.out (by injection e with e; exact e.symm))).trans HZ.out)
          replace HA := Lib.hid hk
          clear hk hg hD hl hb
          refine wpAny_ready (rs := [11]) (by kernel_rfl) (by simp) ?_
          refine AllReady.cons rfl (fun K hK => ?_) AllReady.nil
          obtain ⟨c0, c1⟩ := box2 HZ.out
          obtain ⟨f0, f1⟩ := box2' HZ.out
          have hl := blk_lt HZ.out
          go_simp
          refine hK _ _ ?_
          clear hK K c0 c1 f0 f1
          obtain ⟨bX6, hD⟩ : ∃ W, W = ((bX5).setCell ⟨bX2.heap.size, 0, none⟩ (.int .u8 0)).setCell ⟨bX2.heap.size, 1, none⟩ (.slice none 0 0) := ⟨_, rfl⟩
          rw [← hD]
          obtain ⟨hk, hg⟩ := put2 HZ.out _ _ hD
          have hb := grown_below HB.out hg GHZ.out hl
          replace HK := Lib.hid ((hg.block _ (blk_lt HK.out) (fun e => NHZHF.out (by injection e))).trans HK.out)
          replace HB := Lib.hid hb
          replace HA := Lib.hid ((hg.block _ (blk_lt HA.out) (fun e => NHZHA.out (by injection e))).trans HA.out)
          replace HZ := Lib.hid hk
          clear hk hg hD hl hb
          refine wpAny_ready (rs := [12]) (by kernel_rfl) (by simp) ?_
          refine AllReady.cons rfl (fun K hK => ?_) AllReady.nil
          go_simp
          refine hK _ _ ?_
          clear hK K
          refine wpAny_ready (rs := [13]) (by kernel_rfl) (by simp) ?_
          refine AllReady.cons rfl (fun K hK => ?_) AllReady.nil
          go_simp
          refine hK _ _ ?_
          clear hK K
          refine wpAny_done (by kernel_rfl) ?_ _
          go_simp
          exact ⟨rfl, HB.out, HK.out, _, HA.out, _, _, _, _, _, _, _, _, _, rfl⟩
        refine AllReady.cons rfl (fun K hK => ?_) AllReady.nil
        go_simp
        refine hK _ _ ?_
        clear hK K
        obtain ⟨bX3, hD, hbD, hF⟩ := alcx bX2 #[.int .u8 0, .slice none 0 0] 40
        rw [← hD]
        have GHZ := Lib.hid HF.out.b.size
        have NHZHF := Lib.hid (Nat.ne_of_lt (blk_lt HF.out.k))
        have NHZHA := Lib.hid (Nat.ne_of_lt (blk_lt HA.out))
        replace HF := Lib.hid (HF.out.under hbD)
        replace HA := Lib.hid (blk_under HA.out hbD)
        have HZ := Lib.hid hF
        clear hbD hD hF
        refine wpAny_ready (rs := [0]) (by kernel_rfl) (by simp) ?_
        refine AllReady.cons rfl (fun K hK => ?_) AllReady.nil
        obtain ⟨c0, c1, c2, c3, c4, c5⟩ := box6 HF.out.k
        have hl := blk_lt HF.out.k
        go_simp
        refine hK _ _ ?_
        clear hK K c0 c1 c2 c3 c4 c5 hl
        refine wpAny_ready (rs := [2]) (by kernel_rfl) (by simp) ?_
        refine AllReady.cons rfl (fun K hK => ?_) AllReady.nil
        go_simp
        go_at_call 10
        refine (lk_b bX3 s4 Hs4.out Hs4l.out HF.out.t).mono ?_
        rintro e bX4 ⟨rfl, hbD⟩
        replace HF := Lib.hid (HF.out.under hbD)
        replace HA := Lib.hid (blk_under HA.out hbD)
        replace HZ := Lib.hid (blk_under HZ.out hbD)
        clear hbD
        refine hK _ _ ?_
        clear hK K
        refine tk 3 ?vb136 rfl (by kernel_rfl) (fun _ _ _ h => nomatch h.1) ?hb136 ?rb136
        case hb136 => (intro w; go_simp; first | done | (with_reducible rfl))
        refine tk 4 ?vb137 rfl (by kernel_rfl) (fun _ _ _ h => nomatch h.1) ?hb137 ?rb137
        case hb137 => (intro w; go_simp; first | done | (with_reducible rfl))
        refine tk 5 ?vb138 rfl (by kernel_rfl) (fun _ _ _ h => nomatch h.1) ?hb138 ?rb138
        case hb138 => (intro w; go_simp; first | done | (with_reducible rfl))
        refine tk 6 ?vb139 rfl (by kernel_rfl) (fun _ _ _ h => nomatch h.1) ?hb139 ?rb139
        case hb139 => (intro w; go_simp; first | done | (with_reducible rfl))
        refine tk 7 ?vb140 rfl (by kernel_rfl) (fun _ _ _ h => nomatch h.1) ?hb140 ?rb140
        case hb140 => (intro w; go_simp; first | done | (with_reducible rfl))
        go_simp
        refine wpAny_ready (rs := [10]) (by kernel_rfl) (by simp) ?_
        refine AllReady.cons rfl (fun K hK => ?_) AllReady.nil
        obtain ⟨c0, c1, c2, c3, c4, c5⟩ := box6 HA.out
        obtain ⟨f0, f1, f2, f3, f4, f5⟩ := frz6 HA.out
        have hl := blk_lt HA.out
        go_simp
        refine hK _ _ ?_
        clear hK K c0 c1 c2 c3 c4 c5 f0 f1 f2 f3 f4 f5
        obtain ⟨bX5, hD⟩ : ∃ W, W = ((((((bX4).setCell ⟨bX0.heap.size, 0, none⟩ (S [])).setCell ⟨bX0.heap.size, 1, none⟩ (S (l404 ++ s4))).setCell ⟨bX0.heap.size, 2, none⟩ (.bool true)).setCell ⟨bX0.heap.size, 3, none⟩ (.bool false)).setCell ⟨bX0.heap.size, 4, none⟩ (.bool false)).setCell ⟨bX0.heap.size, 5, none⟩ (.int .u64 6) := ⟨_, rfl⟩
        rw [← hD]
        obtain ⟨hk, hg⟩ := put6 HA.out _ _ _ _ _ _ hD
        have hb := grown_below HF.out.b hg GHA.out hl
        have HK := Lib.hid ((hg.block _ (blk_lt HF.out.k) (fun e => NHAHF.out (by injection e))).trans HF.out.k)
        have HB := Lib.hid hb
        replace HZ := Lib.hid ((hg.block _ (blk_lt HZ.out) (fun e => NHZHA.out (by injection e with e; exact e.symm))).trans HZ.out)
        replace HA := Lib.hid hk
        clear hk hg hD hl hb
        refine wpAny_ready (rs := [11]) (by kernel_rfl) (by simp) ?_
        refine AllReady.cons rfl (fun K hK => ?_) AllReady.nil
        obtain ⟨c0, c1⟩ := box2 HZ.out
        obtain ⟨f0, f1⟩ := box2' HZ.out
        have hl := blk_lt HZ.out
        go_simp
        refine hK _ _ ?_
        clear hK K c0 c1 f0 f1
        obtain ⟨bX6, hD⟩ : ∃ W, W = ((bX5).setCell ⟨bX2.heap.size, 0, none⟩ (.int .u8 0)).setCell ⟨bX2.heap.size, 1, none⟩ (.slice none 0 0) := ⟨_, rfl⟩
        rw [← hD]
        obtain ⟨hk, hg⟩ := put2 HZ.out _ _ hD
        have hb := grown_below HB.out hg GHZ.out hl
        replace HK := Lib.hid ((hg.block _ (blk_lt HK.out) (fun e => NHZHF.out (by injection e))).trans HK.out)
        replace HB := Lib.hid hb
        replace HA := Lib.hid ((hg.block _ (blk_lt HA.out) (fun e => NHZHA.out (by injection e))).trans HA.out)
        replace HZ := Lib.hid hk
        clear hk hg hD hl hb
        refine wpAny_ready (rs := [12]) (by kernel_rfl) (by simp) ?_
        refine AllReady.cons rfl (fun K hK => ?_) AllReady.nil
        go_simp
        refine hK _ _ ?_
        clear hK K
        refine wpAny_ready (rs := [13]) (by kernel_rfl) (by simp) ?_
        refine AllReady.cons rfl (fun K hK => ?_) AllReady.nil
        go_simp
        refine hK _ _ ?_
        clear hK K
        refine wpAny_done (by kernel_rfl) ?_ _
        go_simp
        exact ⟨rfl, HB.out, HK.out, _, HA.out, _, _, _, _, _, _, _, _, _, rfl⟩
      refine AllReady.cons rfl (fun K hK => ?_) AllReady.nil
      go_simp
      refine hK _ _ ?_
      clear hK K
      obtain ⟨bX2, hD, hbD, hF⟩ := alcx bX1 #[.int .u8 0, .slice none 0 0] 40
      rw [← hD]
      have GHZ := Lib.hid HF.out.b.size
      have NHZHF := Lib.hid (Nat.ne_of_lt (blk_lt HF.out.k))
      have NHZHA := Lib.hid (Nat.ne_of_lt (blk_lt HA.out))
      replace HF := Lib.hid (HF.out.under hbD)
      replace HA := Lib.hid (blk_under HA.out hbD)
      have HZ := Lib.hid hF
      clear hbD hD hF
      refine wpAny_ready (rs := [0, 1]) (by kernel_rfl) (by simp) ?_
      refine AllReady.cons rfl (fun K hK => ?_) ?_
      · skip
        obtain ⟨c0, c1, c2, c3, c4, c5⟩ := box6 HF.out.k
        have hl := blk_lt HF.out.k
        go_simp
        refine hK _ _ ?_
        clear hK K c0 c1 c2 c3 c4 c5 hl
        refine wpAny_ready (rs := [1]) (by kernel_rfl) (by simp) ?_
        refine AllReady.cons rfl (fun K hK => ?_) AllReady.nil
        go_simp
        go_at_call 9
        refine (cn_rules bX2).mono ?_
        rintro e bX3 ⟨rfl, hbD⟩
        replace HF := Lib.hid (HF.out.under hbD)
        replace HA := Lib.hid (blk_under HA.out hbD)
        replace HZ := Lib.hid (blk_under HZ.out hbD)
        clear hbD
        refine hK _ _ ?_
        clear hK K
        refine wpAny_ready (rs := [2]) (by kernel_rfl) (by simp) ?_
        refine AllReady.cons rfl (fun K hK => ?_) AllReady.nil
        go_simp
        go_at_call 10
        refine (lk_b bX3 s4 Hs4.out Hs4l.out HF.out.t).mono ?_
        rintro e bX4 ⟨rfl, hbD⟩
        replace HF := Lib.hid (HF.out.under hbD)
        replace HA := Lib.hid (blk_under HA.out hbD)
        replace HZ := Lib.hid (blk_under HZ.out hbD)
        clear hbD
        refine hK _ _ ?_
        clear hK K
        refine tk 3 ?vb141 rfl (by kernel_rfl) (fun _ _ _ h => nomatch h.1) ?hb141 ?rb141
        case hb141 => (intro w; go_simp; first | done | (with_reducible rfl))
        refine tk 4 ?vb142 rfl (by kernel_rfl) (fun _ _ _ h => nomatch h.1) ?hb142 ?rb142
        case hb142 => (intro w; go_simp; first | done | (with_reducible rfl))
        refine tk 5 ?vb143 rfl (by kernel_rfl) (fun _ _ _ h => nomatch h.1) ?hb143 ?rb143
        case hb143 => (intro w; go_simp; first | done | (with_reducible rfl))
        refine tk 6 ?vb144 rfl (by kernel_rfl) (fun _ _ _ h => nomatch h.1) ?hb144 ?rb144
        case hb144 => (intro w; go_simp; first | done | (with_reducible rfl))
        refine tk 7 ?vb145 rfl (by kernel_rfl) (fun _ _ _ h => nomatch h.1) ?hb145 ?rb145
        case hb145 => (intro w; go_simp; first | done | (with_reducible rfl))
        go_simp
        refine wpAny_ready (rs := [10]) (by kernel_rfl) (by simp) ?_
        refine AllReady.cons rfl (fun K hK => ?_) AllReady.nil
        obtain ⟨c0, c1, c2, c3, c4, c5⟩ := box6 HA.out
        obtain ⟨f0, f1, f2, f3, f4, f5⟩ := frz6 HA.out
        have hl := blk_lt HA.out
        go_simp
        refine hK _ _ ?_
        clear hK K c0 c1 c2 c3 c4 c5 f0 f1 f2 f3 f4 f5
        obtain ⟨bX5, hD⟩ : ∃ W, W = ((((((bX4).setCell ⟨bX0.heap.size, 0, none⟩ (S [])).setCell ⟨bX0.heap.size, 1, none⟩ (S (l404 ++ s4))).setCell ⟨bX0.heap.size, 2, none⟩ (.bool true)).setCell ⟨bX0.heap.size, 3, none⟩ (.bool false)).setCell ⟨bX0.heap.size, 4, none⟩ (.bool false)).setCell ⟨bX0.heap.size, 5, none⟩ (.int .u64 6) := ⟨_, rfl⟩
        rw [← hD]
        obtain ⟨hk, hg⟩ := put6 HA.out _ _ _ _ _ _ hD
        have hb := grown_below HF.out.b hg GHA.out hl
        have HK := Lib.hid ((hg.block _ (blk_lt HF.out.k) (fun e => NHAHF.out (by injection e))).trans HF.out.k)
        have HB := Lib.hid hb
        replace HZ := Lib.hid ((hg.block _ (blk_lt HZ.out) (fun e => NHZHA.out (by injection e with e; exact e.symm))).trans HZ.out)
        replace HA := Lib.hid hk
        clear hk hg hD hl hb
        refine wpAny_ready (rs := [11]) (by kernel_rfl) (by simp) ?_
        refine AllReady.cons rfl (fun K hK => ?_) AllReady.nil
        obtain ⟨c0, c1⟩ := box2 HZ.out
        obtain ⟨f0, f1⟩ := box2' HZ.out
        have hl := blk_lt HZ.out
        go_simp
        refine hK _ _ ?_
        clear hK K c0 c1 f0 f1
        obtain ⟨bX6, hD⟩ : ∃ W, W = ((bX5).setCell ⟨bX1.heap.size, 0, none⟩ (.int .u8 0)).setCell ⟨bX1.heap.size, 1, none⟩ (.slice none 0 0) := ⟨_, rfl⟩
        rw [← hD]
        obtain ⟨hk, hg⟩ := put2 HZ.out _ _ hD
        have hb := grown_below HB.out hg GHZ.out hl
        replace HK := Lib.hid ((hg.block _ (blk_lt HK.out) (fun e => NHZHF.out (by injection e))).trans HK.out)
        replace HB := Lib.hid hb
        replace HA := Lib.hid ((hg.block _ (blk_lt HA.out) (fun e => NHZHA.out (by injection e))).trans HA.out)
        replace HZ := Lib.hid hk
        clear hk hg hD hl hb
        refine wpAny_ready (rs := [12]) (by kernel_rfl) (by simp) ?_
        refine AllReady.cons rfl (fun K hK => ?_) AllReady.nil
        go_simp
        refine hK _ _ ?_
        clear hK K
        refine wpAny_ready (rs := [13]) (by kernel_rfl) (by simp) ?_
        refine AllReady.cons rfl (fun K hK => ?_) AllReady.nil
        go_simp
        refine hK _ _ ?_
        clear hK K
        refine wpAny_done (by kernel_rfl) ?_ _
        go_simp
        exact ⟨rfl, HB.out, HK.out, _, HA.out, _, _, _, _, _, _, _, _, _, rfl⟩
      refine AllReady.cons rfl (fun K hK => ?_) AllReady.nil
      go_simp
      go_at_call 9
      refine (cn_rules bX2).mono ?_
      rintro e bX3 ⟨rfl, hbD⟩
      replace HF := Lib.hid (HF.out.under hbD)
      replace HA := Lib.hid (blk_under HA.out hbD)
      replace HZ := Lib.hid (blk_under HZ.out hbD)
      clear hbD
      refine hK _ _ ?_
      clear hK K
      refine wpAny_ready (rs := [0]) (by kernel_rfl) (by simp) ?_
      refine AllReady.cons rfl (fun K hK => ?_) AllReady.nil
      obtain ⟨c0, c1, c2, c3, c4, c5⟩ := box6 HF.out.k
      have hl := blk_lt HF.out.k
      go_simp
      refine hK _ _ ?_
      clear hK K c0 c1 c2 c3 c4 c5 hl
      refine wpAny_ready (rs := [2]) (by kernel_rfl) (by simp) ?_
      refine AllReady.cons rfl (fun K hK => ?_) AllReady.nil
      go_simp
      go_at_call 10
      refine (lk_b bX3 s4 Hs4.out Hs4l.out HF.out.t).mono ?_
      rintro e bX4 ⟨rfl, hbD⟩
      replace HF := Lib.hid (HF.out.under hbD)
      replace HA := Lib.hid (blk_under HA.out hbD)
      replace HZ := Lib.hid (blk_under HZ.out hbD)
      clear hbD
      refine hK _ _ ?_
      clear hK K
      refine tk 3 ?vb146 rfl (by kernel_rfl) (fun _ _ _ h => nomatch h.1) ?hb146 ?rb146
      case hb146 => (intro w; go_simp; first | done | (with_reducible rfl))
      refine tk 4 ?vb147 rfl (by kernel_rfl) (fun _ _ _ h => nomatch h.1) ?hb147 ?rb147
      case hb147 => (intro w; go_simp; first | done | (with_reducible rfl))
      refine tk 5 ?vb148 rfl (by kernel_rfl) (fun _ _ _ h => nomatch h.1) ?hb148 ?rb148
      case hb148 => (intro w; go_simp; first | done | (with_reducible rfl))
      refine tk 6 ?vb149 rfl (by kernel_rfl) (fun _ _ _ h => nomatch h.1) ?hb149 ?rb149
      case hb149 => (intro w; go_simp; first | done | (with_reducible rfl))
      refine tk 7 ?vb150 rfl (by kernel_rfl) (fun _ _ _ h => nomatch h.1) ?hb150 ?rb150
      case hb150 => (intro w; go_simp; first | done | (with_reducible rfl))
      go_simp
      refine wpAny_ready (rs := [10]) (by kernel_rfl) (by simp) ?_
      refine AllReady.cons rfl (fun K hK => ?_) AllReady.nil
      obtain ⟨c0, c1, c2, c3, c4, c5⟩ := box6 HA.out
      obtain ⟨f0, f1, f2, f3, f4, f5⟩ := frz6 HA.out
      have hl := blk_lt HA.out
      go_simp
      refine hK _ _ ?_
      clear hK K c0 c1 c2 c3 c4 c5 f0 f1 f2 f3 f4 f5
      obtain ⟨bX5, hD⟩ : ∃ W, W = ((((((bX4).setCell ⟨bX0.heap.size, 0, none⟩ (S [])).setCell ⟨bX0.heap.size, 1, none⟩ (S (l404 ++ s4))).setCell ⟨bX0.heap.size, 2, none⟩ (.bool true)).setCell ⟨bX0.heap.size, 3, none⟩ (.bool false)).setCell ⟨bX0.heap.size, 4, none⟩ (.bool false)).setCell ⟨bX0.heap.size, 5, none⟩ (.int .u64 6) := ⟨_, rfl⟩
      rw [← hD]
      obtain ⟨hk, hg⟩ := put6 HA.out _ _ _ _ _ _ hD
      have hb := grown_below HF.out.b hg GHA.out hl
      have HK := Lib.hid ((hg.block _ (blk_lt HF.out.k) (fun e => NHAHF.out (by injection e))).trans HF.out.k)
      have HB := Lib.hid hb
      replace HZ := Lib.hid ((hg.block _ (blk_lt HZ.out) (fun e => NHZHA.out (by injection e with e; exact e.symm))).trans HZ.out)
      replace HA := Lib.hid hk
      clear hk hg hD hl hb
      refine wpAny_ready (rs := [11]) (by kernel_rfl) (by simp) ?_
      refine AllReady.cons rfl (fun K hK => ?_) AllReady.nil
      obtain ⟨c0, c1⟩ := box2 HZ.out
      obtain ⟨f0, f1⟩ := box2' HZ.out
      have hl := blk_lt HZ.out
      go_simp
      refine hK _ _ ?_
      clear hK K c0 c1 f0 f1
      obtain ⟨bX6, hD⟩ : ∃ W, W = ((bX5).setCell ⟨bX1.heap.size, 0, none⟩ (.int .u8 0)).setCell ⟨bX1.heap.size, 1, none⟩ (.slice none 0 0) := ⟨_, rfl⟩
      rw [← hD]
      obtain ⟨hk, hg⟩ := put2 HZ.out _ _ hD
      have hb := grown_below HB.out hg GHZ.out hl
      replace HK := Lib.hid ((hg.block _ (blk_lt HK.out) (fun e => NHZHF.out (by injection e))).trans HK.out)
      replace HB := Lib.hid hb
      replace HA := Lib.hid ((hg.block _ (blk_lt HA.out) (fun e => NHZHA.out (by injection e))).trans HA.out)
      replace HZ := Lib.hid hk
      clear hk hg hD hl hb
      refine wpAny_ready (rs := [12]) (by kernel_rfl) (by simp) ?_
      refine AllReady.cons rfl (fun K hK => ?_) AllReady.nil
      go_simp
      refine hK _ _ ?_
      clear hK K
      refine wpAny_ready (rs := [13]) (by kernel_rfl) (by simp) ?_
      refine AllReady.cons rfl (fun K hK => ?_) AllReady.nil
      go_simp
      refine hK _ _ ?_
      clear hK K
      refine wpAny_done (by kernel_rfl) ?_ _
      go_simp
      exact ⟨rfl, HB.out, HK.out, _, HA.out, _, _, _, _, _, _, _, _, _, rfl⟩
    refine AllReady.cons rfl (fun K hK => ?_) AllReady.nil
    go_simp
    refine hK _ _ ?_
    clear hK K
    obtain ⟨bX1, hD, hbD, hF⟩ := alcx bX0 #[.int .u8 0, .slice none 0 0] 40
    rw [← hD]
    have GHZ := Lib.hid HF.out.b.size
    have NHZHF := Lib.hid (Nat.ne_of_lt (blk_lt HF.out.k))
    replace HF := Lib.hid (HF.out.under hbD)
    have HZ := Lib.hid hF
    clear hbD hD hF
    refine wpAny_ready (rs := [0, 1, 8]) (by kernel_rfl) (by simp) ?_
    refine AllReady.cons rfl (fun K hK => ?_) ?_
    · skip
      obtain ⟨c0, c1, c2, c3, c4, c5⟩ := box6 HF.out.k
      have hl := blk_lt HF.out.k
      go_simp
      refine hK _ _ ?_
      clear hK K c0 c1 c2 c3 c4 c5 hl
      refine wpAny_ready (rs := [1, 8]) (by kernel_rfl) (by simp) ?_
      refine AllReady.cons rfl (fun K hK => ?_) ?_
      · skip
        go_simp
        go_at_call 9
        refine (cn_rules bX1).mono ?_
        rintro e bX2 ⟨rfl, hbD⟩
        replace HF := Lib.hid (HF.out.under hbD)
        replace HZ := Lib.hid (blk_under HZ.out hbD)
        clear hbD
        refine hK _ _ ?_
        clear hK K
        refine wpAny_ready (rs := [2, 8]) (by kernel_rfl) (by simp) ?_
        refine AllReady.cons rfl (fun K hK => ?_) ?_
        · skip
          go_simp
          go_at_call 10
          refine (lk_b bX2 s4 Hs4.out Hs4l.out HF.out.t).mono ?_
          rintro e bX3 ⟨rfl, hbD⟩
          replace HF := Lib.hid (HF.out.under hbD)
          replace HZ := Lib.hid (blk_under HZ.out hbD)
          clear hbD
          refine hK _ _ ?_
          clear hK K
          refine tk 3 ?vb151 rfl (by kernel_rfl) (fun _ _ _ h => nomatch h.1) ?hb151 ?rb151
          case hb151 => (intro w; go_simp; first | done | (with_reducible rfl))
          refine tk 4 ?vb152 rfl (by kernel_rfl) (fun _ _ _ h => nomatch h.1) ?hb152 ?rb152
          case hb152 => (intro w; go_simp; first | done | (with_reducible rfl))
          refine tk 5 ?vb153 rfl (by kernel_rfl) (fun _ _ _ h => nomatch h.1) ?hb153 ?rb153
          case hb153 => (intro w; go_simp; first | done | (with_reducible rfl))
          refine tk 6 ?vb154 rfl (by kernel_rfl) (fun _ _ _ h => nomatch h.1) ?hb154 ?rb154
          case hb154 => (intro w; go_simp; first | done | (with_reducible rfl))
          refine tk 7 ?vb155 rfl (by kernel_rfl) (fun _ _ _ h => nomatch h.1) ?hb155 ?rb155
          case hb155 => (intro w; go_simp; first | done | (with_reducible rfl))
          go_simp
          refine wpAny_ready (rs := [8]) (by kernel_rfl) (by simp) ?_
          refine AllReady.cons rfl (fun K hK => ?_) AllReady.nil
          go_simp
          refine hK _ _ ?_
          clear hK K
          obtain ⟨bX4, hD, hbD, hF⟩ := alcx bX3 #[S [], S [], .bool false, .bool false, .bool false, .int .u64 0] 24
          rw [← hD]
          have GHA := Lib.hid HF.out.b.size
          have NHAHF := Lib.hid (Nat.ne_of_lt (blk_lt HF.out.k))
          have NHAHZ := Lib.hid (Nat.ne_of_lt (blk_lt HZ.out))
          replace HF := Lib.hid (HF.out.under hbD)
          replace HZ := Lib.hid (blk_under HZ.out hbD)
          have HA := Lib.hid hF
          clear hbD hD hF
          refine wpAny_ready (rs := [10]) (by kernel_rfl) (by simp) ?_
          refine AllReady.cons rfl (fun K hK => ?_) AllReady.nil
          obtain ⟨c0, c1, c2, c3, c4, c5⟩ := box6 HA.out
          obtain ⟨f0, f1, f2, f3, f4, f5⟩ := frz6 HA.out
          have hl := blk_lt HA.out
          go_simp
          refine hK _ _ ?_
          clear hK K c0 c1 c2 c3 c4 c5 f0 f1 f2 f3 f4 f5
          obtain ⟨bX5, hD⟩ : ∃ W, W = ((((((bX4).setCell ⟨bX3.heap.size, 0, none⟩ (S [])).setCell ⟨bX3.heap.size, 1, none⟩ (S (l404 ++ s4))).setCell ⟨bX3.heap.size, 2, none⟩ (.bool true)).setCell ⟨bX3.heap.size, 3, none⟩ (.bool false)).setCell ⟨bX3.heap.size, 4, none⟩ (.bool false)).setCell ⟨bX3.heap.size, 5, none⟩ (.int .u64 6) := ⟨_, rfl⟩
          rw [← hD]
          obtain ⟨hk, hg⟩ := put6 HA.out _ _ _ _ _ _ hD
          have hb := grown_below HF.out.b hg GHA.out hl
          have HK := Lib.hid ((hg.block _ (blk_lt HF.out.k) (fun e => NHAHF.out (by injection e))).trans HF.out.k)
          have HB := Lib.hid hb
          replace HZ := Lib.hid ((hg.block _ (blk_lt HZ.out) (fun e => NHAHZ.out (by injection e))).trans HZ.out)
          replace HA := Lib.hid hk
          clear hk hg hD hl hb
          refine wpAny_ready (rs := [11]) (by kernel_rfl) (by simp) ?_
          refine AllReady.cons rfl (fun K hK => ?_) AllReady.nil
          obtain ⟨c0, c1⟩ := box2 HZ.out
          obtain ⟨f0, f1⟩ := box2' HZ.out
          have hl := blk_lt HZ.out
          go_simp
          refine hK _ _ ?_
          clear hK K c0 c1 f0 f1
          obtain ⟨bX6, hD⟩ : ∃ W, W = ((bX5).setCell ⟨bX0.heap.size, 0, none⟩ (.int .u8 0)).setCell ⟨bX0.heap.size, 1, none⟩ (.slice none 0 0) := ⟨_, rfl⟩
          rw [← hD]
          obtain ⟨hk, hg⟩ := put2 HZ.out _ _ hD
          have hb := grown_below HB.out hg GHZ.out hl
          replace HK := Lib.hid ((hg.block _ (blk_lt HK.out) (fun e => NHZHF.out (by injection e))).trans HK.out)
          replace HB := Lib.hid hb
          replace HA := Lib.hid ((hg.block _ (blk_lt HA.out) (fun e => NHAHZ.out (by injection e with e; exact e.symm))).trans HA.out)
          replace HZ := Lib.hid hk
          clear hk hg hD hl hb
          refine wpAny_ready (rs := [12]) (by kernel_rfl) (by simp) ?_
          refine AllReady.cons rfl (fun K hK => ?_) AllReady.nil
          go_simp
          refine hK _ _ ?_
          clear hK K
          refine wpAny_ready (rs := [13]) (by kernel_rfl) (by simp) ?_
          refine AllReady.cons rfl (fun K hK => ?_) AllReady.nil
          go_simp
          refine hK _ _ ?_
          clear hK K
          refine wpAny_done (by kernel_rfl) ?_ _
          go_simp
          exact ⟨rfl, HB.out, HK.out, _, HA.out, _, _, _, _, _, _, _, _, _, rfl⟩
        refine AllReady.cons rfl (fun K hK => ?_) AllReady.nil
        go_simp
        refine hK _ _ ?_
        clear hK K
        obtain ⟨bX3, hD, hbD, hF⟩ := alcx bX2 #[S [], S [], .bool false, .bool false, .bool false, .int .u64 0] 24
        rw [← hD]
        have GHA := Lib.hid HF.out.b.size
        have NHAHF := Lib.hid (Nat.ne_of_lt (blk_lt HF.out.k))
        have NHAHZ := Lib.hid (Nat.ne_of_lt (blk_lt HZ.out))
        replace HF := Lib.hid (HF.out.under hbD)
        replace HZ := Lib.hid (blk_under HZ.out hbD)
        have HA := Lib.hid hF
        clear hbD hD hF
        refine wpAny_ready (rs := [2]) (by kernel_rfl) (by simp) ?_
        refine AllReady.cons rfl (fun K hK => ?_) AllReady.nil
        go_simp
        go_at_call 10
        refine (lk_b bX3 s4 Hs4.out Hs4l.out HF.out.t).mono ?_
        rintro e bX4 ⟨rfl, hbD⟩
        replace HF := Lib.hid (HF.out.under hbD)
        replace HZ := Lib.hid (blk_under HZ.out hbD)
        replace HA := Lib.hid (blk_under HA.out hbD)
        clear hbD
        refine hK _ _ ?_
        clear hK K
        refine tk 3 ?vb156 rfl (by kernel_rfl) (fun _ _ _ h => nomatch h.1) ?hb156 ?rb156
        case hb156 => (intro w; go_simp; first | done | (with_reducible rfl))
        refine tk 4 ?vb157 rfl (by kernel_rfl) (fun _ _ _ h => nomatch h.1) ?hb157 ?rb157
        case hb157 => (intro w; go_simp; first | done | (with_reducible rfl))
        refine tk 5 ?vb158 rfl (by kernel_rfl) (fun _ _ _ h => nomatch h.1) ?hb158 ?rb158
        case hb158 => (intro w; go_simp; first | done | (with_reducible rfl))
        refine tk 6 ?vb159 rfl (by kernel_rfl) (fun _ _ _ h => nomatch h.1) ?hb159 ?rb159
        case hb159 => (intro w; go_simp; first | done | (with_reducible rfl))
        refine tk 7 ?vb160 rfl (by kernel_rfl) (fun _ _ _ h => nomatch h.1) ?hb160 ?rb160
        case hb160 => (intro w; go_simp; first | done | (with_reducible rfl))
        go_simp
        refine wpAny_ready (rs := [10]) (by kernel_rfl) (by simp) ?_
        refine AllReady.cons rfl (fun K hK => ?_) AllReady.nil
        obtain ⟨c0, c1, c2, c3, c4, c5⟩ := box6 HA.out
        obtain ⟨f0, f1, f2, f3, f4, f5⟩ := frz6 HA.out
        have hl := blk_lt HA.out
        go_simp
        refine hK _ _ ?_
        clear hK K c0 c1 c2 c3 c4 c5 f0 f1 f2 f3 f4 f5
        obtain ⟨bX5, hD⟩ : ∃ W, W = ((((((bX4).setCell ⟨bX2.heap.size, 0, none⟩ (S [])).setCell ⟨bX2.heap.size, 1, none⟩ (S (l404 ++ s4))).setCell ⟨bX2.heap.size, 2, none⟩ (.bool true)).setCell ⟨bX2.heap.size, 3, none⟩ (.bool false)).setCell ⟨bX2.heap.size, 4, none⟩ (.bool false)).setCell ⟨bX2.heap.size, 5, none⟩ (.int .u64 6) := ⟨_, rfl⟩
        rw [← hD]
        obtain ⟨hk, hg⟩ := put6 HA.out _ _ _ _ _ _ hD
        have hb := grown_below HF.out.b hg GHA.out hl
        have HK := Lib.hid ((hg.block _ (blk_lt HF.out.k) (fun e => NHAHF.out (by injection e))).trans HF.out.k)
        have HB := Lib.hid hb
        replace HZ := Lib.hid ((hg.block _ (blk_lt HZ.out) (fun e => NHAHZ.out (by injection e))).trans HZ.out)
        replace HA := Lib.hid hk
        clear hk hg hD hl hb
        refine wpAny_ready (rs := [11]) (by kernel_rfl) (by simp) ?_
        refine AllReady.cons rfl (fun K hK => ?_) AllReady.nil
        obtain ⟨c0, c1⟩ := box2 HZ.out
        obtain ⟨f0, f1⟩ := box2' HZ.out
        have hl := blk_lt HZ.out
        go_simp
        refine hK _ _ ?_
        clear hK K c0 c1 f0 f1
        obtain ⟨bX6, hD⟩ : ∃ W, W = ((bX5).setCell ⟨bX0.heap.size, 0, none⟩ (.int .u8 0)).setCell ⟨bX0.heap.size, 1, none⟩ (.slice none 0 0) := ⟨_, rfl⟩
        rw [← hD]
        obtain ⟨hk, hg⟩ := put2 HZ.out _ _ hD
        have hb := grown_below HB.out hg GHZ.out hl
        replace HK := Lib.hid ((hg.block _ (blk_lt HK.out) (fun e => NHZHF.out (by injection e))).trans HK.out)
        replace HB := Lib.hid hb
        replace HA := Lib.hid ((hg.block _ (blk_lt HA.out) (fun e => NHAHZ.out (by injection e with e; exact e.symm))).trans HA.out)
        replace HZ := Lib.hid hk
        clear hk hg hD hl hb
        refine wpAny_ready (rs := [12]) (by kernel_rfl) (by simp) ?_
        refine AllReady.cons rfl (fun K hK => ?_) AllReady.nil
        go_simp
        refine hK _ _ ?_
        clear hK K
        refine wpAny_ready (rs := [13]) (by kernel_rfl) (by simp) ?_
        refine AllReady.cons rfl (fun K hK => ?_) AllReady.nil
        go_simp
        refine hK _ _ ?_
        clear hK K
        refine wpAny_done (by kernel_rfl) ?_ _
        go_simp
        exact ⟨rfl, HB.out, HK.out, _, HA.out, _, _, _, _, _, _, _, _, _, rfl⟩
      refine AllReady.cons rfl (fun K hK => ?_) AllReady.nil
      go_simp
      refine hK _ _ ?_
      clear hK K
      obtain ⟨bX2, hD, hbD, hF⟩ := alcx bX1 #[S [], S [], .bool false, .bool false, .bool false, .int .u64 0] 24
      rw [← hD]
      have GHA := Lib.hid HF.out.b.size
      have NHAHF := Lib.hid (Nat.ne_of_lt (blk_lt HF.out.k))
      have NHAHZ := Lib.hid (Nat.ne_of_lt (blk_lt HZ.out))
      replace HF := Lib.hid (HF.out.under hbD)
      replace HZ := Lib.hid (blk_under HZ.out hbD)
      have HA := Lib.hid hF
      clear hbD hD hF
      refine wpAny_ready (rs := [1]) (by kernel_rfl) (by simp) ?_
      refine AllReady.cons rfl (fun K hK => ?_) AllReady.nil
      go_simp
      go_at_call 9
      refine (cn_rules bX2).mono ?_
      rintro e bX3 ⟨rfl, hbD⟩
      replace HF := Lib.hid (HF.out.under hbD)
      replace HZ := Lib.hid (blk_under HZ.out hbD)
      replace HA := Lib.hid (blk_under HA.out hbD)
      clear hbD
      refine hK _ _ ?_
      clear hK K
      refine wpAny_ready (rs := [2]) (by kernel_rfl) (by simp) ?_
      refine AllReady.cons rfl (fun K hK => ?_) AllReady.nil
      go_simp
      go_at_call 10
      refine (lk_b bX3 s4 Hs4.out Hs4l.out HF.out.t).mono ?_
      rintro e bX4 ⟨rfl, hbD⟩
      replace HF := Lib.hid (HF.out.under hbD)
      replace HZ := Lib.hid (blk_under HZ.out hbD)
      replace HA := Lib.hid (blk_under HA.out hbD)
      clear hbD
      refine hK _ _ ?_
      clear hK K
      refine tk 3 ?vb161 rfl (by kernel_rfl) (fun _ _ _ h => nomatch h.1) ?hb161 ?rb161
      case hb161 => (intro w; go_simp; first | done | (with_reducible rfl))
      refine tk 4 ?vb162 rfl (by kernel_rfl) (fun _ _ _ h => nomatch h.1) ?hb162 ?rb162
      case hb162 => (intro w; go_simp; first | done | (with_reducible rfl))
      refine tk 5 ?vb163 rfl (by kernel_rfl) (fun _ _ _ h => nomatch h.1) ?hb163 ?rb163
      case hb163 => (intro w; go_simp; first | done | (with_reducible rfl))
      refine tk 6 ?vb164 rfl (by kernel_rfl) (fun _ _ _ h => nomatch h.1) ?hb164 ?rb164
      case hb164 => (intro w; go_simp; first | done | (with_reducible rfl))
      refine tk 7 ?vb165 rfl (by kernel_rfl) (fun _ _ _ h => nomatch h.1) ?hb165 ?rb165
      case hb165 => (intro w; go_simp; first | done | (with_reducible rfl))
      go_simp
      refine wpAny_ready (rs := [10]) (by kernel_rfl) (by simp) ?_
      refine AllReady.cons rfl (fun K hK => ?_) AllReady.nil
      obtain ⟨c0, c1, c2, c3, c4, c5⟩ := box6 HA.out
      obtain ⟨f0, f1, f2, f3, f4, f5⟩ := frz6 HA.out
      have hl := blk_lt HA.out
      go_simp
      refine hK _ _ ?_
      clear hK K c0 c1 c2 c3 c4 c5 f0 f1 f2 f3 f4 f5
      obtain ⟨bX5, hD⟩ : ∃ W, W = ((((((bX4).setCell ⟨bX1.heap.size, 0, none⟩ (S [])).setCell ⟨bX1.heap.size, 1, none⟩ (S (l404 ++ s4))).setCell ⟨bX1.heap.size, 2, none⟩ (.bool true)).setCell ⟨bX1.heap.size, 3, none⟩ (.bool false)).setCell ⟨bX1.heap.size, 4, none⟩ (.bool false)).setCell ⟨bX1.heap.size, 5, none⟩ (.int .u64 6) := ⟨_, rfl⟩
      rw [← hD]
      obtain ⟨hk, hg⟩ := put6 HA.out _ _ _ _ _ _ hD
      have hb := grown_below HF.out.b hg GHA.out hl
      have HK := Lib.hid ((hg.block _ (blk_lt HF.out.k) (fun e => NHAHF.out (by injection e))).trans HF.out.k)
      have HB := Lib.hid hb
      replace HZ := Lib.hid ((hg.block _ (blk_lt HZ.out) (fun e => NHAHZ.out (by injection e))).trans HZ.out)
      replace HA := Lib.hid hk
      clear hk hg hD hl hb
      refine wpAny_ready (rs := [11]) (by kernel_rfl) (by simp) ?_
      refine AllReady.cons rfl (fun K hK => ?_) AllReady.nil
      obtain ⟨c0, c1⟩ := box2 HZ.out
      obtain ⟨f0, f1⟩ := box2' HZ.out
      have hl := blk_lt HZ.out
      go_simp
      refine hK _ _ ?_
      clear hK K c0 c1 f0 f1
      obtain ⟨bX6, hD⟩ : ∃ W, W = ((bX5).setCell ⟨bX0.heap.size, 0, none⟩ (.int .u8 0)).setCell ⟨bX0.heap.size, 1, none⟩ (.slice none 0 0) := ⟨_, rfl⟩
      rw [← hD]
      obtain ⟨hk, hg⟩ := put2 HZ.out _ _ hD
      have hb := grown_below HB.out hg GHZ.out hl
      replace HK := Lib.hid ((hg.block _ (blk_lt HK.out) (fun e => NHZHF.out (by injection e))).trans HK.out)
      replace HB := Lib.hid hb
      replace HA := Lib.hid ((hg.block _ (blk_lt HA.out) (fun e => NHAHZ.out (by injection e with e; exact e.symm))).trans HA.out)
      replace HZ := Lib.hid hk
      clear hk hg hD hl hb
      refine wpAny_ready (rs := [12]) (by kernel_rfl) (by simp) ?_
      refine AllReady.cons rfl (fun K hK => ?_) AllReady.nil
      go_simp
      refine hK _ _ ?_
      clear hK K
      refine wpAny_ready (rs := [13]) (by kernel_rfl) (by simp) ?_
      refine AllReady.cons rfl (fun K hK => ?_) AllReady.nil
      go_simp
      refine hK _ _ ?_
      clear hK K
      refine wpAny_done (by kernel_rfl) ?_ _
      go_simp
      exact ⟨rfl, HB.out, HK.out, _, HA.out, _, _, _, _, _, _, _, _, _, rfl⟩
    refine AllReady.cons rfl (fun K hK => ?_) ?_
    · skip
      go_simp
      go_at_call 9
      refine (cn_rules bX1).mono ?_
      rintro e bX2 ⟨rfl, hbD⟩
      replace HF := Lib.hid (HF.out.under hbD)
      replace HZ := Lib.hid (blk_under HZ.out hbD)
      clear hbD
      refine hK _ _ ?_
      clear hK K
      refine wpAny_ready (rs := [0, 8]) (by kernel_rfl) (by simp) ?_
      refine AllReady.cons rfl (fun K hK => ?_) ?_
      · skip
        obtain ⟨c0, c1, c2, c3, c4, c5⟩ := box6 HF.out.k
        have hl := blk_lt HF.out.k
        go_simp
        refine hK _ _ ?_
        clear hK K c0 c1 c2 c3 c4 c5 hl
        refine wpAny_ready (rs := [2, 8]) (by kernel_rfl) (by simp) ?_
        refine AllReady.cons rfl (fun K hK => ?_) ?_
        · skip
          go_simp
          go_at_call 10
          refine (lk_b bX2 s4 Hs4.out Hs4l.out HF.out.t).mono ?_
          rintro e bX3 ⟨rfl, hbD⟩
          replace HF := Lib.hid (HF.out.under hbD)
          replace HZ := Lib.hid (blk_under HZ.out hbD)
          clear hbD
          refine hK _ _ ?_
          clear hK K
          refine tk 3 ?vb166 rfl (by kernel_rfl) (fun _ _ _ h => nomatch h.1) ?hb166 ?rb166
          case hb166 => (intro w; go_simp; first | done | (with_reducible rfl))
          refine tk 4 ?vb167 rfl (by kernel_rfl) (fun _ _ _ h => nomatch h.1) ?hb167 ?rb167
          case hb167 => (intro w; go_simp; first | done | (with_reducible rfl))
          refine tk 5 ?vb168 rfl (by kernel_rfl) (fun _ _ _ h => nomatch h.1) ?hb168 ?rb168
          case hb168 => (intro w; go_simp; first | done | (with_reducible rfl))
          refine tk 6 ?vb169 rfl (by kernel_rfl) (fun _ _ _ h => nomatch h.1) ?hb169 ?rb169
          case hb169 => (intro w; go_simp; first | done | (with_reducible rfl))
          refine tk 7 ?vb170 rfl (by kernel_rfl) (fun _ _ _ h => nomatch h.1) ?hb170 ?rb170
          case hb170 => (intro w; go_simp; first | done | (with_reducible rfl))
          go_simp
          refine wpAny_ready (rs := [8]) (by kernel_rfl) (by simp) ?_
          refine AllReady.cons rfl (fun K hK => ?_) AllReady.nil
          go_simp
          refine hK _ _ ?_
          clear hK K
          obtain ⟨bX4, hD, hbD, hF⟩ := alcx bX3 #[S [], S [], .bool false, .bool false, .bool false, .int .u64 0] 24
          rw [← hD]
          have GHA := Lib.hid HF.out.b.size
          have NHAHF := Lib.hid (Nat.ne_of_lt (blk_lt HF.out.k))
          have NHAHZ := Lib.hid (Nat.ne_of_lt (blk_lt HZ.out))
          replace HF := Lib.hid (HF.out.under hbD)
          replace HZ := Lib.hid (blk_under HZ.out hbD)
          have HA := Lib.hid hF
          clear hbD hD hF
          refine wpAny_ready (rs := [10]) (by kernel_rfl) (by simp) ?_
          refine AllReady.cons rfl (fun K hK => ?_) AllReady.nil
          obtain ⟨c0, c1, c2, c3, c4, c5⟩ := box6 HA.out
          obtain ⟨f0, f1, f2, f3, f4, f5⟩ := frz6 HA.out
          have hl := blk_lt HA.out
          go_simp
          refine hK _ _ ?_
          clear hK K c0 c1 c2 c3 c4 c5 f0 f1 f2 f3 f4 f5
          obtain ⟨bX5, hD⟩ : ∃ W, W = ((((((bX4).setCell ⟨bX3.heap.size, 0, none⟩ (S [])).setCell ⟨bX3.heap.size, 1, none⟩ (S (l404 ++ s4))).setCell ⟨bX3.heap.size, 2, none⟩ (.bool true)).setCell ⟨bX3.heap.size, 3, none⟩ (.bool false)).setCell ⟨bX3.heap.size, 4, none⟩ (.bool false)).setCell ⟨bX3.heap.size, 5, none⟩ (.int .u64 6) := ⟨_, rfl⟩
          rw [← hD]
          obtain ⟨hk, hg⟩ := put6 HA.out _ _ _ _ _ _ hD
          have hb := grown_below HF.out.b hg GHA.out hl
          have HK := Lib.hid ((hg.block _ (blk_lt HF.out.k) (fun e => NHAHF.out (by injection e))).trans HF.out.k)
          have HB := Lib.hid hb
          replace HZ := Lib.hid ((hg.block _ (blk_lt HZ.out) (fun e => NHAHZ.out (by injection e))).trans HZ.out)
          replace HA := Lib.hid hk
          clear hk hg hD hl hb
          refine wpAny_ready (rs := [11]) (by kernel_rfl) (by simp) ?_
          refine AllReady.cons rfl (fun K hK => ?_) AllReady.nil
          obtain ⟨c0, c1⟩ := box2 HZ.out
          obtain ⟨f0, f1⟩ := box2' HZ.out
          have hl := blk_lt HZ.out
          go_simp
          refine hK _ _ ?_
          clear hK K c0 c1 f0 f1
          obtain ⟨bX6, hD⟩ : ∃ W, W = ((bX5).setCell ⟨bX0.heap.size, 0, none⟩ (.int .u8 0)).setCell ⟨bX0.heap.size, 1, none⟩ (.slice none 0 0) := ⟨_, rfl⟩
          rw [← hD]
          obtain ⟨hk, hg⟩ := put2 HZ.out _ _ hD
          have hb := grown_below HB.out hg GHZ.out hl
          replace HK := Lib.hid ((hg.block _ (blk_lt HK.out) (fun e => NHZHF.out (by injection e))).trans HK.out)
          replace HB := Lib.hid hb
          replace HA := Lib.hid ((hg.block _ (blk_lt HA.out) (fun e => NHAHZ.out (by injection e with e; exact e.symm))).trans HA.out)
          replace HZ := Lib.hid hk
          clear hk hg hD hl hb
          refine wpAny_ready (rs := [12]) (by kernel_rfl) (by simp) ?_
          refine AllReady.cons rfl (fun K hK => ?_) AllReady.nil
          go_simp
          refine hK _ _ ?_
          clear hK K
          refine wpAny_ready (rs := [13]) (by kernel_rfl) (by simp) ?_
          refine AllReady.cons rfl (fun K hK => ?_) AllReady.nil
          go_simp
          refine hK _ _ ?_
          clear hK K
          refine wpAny_done (by kernel_rfl) ?_ _
          go_simp
          exact ⟨rfl, HB.out, HK.out, _, HA.out, _, _, _, _, _, _, _, _, _, rfl⟩
        refine AllReady.cons rfl (fun K hK => ?_) AllReady.nil
        go_simp
        refine hK _ _ ?_
        clear hK K
        obtain ⟨bX3, hD, hbD, hF⟩ := alcx bX2 #[S [], S [], .bool false, .bool false, .bool false, .int .u64 0] 24
        rw [← hD]
        have GHA := Lib.hid HF.out.b.size
        have NHAHF := Lib.hid (Nat.ne_of_lt (blk_lt HF.out.k))
        have NHAHZ := Lib.hid (Nat.ne_of_lt (blk_lt HZ.out))
        replace HF := Lib.hid (HF.out.under hbD)
        replace HZ := Lib.hid (blk_under HZ.out hbD)
        have HA := Lib.hid hF
        clear hbD hD hF
        refine wpAny_ready (rs := [2]) (by kernel_rfl) (by simp) ?_
        refine AllReady.cons rfl (fun K hK => ?_) AllReady.nil
        go_simp
        go_at_call 10
        refine (lk_b bX3 s4 Hs4.out Hs4l.out HF.out.t).mono ?_
        rintro e bX4 ⟨rfl, hbD⟩
        replace HF := Lib.hid (HF.out.under hbD)
        replace HZ := Lib.hid (blk_under HZ.out hbD)
        replace HA := Lib.hid (blk_under HA.out hbD)
        clear hbD
        refine hK _ _ ?_
        clear hK K
        refine tk 3 ?vb171 rfl (by kernel_rfl) (fun _ _ _ h => nomatch h.1) ?hb171 ?rb171
        case hb171 => (intro w; go_simp; first | done | (with_reducible rfl))
        refine tk 4 ?vb172 rfl (by kernel_rfl) (fun _ _ _ h => nomatch h.1) ?hb172 ?rb172
        case hb172 => (intro w; go_simp; first | done | (with_reducible rfl))
        refine tk 5 ?vb173 rfl (by kernel_rfl) (fun _ _ _ h => nomatch h.1) ?hb173 ?rb173
        case hb173 => (intro w; go_simp; first | done | (with_reducible rfl))
        refine tk 6 ?vb174 rfl (by kernel_rfl) (fun _ _ _ h => nomatch h.1) ?hb174 ?rb174
        case hb174 => (intro w; go_simp; first | done | (with_reducible rfl))
        refine tk 7 ?vb175 rfl (by kernel_rfl) (fun _ _ _ h => nomatch h.1) ?hb175 ?rb175
        case hb175 => (intro w; go_simp; first | done | (with_reducible rfl))
        go_simp
        refine wpAny_ready (rs := [10]) (by kernel_rfl) (by simp) ?_
        refine AllReady.cons rfl (fun K hK => ?_) AllReady.nil
        obtain ⟨c0, c1, c2, c3, c4, c5⟩ := box6 HA.out
        obtain ⟨f0, f1, f2, f3, f4, f5⟩ := frz6 HA.out
        have hl := blk_lt HA.out
        go_simp
        refine hK _ _ ?_
        clear hK K c0 c1 c2 c3 c4 c5 f0 f1 f2 f3 f4 f5
        obtain ⟨bX5, hD⟩ : ∃ W, W = ((((((bX4).setCell ⟨bX2.heap.size, 0, none⟩ (S [])).setCell ⟨bX2.heap.size, 1, none⟩ (S (l404 ++ s4))).setCell ⟨bX2.heap.size, 2, none⟩ (.bool true)).setCell ⟨bX2.heap.size, 3, none⟩ (.bool false)).setCell ⟨bX2.heap.size, 4, none⟩ (.bool false)).setCell ⟨bX2.heap.size, 5, none⟩ (.int .u64 6) := ⟨_, rfl⟩
        rw [← hD]
        obtain ⟨hk, hg⟩ := put6 HA.out _ _ _ _ _ _ hD
        have hb := grown_below HF.out.b hg GHA.out hl
        have HK := Lib.hid ((hg.block _ (blk_lt HF.out.k) (fun e => NHAHF.out (by injection e))).trans HF.out.k)
        have HB := Lib.hid hb
        replace HZ := Lib.hid ((hg.block _ (blk_lt HZ.out) (fun e => NHAHZ.out (by injection e))).trans HZ.out)
        replace HA := Lib.hid hk
        clear hk hg hD hl hb
        refine wpAny_ready (rs := [11]) (by kernel_rfl) (by simp) ?_
        refine AllReady.cons rfl (fun K hK => ?_) AllReady.nil
        obtain ⟨c0, c1⟩ := box2 HZ.out
        obtain ⟨f0, f1⟩ := box2' HZ.out
        have hl := blk_lt HZ.out
        go_simp
        refine hK _ _ ?_
        clear hK K c0 c1 f0 f1
        obtain ⟨bX6, hD⟩ : ∃ W, W = ((bX5).setCell ⟨bX0.heap.size, 0, none⟩ (.int .u8 0)).setCell ⟨bX0.heap.size, 1, none⟩ (.slice none 0 0) := ⟨_, rfl⟩
        rw [← hD]
        obtain ⟨hk, hg⟩ := put2 HZ.out _ _ hD
        have hb := grown_below HB.out hg GHZ.out hl
        replace HK := Lib.hid ((hg.block _ (blk_lt HK.out) (fun e => NHZHF.out (by injection e))).trans HK.out)
        replace HB := Lib.hid hb
        replace HA := Lib.hid ((hg.block _ (blk_lt HA.out) (fun e => NHAHZ.out (by injection e with e; exact e.symm))).trans HA.out)
        replace HZ := Lib.hid hk
        clear hk hg hD hl hb
        refine wpAny_ready (rs := [12]) (by kernel_rfl) (by simp) ?_
        refine AllReady.cons rfl (fun K hK => ?_) AllReady.nil
        go_simp
        refine hK _ _ ?_
        clear hK K
        refine wpAny_ready (rs := [13]) (by kernel_rfl) (by simp) ?_
        refine AllReady.cons rfl (fun K hK => ?_) AllReady.nil
        go_simp
        refine hK _ _ ?_
        clear hK K
        refine wpAny_done (by kernel_rfl) ?_ _
        go_simp
        exact ⟨rfl, HB.out, HK.out, _, HA.out, _, _, _, _, _, _, _, _, _, rfl⟩
      refine AllReady.cons rfl (fun K hK => ?_) AllReady.nil
      go_simp
      refine hK _ _ ?_
      clear hK K
      obtain ⟨bX3, hD, hbD, hF⟩ := alcx bX2 #[S [], S [], .bool false, .bool false, .bool false, .int .u64 0] 24
      rw [← hD]
      have GHA := Lib.hid HF.out.b.size
      have NHAHF := Lib.hid (Nat.ne_of_lt (blk_lt HF.out.k))
      have NHAHZ := Lib.hid (Nat.ne_of_lt (blk_lt HZ.out))
      replace HF := Lib.hid (HF.out.under hbD)
      replace HZ := Lib.hid (blk_under HZ.out hbD)
      have HA := Lib.hid hF
      clear hbD hD hF
      refine wpAny_ready (rs := [0]) (by kernel_rfl) (by simp) ?_
      refine AllReady.cons rfl (fun K hK => ?_) AllReady.nil
      obtain ⟨c0, c1, c2, c3, c4, c5⟩ := box6 HF.out.k
      have hl := blk_lt HF.out.k
      go_simp
      refine hK _ _ ?_
      clear hK K c0 c1 c2 c3 c4 c5 hl
      refine wpAny_ready (rs := [2]) (by kernel_rfl) (by simp) ?_
      refine AllReady.cons rfl (fun K hK => ?_) AllReady.nil
      go_simp
      go_at_call 10
      refine (lk_b bX3 s4 Hs4.out Hs4l.out HF.out.t).mono ?_
      rintro e bX4 ⟨rfl, hbD⟩
      replace HF := Lib.hid (HF.out.under hbD)
      replace HZ := Lib.hid (blk_under HZ.out hbD)
      replace HA := Lib.hid (blk_under HA.out hbD)
      clear hbD
      refine hK _ _ ?_
      clear hK K
      refine tk 3 ?vb176 rfl (by kernel_rfl) (fun _ _ _ h => nomatch h.1) ?hb176 ?rb176
      case hb176 => (intro w; go_simp; first | done | (with_reducible rfl))
      refine tk 4 ?vb177 rfl (by kernel_rfl) (fun _ _ _ h => nomatch h.1) ?hb177 ?rb177
      case hb177 => (intro w; go_simp; first | done | (with_reducible rfl))
      refine tk 5 ?vb178 rfl (by kernel_rfl) (fun _ _ _ h => nomatch h.1) ?hb178 ?rb178
      case hb178 => (intro w; go_simp; first | done | (with_reducible rfl))
      refine tk 6 ?vb179 rfl (by kernel_rfl) (fun _ _ _ h => nomatch h.1) ?hb179 ?rb179
      case hb179 => (intro w; go_simp; first | done | (with_reducible rfl))
      refine tk 7 ?vb180 rfl (by kernel_rfl) (fun _ _ _ h => nomatch h.1) ?hb180 ?rb180
      case hb180 => (intro w; go_simp; first | done | (with_reducible rfl))
      go_simp
      refine wpAny_ready (rs := [10]) (by kernel_rfl) (by simp) ?_
      refine AllReady.cons rfl (fun K hK => ?_) AllReady.nil
      obtain ⟨c0, c1, c2, c3, c4, c5⟩ := box6 HA.out
      obtain ⟨f0, f1, f2, f3, f4, f5⟩ := frz6 HA.out
      have hl := blk_lt HA.out
      go_simp
      refine hK _ _ ?_
      clear hK K c0 c1 c2 c3 c4 c5 f0 f1 f2 f3 f4 f5
      obtain ⟨bX5, hD⟩ : ∃ W, W = ((((((bX4).setCell ⟨bX2.heap.size, 0, none⟩ (S [])).setCell ⟨bX2.heap.size, 1, none⟩ (S (l404 ++ s4))).setCell ⟨bX2.heap.size, 2, none⟩ (.bool true)).setCell ⟨bX2.heap.size, 3, none⟩ (.bool false)).setCell ⟨bX2.heap.size, 4, none⟩ (.bool false)).setCell ⟨bX2.heap.size, 5, none⟩ (.int .u64 6) := ⟨_, rfl⟩
      rw [← hD]
      obtain ⟨hk, hg⟩ := put6 HA.out _ _ _ _ _ _ hD
      have hb := grown_below HF.out.b hg GHA.out hl
      have HK := Lib.hid ((hg.block _ (blk_lt HF.out.k) (fun e => NHAHF.out (by injection e))).trans HF.out.k)
      have HB := Lib.hid hb
      replace HZ := Lib.hid ((hg.block _ (blk_lt HZ.out) (fun e => NHAHZ.out (by injection e))).trans HZ.out)
      replace HA := Lib.hid hk
      clear hk hg hD hl hb
      refine wpAny_ready (rs := [11]) (by kernel_rfl) (by simp) ?_
      refine AllReady.cons rfl (fun K hK => ?_) AllReady.nil
      obtain ⟨c0, c1⟩ := box2 HZ.out
      obtain ⟨f0, f1⟩ := box2' HZ.out
      have hl := blk_lt HZ.out
      go_simp
      refine hK _ _ ?_
      clear hK K c0 c1 f0 f1
      obtain ⟨bX6, hD⟩ : ∃ W, W = ((bX5).setCell ⟨bX0.heap.size, 0, none⟩ (.int .u8 0)).setCell ⟨bX0.heap.size, 1, none⟩ (.slice none 0 0) := ⟨_, rfl⟩
      rw [← hD]
      obtain ⟨hk, hg⟩ := put2 HZ.out _ _ hD
      have hb := grown_below HB.out hg GHZ.out hl
      replace HK := Lib.hid ((hg.block _ (blk_lt HK.out) (fun e => NHZHF.out (by injection e))).trans HK.out)
      replace HB := Lib.hid hb
      replace HA := Lib.hid ((hg.block _ (blk_lt HA.out) (fun e => NHAHZ.out (by injection e with e; exact e.symm))).trans HA.out)
      replace HZ := Lib.hid hk
      clear hk hg hD hl hb
      refine wpAny_ready (rs := [12]) (by kernel_rfl) (by simp) ?_
      refine AllReady.cons rfl (fun K hK => ?_) AllReady.nil
      go_simp
      refine hK _ _ ?_
      clear hK K
      refine wpAny_ready (rs := [13]) (by kernel_rfl) (by simp) ?_
      refine AllReady.cons rfl (fun K hK => ?_) AllReady.nil
      go_simp
      refine hK _ _ ?_
      clear hK K
      refine wpAny_done (by kernel_rfl) ?_ _
      go_simp
      exact ⟨rfl, HB.out, HK.out, _, HA.out, _, _, _, _, _, _, _, _, _, rfl⟩
    refine AllReady.cons rfl (fun K hK => ?_) AllReady.nil
    go_simp
    refine hK _ _ ?_
    clear hK K
    obtain ⟨bX2, hD, hbD, hF⟩ := alcx bX1 #[S [], S [], .bool false, .bool false, .bool false, .int .u64 0] 24
    rw [← hD]
    have GHA := Lib.hid HF.out.b.size
    have NHAHF := Lib.hid (Nat.ne_of_lt (blk_lt HF.out.k))
    have NHAHZ := Lib.hid (Nat.ne_of_lt (blk_lt HZ.out))
    replace HF := Lib.hid (HF.out.under hbD)
    replace HZ := Lib.hid (blk_under HZ.out hbD)
    have HA := Lib.hid hF
    clear hbD hD hF
    refine wpAny_ready (rs := [0, 1]) (by kernel_rfl) (by simp) ?_
    refine AllReady.cons rfl (fun K hK => ?_) ?_
    · skip
      obtain ⟨c0, c1, c2, c3, c4, c5⟩ := box6 HF.out.k
      have hl := blk_lt HF.out.k
      go_simp
      refine hK _ _ ?_
      clear hK K c0 c1 c2 c3 c4 c5 hl
      refine wpAny_ready (rs := [1]) (by kernel_rfl) (by simp) ?_
      refine AllReady.cons rfl (fun K hK => ?_) AllReady.nil
      go_simp
      go_at_call 9
      refine (cn_rules bX2).mono ?_
      rintro e bX3 ⟨rfl, hbD⟩
      replace HF := Lib.hid (HF.out.under hbD)
      replace HZ := Lib.hid (blk_under HZ.out hbD)
      replace HA := Lib.hid (blk_under HA.out hbD)
      clear hbD
      refine hK _ _ ?_
      clear hK K
      refine wpAny_ready (rs := [2]) (by kernel_rfl) (by simp) ?_
      refine AllReady.cons rfl (fun K hK => ?_) AllReady.nil
      go_simp
      go_at_call 10
      refine (lk_b bX3 s4 Hs4.out Hs4l.out HF.out.t).mono ?_
      rintro e bX4 ⟨rfl, hbD⟩
      replace HF := Lib.hid (HF.out.under hbD)
      replace HZ := Lib.hid (blk_under HZ.out hbD)
      replace HA := Lib.hid (blk_under HA.out hbD)
      clear hbD
      refine hK _ _ ?_
      clear hK K
      refine tk 3 ?vb181 rfl (by kernel_rfl) (fun _ _ _ h => nomatch h.1) ?hb181 ?rb181
      case hb181 => (intro w; go_simp; first | done | (with_reducible rfl))
      refine tk 4 ?vb182 rfl (by kernel_rfl) (fun _ _ _ h => nomatch h.1) ?hb182 ?rb182
      case hb182 => (intro w; go_simp; first | done | (with_reducible rfl))
      refine tk 5 ?vb183 rfl (by kernel_rfl) (fun _ _ _ h => nomatch h.1) ?hb183 ?rb183
      case hb183 => (intro w; go_simp; first | done | (with_reducible rfl))
      refine tk 6 ?vb184 rfl (by kernel_rfl) (fun _ _ _ h => nomatch h.1) ?hb184 ?rb184
      case hb184 => (intro w; go_simp; first | done | (with_reducible rfl))
      refine tk 7 ?vb185 rfl (by kernel_rfl) (fun _ _ _ h => nomatch h.1) ?hb185 ?rb185
      case hb185 => (intro w; go_simp; first | done | (with_reducible rfl))
      go_simp
      refine wpAny_ready (rs := [10]) (by kernel_rfl) (by simp) ?_
      refine AllReady.cons rfl (fun K hK => ?_) AllReady.nil
      obtain ⟨c0, c1, c2, c3, c4, c5⟩ := box6 HA.out
      obtain ⟨f0, f1, f2, f3, f4, f5⟩ := frz6 HA.out
      have hl := blk_lt HA.out
      go_simp
      refine hK _ _ ?_
      clear hK K c0 c1 c2 c3 c4 c5 f0 f1 f2 f3 f4 f5
      obtain ⟨bX5, hD⟩ : ∃ W, W = ((((((bX4).setCell ⟨bX1.heap.size, 0, none⟩ (S [])).setCell ⟨bX1.heap.size, 1, none⟩ (S (l404 ++ s4))).setCell ⟨bX1.heap.size, 2, none⟩ (.bool true)).setCell ⟨bX1.heap.size, 3, none⟩ (.bool false)).setCell ⟨bX1.heap.size, 4, none⟩ (.bool false)).setCell ⟨bX1.heap.size, 5, none⟩ (.int .u64 6) := ⟨_, rfl⟩
      rw [← hD]
      obtain ⟨hk, hg⟩ := put6 HA.out _ _ _ _ _ _ hD
      have hb := grown_below HF.out.b hg GHA.out hl
      have HK := Lib.hid ((hg.block _ (blk_lt HF.out.k) (fun e => NHAHF.out (by injection e))).trans HF.out.k)
      have HB := Lib.hid hb
      replace HZ := Lib.hid ((hg.block _ (blk_lt HZ.out) (fun e => NHAHZ.out (by injection e))).trans HZ.out)
      replace HA := Lib.hid hk
      clear hk hg hD hl hb
      refine wpAny_ready (rs := [11]) (by kernel_rfl) (by simp) ?_
      refine AllReady.cons rfl (fun K hK => ?_) AllReady.nil
      obtain ⟨c0, c1⟩ := box2 HZ.out
      obtain ⟨f0, f1⟩ := box2' HZ.out
      have hl := blk_lt HZ.out
      go_simp
      refine hK _ _ ?_
      clear hK K c0 c1 f0 f1
      obtain ⟨bX6, hD⟩ : ∃ W, W = ((bX5).setCell ⟨bX0.heap.size, 0, none⟩ (.int .u8 0)).setCell ⟨bX0.heap.size, 1, none⟩ (.slice none 0 0) := ⟨_, rfl⟩
      rw [← hD]
      obtain ⟨hk, hg⟩ := put2 HZ.out _ _ hD
      have hb := grown_below HB.out hg GHZ.out hl
      replace HK := Lib.hid ((hg.block _ (blk_lt HK.out) (fun e => NHZHF.out (by injection e))).trans HK.out)
      replace HB := Lib.hid hb
      replace HA := Lib.hid ((hg.block _ (blk_lt HA.out) (fun e => NHAHZ.out (by injection e with e; exact e.symm))).trans HA.out)
      replace HZ := Lib.hid hk
      clear hk hg hD hl hb
      refine wpAny_ready (rs := [12]) (by kernel_rfl) (by simp) ?_
      refine AllReady.cons rfl (fun K hK => ?_) AllReady.nil
      go_simp
      refine hK _ _ ?_
      clear hK K
      refine wpAny_ready (rs := [13]) (by kernel_rfl) (by simp) ?_
      refine AllReady.cons rfl (fun K hK => ?_) AllReady.nil
      go_simp
      refine hK _ _ ?_
      clear hK K
      refine wpAny_done (by kernel_rfl) ?_ _
      go_simp
      exact ⟨rfl, HB.out, HK.out, _, HA.out, _, _, _, _, _, _, _, _, _, rfl⟩
    refine AllReady.cons rfl (fun K hK => ?_) AllReady.nil
    go_simp
    go_at_call 9
    refine (cn_rules bX2).mono ?_
    rintro e bX3 ⟨rfl, hbD⟩
    replace HF := Lib.hid (HF.out.under hbD)
    replace HZ := Lib.hid (blk_under HZ.out hbD)
    replace HA := Lib.hid (blk_under HA.out hbD)
    clear hbD
    refine hK _ _ ?_
    clear hK K
    refine wpAny_ready (rs := [0]) (by kernel_rfl) (by simp) ?_
    refine AllReady.cons rfl (fun K hK => ?_) AllReady.nil
    obtain ⟨c0, c1, c2, c3, c4, c5⟩ := box6 HF.out.k
    have hl := blk_lt HF.out.k
    go_simp
    refine hK _ _ ?_
    clear hK K c0 c1 c2 c3 c4 c5 hl
    refine wpAny_ready (rs := [2]) (by kernel_rfl) (by simp) ?_
    refine AllReady.cons rfl (fun K hK => ?_) AllReady.nil
    go_simp
    go_at_call 10
    refine (lk_b bX3 s4 Hs4.out Hs4l.out HF.out.t).mono ?_
    rintro e bX4 ⟨rfl, hbD⟩
    replace HF := Lib.hid (HF.out.under hbD)
    replace HZ := Lib.hid (blk_under HZ.out hbD)
    replace HA := Lib.hid (blk_under HA.out hbD)
    clear hbD
    refine hK _ _ ?_
    clear hK K
    refine tk 3 ?vb186 rfl (by kernel_rfl) (fun _ _ _ h => nomatch h.1) ?hb186 ?rb186
    case hb186 => (intro w; go_simp; first | done | (with_reducible rfl))
    refine tk 4 ?vb187 rfl (by kernel_rfl) (fun _ _ _ h => nomatch h.1) ?hb187 ?rb187
    case hb187 => (intro w; go_simp; first | done | (with_reducible rfl))
    refine tk 5 ?vb188 rfl (by kernel_rfl) (fun _ _ _ h => nomatch h.1) ?hb188 ?rb188
    case hb188 => (intro w; go_simp; first | done | (with_reducible rfl))
    refine tk 6 ?vb189 rfl (by kernel_rfl) (fun _ _ _ h => nomatch h.1) ?hb189 ?rb189
    case hb189 => (intro w; go_simp; first | done | (with_reducible rfl))
    refine tk 7 ?vb190 rfl (by kernel_rfl) (fun _ _ _ h => nomatch h.1) ?hb190 ?rb190
    case hb190 => (intro w; go_simp; first | done | (with_reducible rfl))
    go_simp
    refine wpAny_ready (rs := [10]) (by kernel_rfl) (by simp) ?_
    refine AllReady.cons rfl (fun K hK => ?_) AllReady.nil
    obtain ⟨c0, c1, c2, c3, c4, c5⟩ := box6 HA.out
    obtain ⟨f0, f1, f2, f3, f4, f5⟩ := frz6 HA.out
    have hl := blk_lt HA.out
    go_simp
    refine hK _ _ ?_
    clear hK K c0 c1 c2 c3 c4 c5 f0 f1 f2 f3 f4 f5
    obtain ⟨bX5, hD⟩ : ∃ W, W = ((((((bX4).setCell ⟨bX1.heap.size, 0, none⟩ (S [])).setCell ⟨bX1.heap.size, 1, none⟩ (S (l404 ++ s4))).setCell ⟨bX1.heap.size, 2, none⟩ (.bool true)).setCell ⟨bX1.heap.size, 3, none⟩ (.bool false)).setCell ⟨bX1.heap.size, 4, none⟩ (.bool false)).setCell ⟨bX1.heap.size, 5, none⟩ (.int .u64 6) := ⟨_, rfl⟩
    rw [← hD]
    obtain ⟨hk, hg⟩ := put6 HA.out _ _ _ _ _ _ hD
    have hb := grown_below HF.out.b hg GHA.out hl
    have HK := Lib.hid ((hg.block _ (blk_lt HF.out.k) (fun e => NHAHF.out (by injection e))).trans HF.out.k)
    have HB := Lib.hid hb
    replace HZ := Lib.hid ((hg.block _ (blk_lt HZ.out) (fun e => NHAHZ.out (by injection e))).trans HZ.out)
    replace HA := Lib.hid hk
    clear hk hg hD hl hb
    refine wpAny_ready (rs := [11]) (by kernel_rfl) (by simp) ?_
    refine AllReady.cons rfl (fun K hK => ?_) AllReady.nil
    obtain ⟨c0, c1⟩ := box2 HZ.out
    obtain ⟨f0, f1⟩ := box2' HZ.out
    have hl := blk_lt HZ.out
    go_simp
    refine hK _ _ ?_
    clear hK K c0 c1 f0 f1
    obtain ⟨bX6, hD⟩ : ∃ W, W = ((bX5).setCell ⟨bX0.heap.size, 0, none⟩ (.int .u8 0)).setCell ⟨bX0.heap.size, 1, none⟩ (.slice none 0 0) := ⟨_, rfl⟩
    rw [← hD]
    obtain ⟨hk, hg⟩ := put2 HZ.out _ _ hD
    have hb := grown_below HB.out hg GHZ.out hl
    replace HK := Lib.hid ((hg.block _ (blk_lt HK.out) (fun e => NHZHF.out (by injection e))).trans HK.out)
    replace HB := Lib.hid hb
    replace HA := Lib.hid ((hg.block _ (blk_lt HA.out) (fun e => NHAHZ.out (by injection e with e; exact e.symm))).trans HA.out)
    replace HZ := Lib.hid hk
    clear hk hg hD hl hb
    refine wpAny_ready (rs := [12]) (by kernel_rfl) (by simp) ?_
    refine AllReady.cons rfl (fun K hK => ?_) AllReady.nil
    go_simp
    refine hK _ _ ?_
    clear hK K
    refine wpAny_ready (rs := [13]) (by kernel_rfl) (by simp) ?_
    refine AllReady.cons rfl (fun K hK => ?_) AllReady.nil
    go_simp
    refine hK _ _ ?_
    clear hK K
    refine wpAny_done (by kernel_rfl) ?_ _
    go_simp
    exact ⟨rfl, HB.out, HK.out, _, HA.out, _, _, _, _, _, _, _, _, _, rfl⟩
  case post2 =>
  rintro e a' T ⟨rfl, hb, hk, g6, hk6, u7, u24, u25, u26, u27, u28, u29, u30, u31, rfl⟩
  have hch := cn_check T ⟨lB, l404, false, false, false, 6⟩ (-1) 0
  rw [show chk ⟨lB, l404, false, false, false, 6⟩ (-1) = 2 from lChk3] at hch
  have Hch := Lib.hid hch
  have HB := Lib.hid hb
  obtain ⟨c0, c1, c2, c3, c4, c5⟩ := box6 hk
  obtain ⟨d0, d1, d2, d3, d4, d5⟩ := box6 hk6
  have hl1 := blk_lt hk
  have hl2 := blk_lt hk6
  clear hb hk hk6 hch
  go_wp2_with (go_at_call 11; refine Hch.out.mono ?_; rintro e T2 ⟨rfl, hb3⟩)
  go_ret
  exact ⟨rfl, HB.out.trans (hb3.mono HB.out.size)⟩
end Go.Proofs.YtomicdkmbgckkaaGreatDoor
