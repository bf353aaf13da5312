/- QUEUE: THE WALK OVER put. -/
import Derived.Test.YtlgbehagflnfgaaGreatDoorKaq
namespace Go.Proofs.YtlgbehagflnfgaaGreatDoor
open Go.RowKit
set_option maxRecDepth 100000
set_option linter.unusedVariables false
set_option linter.unusedSimpArgs false

abbrev ecells (e : E) : Array Value := #[.int .u64 (e.seq : Int), .string e.data, .bool e.leased]
theorem app_entry (X : World) (base : Nat) (v : Value) (l : List E) (s : E) (hb : base ≤ X.heap.size) (hrow : ERow X base v l) (hn : l.length ≤ 2000) :
  ∃ v' w', (Builtin.append_ #[28, 28] 28 #[v, .slice (some ⟨X.heap.size, 0, none⟩) 1 1]).run Tryz.prog (X.alloc (.cells (ecells s) 39)) = .ok v' w' ∧ ERow w' base v' (l ++ [s]) ∧ (X.alloc (.cells (ecells s) 39)).grownBy w' v.ownBlock ∧ (v'.ownBlock = v.ownBlock ∨ ∃ b, v'.ownBlock = some b ∧ X.heap.size + 1 ≤ b) := by
 obtain ⟨i0, hi, hz0, hz1, hz2⟩ := info_parts Tryz.info39
 have hblk := blk_new X (.cells (ecells s) 39)
 have hcell : ∀ j u, (ec s)[j]? = some u → (X.alloc (.cells (ecells s) 39)).cell? ((⟨X.heap.size, 0, none⟩ : Addr).add j) = some u := fun j u hj => by
  have h0 := cell_of_row _ X.heap.size j _ 39 (0, 0) hblk
  rw [Addr.add_lit, Nat.zero_add, h0]
  simpa [ec] using hj
 obtain ⟨v', w', hr, ho, hg, _, hob⟩ := run_append_own_at (P := Tryz.prog) (X.alloc (.cells (ecells s) 39)) base 28 28 39 i0 _ 3 32 Tryz.underlying28 hi hz0 hz1 hz2 rfl (by decide) v l.length _ (World.ownsRow.alloc hrow _) ⟨X.heap.size, 0, none⟩ 1 1 (ec s) (by simp [ec]) hcell (fun u hu => by
  simp only [ec, List.mem_cons, List.not_mem_nil, or_false] at hu
  rcases hu with rfl | rfl | rfl <;> rfl) (by simp [maxLen]; omega) (by omega) (by simp; omega)
 refine ⟨v', w', hr, ?_, hg, ?_⟩
 ·refine ERow.of_own (n := l.length + 1) ?_
  rw [List.flatMap_append, List.flatMap_singleton]
  exact ho
 ·rcases hob with e | e
  ·exact .inl e
  ·exact .inr ⟨_, e, by simp⟩
/-- other entries are stored in a queue's box -/
theorem QAt.ents {X w' : World} {base g : Nat} {ad : Option Addr} {n cap : Nat} {u : Value} {q : Q} (h : QAt X base g ad n cap u q) (hg : X.grownBy w' u.ownBlock) {u' : Value} {es' : List E} (hrow : ERow w' base u' es') (ho : OwnOr X u u') (hfit : ∀ e ∈ es', EFit e) :
  QAt (w'.setCell ⟨g, 8, none⟩ u') base g ad n cap u' ⟨q.l, es', q.most⟩ ∧ Kq g u X (w'.setCell ⟨g, 8, none⟩ u') := by
 have hgl := h.lt
 have hbox : w'.heap[g]? = some (.cells (q.cells (.slice ad n cap) u) 127 (0, 0)) := (hg.block g hgl (fun e => h.uo e.symm)).trans h.h
 have hug : u'.ownBlock ≠ some g := fun e => by
  rcases ho g e with q1 | q1
  ·exact h.uo q1
  ·omega
 refine ⟨⟨heap_setCell_same w' g 8 _ 127 _ hbox, ⟨⟨((h.l.d.i.same (w' := w') (fun b e => hg.block b (h.vl b e) (fun e2 => h.vu b e e2.symm))).set h.vo).mono (by simp [World.setCell]; exact hg.size), h.l.d.fit, h.l.d.u0, h.l.d.u1, h.l.d.f0, h.l.d.f1⟩, h.l.s0, h.l.s1, h.l.f0, h.l.f1, h.l.n0, h.l.n1⟩, h.vo, hrow.set_far _ hug, hug, fun b e e2 => ?_, fun b e => ?_, h.vb, h.bg, hfit, h.m⟩, ?_⟩
 ·have := h.vl b e
  rcases ho b e2 with q1 | q1
  ·exact h.vu b e q1
  ·omega
 ·have := h.vl b e
  have := hg.size
  simp [World.setCell]; omega
 ·exact ⟨hg.os, hg.tape, hg.output, by simp [World.setCell]; exact hg.size, fun k hk h1 h2 => (Below.heap_setCell w' ⟨g, 8, none⟩ u' k (by simp only; exact h1)).trans (hg.block k hk (fun e => h2 e.symm))⟩

set_option maxHeartbeats 8000000 in
theorem put_any (w : World) (base g : Nat) (ad : Option Addr) (n cap : Nat) (u : Value) (q : Q) (data : ByteArray) (hds : data.size ≤ 9223372036854775000) (h : QAt w base g ad n cap u q) (h64 : q.es.length ≤ 1999) (hR : LRight q.l) (hbr : q.l.broken = false) (hT : Tabs w) (hw : 3 < w.heap.size) (hbase : base ≤ w.heap.size) :
  Calls Tryz.prog 40 #[.pointer (some ⟨g, 0, none⟩), .string data] w fun e w' => Ends (putM q data).2.2 (.int .u64 ((putM q data).2.1.seq : Int)) e ∧ Left w base g u (putM q data).1 w' := by
 have hd : Below w.heap.size w w.drew := (Below.refl _ w).drew
 have H0 := h.under hd
 have H := Lib.hid H0
 have Hd := Lib.hid hd
 have HR := Lib.hid hR
 have Hbr := Lib.hid hbr
 have HT := Lib.hid (hT.under hd)
 obtain ⟨adu, capu, hu, hE⟩ := EIn.of_row h.row
 subst hu
 clear hE
 obtain ⟨N, hN⟩ : ∃ N, q.es.length = N := ⟨_, rfl⟩
 have hm0 := h.m
 rw [hN] at h H H0 h64 ⊢
 have HN := Lib.hid hN
 obtain ⟨d0, d1, d2, d3, d4, d5, d6, d7, d8, d9⟩ := box10 H0.h
 have hlg := H0.lt
 obtain ⟨X, hX⟩ : ∃ X, w.drew = X := ⟨_, rfl⟩
 rw [hX] at H Hd HT d0 d1 d2 d3 d4 d5 d6 d7 d8 d9 hlg
 have hXw : 3 < X.heap.size := by rw [← hX]; exact hw
 have HbX := Lib.hid (show base ≤ X.heap.size by rw [← hX]; exact hbase)
 have hnx0 := h.l.n0
 have hnx1 := h.l.n1
 obtain ⟨M, hM⟩ : ∃ M, q.most = M := ⟨_, rfl⟩
 rw [hM] at d9 hm0
 have HM := Lib.hid hM
 obtain ⟨m0, m1⟩ := hm0
 clear h H0 hd hN hR hbr hT hM
 by_cases hm : M ≤ (N : Int)
 ·have hfull : putM q data = (q, zE, 8) := by unfold putM; rw [if_pos (by rw [HM.out, HN.out]; exact hm)]
  have Hm := Lib.hid hfull
  have hdec : decide ((N : Int) < M) = false := by simp; omega
  have hdec2 : ¬ (N : Int) < M := by omega
  clear hfull hm
  go_enter Tryz.func40, Tryz.ntmps40
  go_upto_region 1 with (fail)
  refine wp_region_any (by kernel_rfl) ?_
  change wpAny _ _ _ _ _ _ _ w.drew
  rw [hX]
  clear hX
  refine wpAny_take (i := 0) (v := ?va1) rfl (by kernel_rfl) (by kernel_rfl) (by kernel_rfl) (fun _ _ _ h => h) (Or.inl ⟨by kernel_rfl, ?ha1⟩) ?ra1
  case ha1 => (intro w; go_simp; first | done | (with_reducible rfl))
  refine wpAny_take (i := 1) (v := ?va2) rfl (by kernel_rfl) (by kernel_rfl) (by kernel_rfl) (fun _ _ _ h => h) (Or.inl ⟨by kernel_rfl, ?ha2⟩) ?ra2
  case ha2 => (intro w; go_simp; first | done | (with_reducible rfl))
  refine wpAny_take (i := 2) (v := ?va3) rfl (by kernel_rfl) (by kernel_rfl) (by kernel_rfl) (fun _ _ _ h => h) (Or.inl ⟨by kernel_rfl, ?ha3⟩) ?ra3
  case ha3 => (intro w; go_simp; first | done | (with_reducible rfl))
  refine wpAny_take (i := 3) (v := ?va4) rfl (by kernel_rfl) (by kernel_rfl) (by kernel_rfl) (fun _ _ _ h => h) (Or.inl ⟨by kernel_rfl, ?ha4⟩) ?ra4
  case ha4 => (intro w; go_simp; first | done | (with_reducible rfl))
  refine wpAny_take (i := 6) (v := ?va5) rfl (by kernel_rfl) (by kernel_rfl) (by kernel_rfl) (fun _ _ _ h => h) (Or.inl ⟨by kernel_rfl, ?ha5⟩) ?ra5
  case ha5 => (intro w; go_simp; first | done | (with_reducible rfl))
  refine wpAny_take (i := 7) (v := ?va6) rfl (by kernel_rfl) (by kernel_rfl) (by kernel_rfl) (fun _ _ _ h => h) (Or.inl ⟨by kernel_rfl, ?ha6⟩) ?ra6
  case ha6 => (intro w; go_simp; first | done | (with_reducible rfl))
  refine wpAny_take (i := 8) (v := ?va7) rfl (by kernel_rfl) (by kernel_rfl) (by kernel_rfl) (fun _ _ _ h => h) (Or.inl ⟨by kernel_rfl, ?ha7⟩) ?ra7
  case ha7 => (intro w; go_simp; first | done | (with_reducible rfl))
  refine wpAny_take (i := 9) (v := ?va8) rfl (by kernel_rfl) (by kernel_rfl) (by kernel_rfl) (fun _ _ _ h => h) (Or.inl ⟨by kernel_rfl, ?ha8⟩) ?ra8
  case ha8 => (intro w; go_simp; first | done | (with_reducible rfl))
  refine wpAny_ready (rs := [4, 10]) (by kernel_rfl) (by simp) ?_
  refine AllReady.cons rfl (fun K hK => ?_) ?_
  ·skip
   go_simp
   refine hK _ _ ?_
   clear hK K
   refine wpAny_take (i := 5) (v := ?va9) rfl (by kernel_rfl) (by kernel_rfl) (by kernel_rfl) (fun _ _ _ h => h) (Or.inl ⟨by kernel_rfl, ?ha9⟩) ?ra9
   case ha9 => (intro w; go_simp; first | done | (with_reducible rfl))
   refine wpAny_ready (rs := [10]) (by kernel_rfl) (by simp) ?_
   refine AllReady.cons rfl (fun K hK => ?_) AllReady.nil
   go_simp
   refine hK _ _ ?_
   clear hK K
   refine wpAny_take (i := 11) (v := ?va10) rfl (by kernel_rfl) (by kernel_rfl) (by kernel_rfl) (fun _ _ _ h => h) (Or.inl ⟨by kernel_rfl, ?ha10⟩) ?ra10
   case ha10 => (intro w; go_simp; first | done | (with_reducible rfl))
   refine wpAny_ready (rs := [12]) (by kernel_rfl) (by simp) ?_
   refine AllReady.cons rfl (fun K hK => ?_) AllReady.nil
   go_simp
   go_at_call 76
   refine (unless_no 8 X).mono ?_
   rintro en w1 ⟨rfl, rfl⟩
   refine ⟨rfl, ?_⟩
   rw [Hm.out]
   exact ⟨.inr ⟨by simp, rfl⟩, ad, n, cap, _, H.out, Kq.of_below Hd.out, fun b e => .inl e⟩
  refine AllReady.cons rfl (fun K hK => ?_) AllReady.nil
  go_simp
  refine hK _ _ ?_
  clear hK K
  refine wpAny_ready (rs := [4]) (by kernel_rfl) (by simp) ?_
  refine AllReady.cons rfl (fun K hK => ?_) AllReady.nil
  go_simp
  refine hK _ _ ?_
  clear hK K
  refine wpAny_take (i := 5) (v := ?va11) rfl (by kernel_rfl) (by kernel_rfl) (by kernel_rfl) (fun _ _ _ h => h) (Or.inl ⟨by kernel_rfl, ?ha11⟩) ?ra11
  case ha11 => (intro w; go_simp; first | done | (with_reducible rfl))
  refine wpAny_take (i := 11) (v := ?va12) rfl (by kernel_rfl) (by kernel_rfl) (by kernel_rfl) (fun _ _ _ h => h) (Or.inl ⟨by kernel_rfl, ?ha12⟩) ?ra12
  case ha12 => (intro w; go_simp; first | done | (with_reducible rfl))
  refine wpAny_ready (rs := [12]) (by kernel_rfl) (by simp) ?_
  refine AllReady.cons rfl (fun K hK => ?_) AllReady.nil
  go_simp
  go_at_call 76
  refine (unless_no 8 X).mono ?_
  rintro en w1 ⟨rfl, rfl⟩
  refine ⟨rfl, ?_⟩
  rw [Hm.out]
  exact ⟨.inr ⟨by simp, rfl⟩, ad, n, cap, _, H.out, Kq.of_below Hd.out, fun b e => .inl e⟩
 ·have hdec : decide ((N : Int) < M) = true := by simp; omega
  have hdec2 : (N : Int) < M := by omega
  have Hm := Lib.hid hm
  clear hm
  go_enter Tryz.func40, Tryz.ntmps40
  go_upto_region 1 with (fail)
  refine wp_region_any (by kernel_rfl) ?_
  change wpAny _ _ _ _ _ _ _ w.drew
  rw [hX]
  clear hX
  refine wpAny_take (i := 0) (v := ?vb1) rfl (by kernel_rfl) (by kernel_rfl) (by kernel_rfl) (fun _ _ _ h => h) (Or.inl ⟨by kernel_rfl, ?hb1⟩) ?rb1
  case hb1 => (intro w; go_simp; first | done | (with_reducible rfl))
  refine wpAny_take (i := 1) (v := ?vb2) rfl (by kernel_rfl) (by kernel_rfl) (by kernel_rfl) (fun _ _ _ h => h) (Or.inl ⟨by kernel_rfl, ?hb2⟩) ?rb2
  case hb2 => (intro w; go_simp; first | done | (with_reducible rfl))
  refine wpAny_take (i := 2) (v := ?vb3) rfl (by kernel_rfl) (by kernel_rfl) (by kernel_rfl) (fun _ _ _ h => h) (Or.inl ⟨by kernel_rfl, ?hb3⟩) ?rb3
  case hb3 => (intro w; go_simp; first | done | (with_reducible rfl))
  refine wpAny_take (i := 3) (v := ?vb4) rfl (by kernel_rfl) (by kernel_rfl) (by kernel_rfl) (fun _ _ _ h => h) (Or.inl ⟨by kernel_rfl, ?hb4⟩) ?rb4
  case hb4 => (intro w; go_simp; first | done | (with_reducible rfl))
  refine wpAny_take (i := 6) (v := ?vb5) rfl (by kernel_rfl) (by kernel_rfl) (by kernel_rfl) (fun _ _ _ h => h) (Or.inl ⟨by kernel_rfl, ?hb5⟩) ?rb5
  case hb5 => (intro w; go_simp; first | done | (with_reducible rfl))
  refine wpAny_take (i := 7) (v := ?vb6) rfl (by kernel_rfl) (by kernel_rfl) (by kernel_rfl) (fun _ _ _ h => h) (Or.inl ⟨by kernel_rfl, ?hb6⟩) ?rb6
  case hb6 => (intro w; go_simp; first | done | (with_reducible rfl))
  refine wpAny_take (i := 8) (v := ?vb7) rfl (by kernel_rfl) (by kernel_rfl) (by kernel_rfl) (fun _ _ _ h => h) (Or.inl ⟨by kernel_rfl, ?hb7⟩) ?rb7
  case hb7 => (intro w; go_simp; first | done | (with_reducible rfl))
  refine wpAny_take (i := 9) (v := ?vb8) rfl (by kernel_rfl) (by kernel_rfl) (by kernel_rfl) (fun _ _ _ h => h) (Or.inl ⟨by kernel_rfl, ?hb8⟩) ?rb8
  case hb8 => (intro w; go_simp; first | done | (with_reducible rfl))
  refine wpAny_ready (rs := [4, 10]) (by kernel_rfl) (by simp) ?_
  refine AllReady.cons rfl (fun K hK => ?_) ?_
  ·skip
   go_simp
   refine hK _ _ ?_
   clear hK K
   refine wpAny_take (i := 5) (v := ?vb9) rfl (by kernel_rfl) (by kernel_rfl) (by kernel_rfl) (fun _ _ _ h => h) (Or.inl ⟨by kernel_rfl, ?hb9⟩) ?rb9
   case hb9 => (intro w; go_simp; first | done | (with_reducible rfl))
   refine wpAny_ready (rs := [10]) (by kernel_rfl) (by simp) ?_
   refine AllReady.cons rfl (fun K hK => ?_) AllReady.nil
   go_simp
   refine hK _ _ ?_
   clear hK K
   refine wpAny_take (i := 11) (v := ?vb10) rfl (by kernel_rfl) (by kernel_rfl) (by kernel_rfl) (fun _ _ _ h => h) (Or.inl ⟨by kernel_rfl, ?hb10⟩) ?rb10
   case hb10 => (intro w; go_simp; first | done | (with_reducible rfl))
   refine wpAny_ready (rs := [12]) (by kernel_rfl) (by simp) ?_
   refine AllReady.cons rfl (fun K hK => ?_) AllReady.nil
   go_simp
   go_at_call 76
   refine (unless_yes 8 X).mono ?_
   rintro en w1 ⟨rfl, rfl⟩
   refine hK _ _ ?_
   clear hK K
   refine wpAny_done (by kernel_rfl) ?_ _
   try go_simp
   by_cases hl : data.size ≤ 65535
   rotate_left
   ·have hlI : ¬ (data.size : Int) ≤ 65535 := by omega
    have hlong : putM q data = (q, zE, 4) := by unfold putM; rw [if_neg (by rw [HM.out, HN.out]; have := Hm.out; omega), if_pos (by omega)]
    have Hlong := Lib.hid hlong
    clear hlong hl
    go_wp2_with fail
    refine (unless_no 4 X).mono ?_
    rintro en w1 ⟨rfl, rfl⟩
    go_wp2
    rw [Hlong.out]
    exact ⟨rfl, .inr ⟨by simp, rfl⟩, ad, n, cap, _, H.out, Kq.of_below Hd.out, fun b e => .inl e⟩
   have hlI : (data.size : Int) ≤ 65535 := by omega
   have hcat : ¬ 9223372036854775807 < 1 + data.size := by omega
   go_wp2_with fail
   refine (unless_yes 4 X).mono ?_
   rintro en w1 ⟨rfl, rfl⟩
   have hpm : putM q data = if (appM q.l (putB data)).2 = 0 then (⟨(appM q.l (putB data)).1, q.es ++ [⟨q.l.nx.toNat, data, false⟩], q.most⟩, ⟨q.l.nx.toNat, ⟨#[]⟩, false⟩, 0) else (⟨(appM q.l (putB data)).1, q.es, q.most⟩, zE, (appM q.l (putB data)).2) := by
    unfold putM
    rw [if_neg (by rw [HM.out, HN.out]; have := Hm.out; omega), if_neg (by omega)]
   have Hpm := Lib.hid hpm
   clear hpm hl
   have hps := put_size data
   have hps2 : (putB data).size ≤ 9223372036854775807 := by omega
   clear hps
   go_wp2_with fail
   refine (write_any X base g ad n cap _ q (putB data) hps2 H.out HR.out Hbr.out HT.out hXw).mono ?_
   rintro en w1 ⟨hen, ad2, n2, cap2, hq1, hk1⟩
   obtain ⟨⟨l2, c⟩, hr⟩ : ∃ r, appM q.l (putB data) = r := ⟨_, rfl⟩
   rw [hr] at hen hq1
   have Hr := Lib.hid hr
   have H1 := Lib.hid hq1
   have HK1 := Lib.hid ((Kq.of_below Hd.out).trans hk1 (fun b e => .inl e))
   clear hr hq1 hk1 d0 d1 d2 d3 d4 d5 d6 d7 d8 d9 hlg
   rcases hen with ⟨hc, rfl⟩ | ⟨hc, rfl⟩
   rotate_left
   ·have Hc := Lib.hid hc
    clear hc
    go_wp2
    have hfin : putM q data = (⟨l2, q.es, q.most⟩, zE, c) := by rw [Hpm.out, Hr.out, if_neg Hc.out]
    rw [hfin]
    exact ⟨rfl, .inr ⟨Hc.out, rfl⟩, ad2, n2, cap2, _, H1.out, HK1.out, fun b e => .inl e⟩
   have hc : c = 0 := hc
   subst hc
   have hfin : putM q data = (⟨l2, q.es ++ [⟨q.l.nx.toNat, data, false⟩], q.most⟩, ⟨q.l.nx.toNat, ⟨#[]⟩, false⟩, 0) := by rw [Hpm.out, Hr.out, if_pos rfl]
   have Hfin := Lib.hid hfin
   clear hfin
   obtain ⟨d0, d1, d2, d3, d4, d5, d6, d7, d8, d9⟩ := box10 H1.out.h
   obtain ⟨z0, z1, z2, z3, z4, z5, z6, z7, z8, z9⟩ := frz10 H1.out.h
   have hlg := H1.out.lt
   have hb1 : base ≤ w1.heap.size := by have := H1.out.bg; omega
   obtain ⟨u3, w3, hr3, hrow3, hg3, ho3⟩ := app_entry w1 base (.slice adu N capu) q.es ⟨q.l.nx.toNat, data, false⟩ hb1 H1.out.row (by rw [HN.out]; omega)
   have hnxn : ((q.l.nx.toNat : Nat) : Int) = q.l.nx := by omega
   rw [show (ecells ⟨q.l.nx.toNat, data, false⟩) = #[.int .u64 q.l.nx, .string data, .bool false] from by show #[Value.int .u64 ((q.l.nx.toNat : Nat) : Int), _, _] = _; rw [hnxn]] at hr3
   have hbw : Below w1.heap.size w1 (w1.alloc (.cells (ecells ⟨q.l.nx.toNat, data, false⟩) 39)) := (Below.refl _ w1).alloc (Nat.le_refl _) _
   have Hfit := Lib.hid (show ∀ e ∈ q.es ++ [(⟨q.l.nx.toNat, data, false⟩ : E)], EFit e from fun e he => by
    rcases List.mem_append.1 he with q1 | q1
    ·exact H1.out.fit e q1
    ·rw [List.mem_singleton] at q1
     subst q1
     exact ⟨by show q.l.nx.toNat < _; omega, by show data.size ≤ _; omega⟩)
   have hX2 := QAt.ents (H1.out.under hbw) hg3 hrow3 (fun b e => by
    rcases ho3 with q1 | ⟨b2, q1, q2⟩
    ·exact .inl (by rw [← q1]; exact e)
    ·exact .inr (by rw [q1] at e; injection e with e; simp; omega)) Hfit.out
   obtain ⟨ad3, cap3, hv3⟩ := hrow3.form
   obtain ⟨L3, hL3⟩ : ∃ L3, (q.es ++ [(⟨q.l.nx.toNat, data, false⟩ : E)]).length = L3 := ⟨_, rfl⟩
   rw [hL3] at hv3
   subst hv3
   have hbx3 : w3.heap[g]? = some (.cells (Q.cells ⟨l2, q.es, q.most⟩ (.slice ad2 n2 cap2) (.slice adu N capu)) 127 (0, 0)) := (hg3.block g (by simp; omega) (fun e => H1.out.uo e.symm)).trans ((hbw.block g hlg).trans H1.out.h)
   have HX2 := Lib.hid hX2.1
   have HK2 := Lib.hid ((HK1.out.trans (Kq.of_below (g := g) (u := .slice adu N capu) hbw) (fun b e => .inl e)).trans hX2.2 (fun b e => .inl e))
   have HO3 := Lib.hid (show OwnOr w (.slice adu N capu) (.slice ad3 L3 cap3) from fun b e => by
    rcases ho3 with q1 | ⟨b2, q1, q2⟩
    ·exact .inl (by rw [← q1]; exact e)
    ·have h5 := HK1.out.size
     exact .inr (by rw [q1] at e; injection e with e; omega))
   have Hr3 := Lib.hid hr3
   clear hX2 hrow3 hg3 ho3 hL3 hbw hr3
   obtain ⟨_, _, _, _, _, _, _, _, e8, _⟩ := box10 hbx3
   obtain ⟨_, _, _, _, _, _, _, _, y8, _⟩ := frz10 hbx3
   have hlg3 := (Array.getElem?_eq_some_iff.1 hbx3).1
   clear hbx3
   go_wp2_with (at_builtin; refine wp_app rfl (.tmp 38) (.tmp 42) (.slice adu N capu) (.slice (some ⟨w1.heap.size, 0, none⟩) 1 1) (by rfl) (by rfl) rfl Hr3.out ?_)
   go_ret
   rw [Hfin.out]
   exact ⟨.inl ⟨rfl, by simp only [hnxn]; rfl⟩, ad2, n2, cap2, _, HX2.out, HK2.out, HO3.out⟩
  refine AllReady.cons rfl (fun K hK => ?_) AllReady.nil
  go_simp
  refine hK _ _ ?_
  clear hK K
  refine wpAny_ready (rs := [4]) (by kernel_rfl) (by simp) ?_
  refine AllReady.cons rfl (fun K hK => ?_) AllReady.nil
  go_simp
  refine hK _ _ ?_
  clear hK K
  refine wpAny_take (i := 5) (v := ?vb11) rfl (by kernel_rfl) (by kernel_rfl) (by kernel_rfl) (fun _ _ _ h => h) (Or.inl ⟨by kernel_rfl, ?hb11⟩) ?rb11
  case hb11 => (intro w; go_simp; first | done | (with_reducible rfl))
  refine wpAny_take (i := 11) (v := ?vb12) rfl (by kernel_rfl) (by kernel_rfl) (by kernel_rfl) (fun _ _ _ h => h) (Or.inl ⟨by kernel_rfl, ?hb12⟩) ?rb12
  case hb12 => (intro w; go_simp; first | done | (with_reducible rfl))
  refine wpAny_ready (rs := [12]) (by kernel_rfl) (by simp) ?_
  refine AllReady.cons rfl (fun K hK => ?_) AllReady.nil
  go_simp
  go_at_call 76
  refine (unless_yes 8 X).mono ?_
  rintro en w1 ⟨rfl, rfl⟩
  refine hK _ _ ?_
  clear hK K
  refine wpAny_done (by kernel_rfl) ?_ _
  try go_simp
  by_cases hl : data.size ≤ 65535
  rotate_left
  ·have hlI : ¬ (data.size : Int) ≤ 65535 := by omega
   have hlong : putM q data = (q, zE, 4) := by unfold putM; rw [if_neg (by rw [HM.out, HN.out]; have := Hm.out; omega), if_pos (by omega)]
   have Hlong := Lib.hid hlong
   clear hlong hl
   go_wp2_with fail
   refine (unless_no 4 X).mono ?_
   rintro en w1 ⟨rfl, rfl⟩
   go_wp2
   rw [Hlong.out]
   exact ⟨rfl, .inr ⟨by simp, rfl⟩, ad, n, cap, _, H.out, Kq.of_below Hd.out, fun b e => .inl e⟩
  have hlI : (data.size : Int) ≤ 65535 := by omega
  have hcat : ¬ 9223372036854775807 < 1 + data.size := by omega
  go_wp2_with fail
  refine (unless_yes 4 X).mono ?_
  rintro en w1 ⟨rfl, rfl⟩
  have hpm : putM q data = if (appM q.l (putB data)).2 = 0 then (⟨(appM q.l (putB data)).1, q.es ++ [⟨q.l.nx.toNat, data, false⟩], q.most⟩, ⟨q.l.nx.toNat, ⟨#[]⟩, false⟩, 0) else (⟨(appM q.l (putB data)).1, q.es, q.most⟩, zE, (appM q.l (putB data)).2) := by
   unfold putM
   rw [if_neg (by rw [HM.out, HN.out]; have := Hm.out; omega), if_neg (by omega)]
  have Hpm := Lib.hid hpm
  clear hpm hl
  have hps := put_size data
  have hps2 : (putB data).size ≤ 9223372036854775807 := by omega
  clear hps
  go_wp2_with fail
  refine (write_any X base g ad n cap _ q (putB data) hps2 H.out HR.out Hbr.out HT.out hXw).mono ?_
  rintro en w1 ⟨hen, ad2, n2, cap2, hq1, hk1⟩
  obtain ⟨⟨l2, c⟩, hr⟩ : ∃ r, appM q.l (putB data) = r := ⟨_, rfl⟩
  rw [hr] at hen hq1
  have Hr := Lib.hid hr
  have H1 := Lib.hid hq1
  have HK1 := Lib.hid ((Kq.of_below Hd.out).trans hk1 (fun b e => .inl e))
  clear hr hq1 hk1 d0 d1 d2 d3 d4 d5 d6 d7 d8 d9 hlg
  rcases hen with ⟨hc, rfl⟩ | ⟨hc, rfl⟩
  rotate_left
  ·have Hc := Lib.hid hc
   clear hc
   go_wp2
   have hfin : putM q data = (⟨l2, q.es, q.most⟩, zE, c) := by rw [Hpm.out, Hr.out, if_neg Hc.out]
   rw [hfin]
   exact ⟨rfl, .inr ⟨Hc.out, rfl⟩, ad2, n2, cap2, _, H1.out, HK1.out, fun b e => .inl e⟩
  have hc : c = 0 := hc
  subst hc
  have hfin : putM q data = (⟨l2, q.es ++ [⟨q.l.nx.toNat, data, false⟩], q.most⟩, ⟨q.l.nx.toNat, ⟨#[]⟩, false⟩, 0) := by rw [Hpm.out, Hr.out, if_pos rfl]
  have Hfin := Lib.hid hfin
  clear hfin
  obtain ⟨d0, d1, d2, d3, d4, d5, d6, d7, d8, d9⟩ := box10 H1.out.h
  obtain ⟨z0, z1, z2, z3, z4, z5, z6, z7, z8, z9⟩ := frz10 H1.out.h
  have hlg := H1.out.lt
  have hb1 : base ≤ w1.heap.size := by have := H1.out.bg; omega
  obtain ⟨u3, w3, hr3, hrow3, hg3, ho3⟩ := app_entry w1 base (.slice adu N capu) q.es ⟨q.l.nx.toNat, data, false⟩ hb1 H1.out.row (by rw [HN.out]; omega)
  have hnxn : ((q.l.nx.toNat : Nat) : Int) = q.l.nx := by omega
  rw [show (ecells ⟨q.l.nx.toNat, data, false⟩) = #[.int .u64 q.l.nx, .string data, .bool false] from by show #[Value.int .u64 ((q.l.nx.toNat : Nat) : Int), _, _] = _; rw [hnxn]] at hr3
  have hbw : Below w1.heap.size w1 (w1.alloc (.cells (ecells ⟨q.l.nx.toNat, data, false⟩) 39)) := (Below.refl _ w1).alloc (Nat.le_refl _) _
  have Hfit := Lib.hid (show ∀ e ∈ q.es ++ [(⟨q.l.nx.toNat, data, false⟩ : E)], EFit e from fun e he => by
   rcases List.mem_append.1 he with q1 | q1
   ·exact H1.out.fit e q1
   ·rw [List.mem_singleton] at q1
    subst q1
    exact ⟨by show q.l.nx.toNat < _; omega, by show data.size ≤ _; omega⟩)
  have hX2 := QAt.ents (H1.out.under hbw) hg3 hrow3 (fun b e => by
   rcases ho3 with q1 | ⟨b2, q1, q2⟩
   ·exact .inl (by rw [← q1]; exact e)
   ·exact .inr (by rw [q1] at e; injection e with e; simp; omega)) Hfit.out
  obtain ⟨ad3, cap3, hv3⟩ := hrow3.form
  obtain ⟨L3, hL3⟩ : ∃ L3, (q.es ++ [(⟨q.l.nx.toNat, data, false⟩ : E)]).length = L3 := ⟨_, rfl⟩
  rw [hL3] at hv3
  subst hv3
  have hbx3 : w3.heap[g]? = some (.cells (Q.cells ⟨l2, q.es, q.most⟩ (.slice ad2 n2 cap2) (.slice adu N capu)) 127 (0, 0)) := (hg3.block g (by simp; omega) (fun e => H1.out.uo e.symm)).trans ((hbw.block g hlg).trans H1.out.h)
  have HX2 := Lib.hid hX2.1
  have HK2 := Lib.hid ((HK1.out.trans (Kq.of_below (g := g) (u := .slice adu N capu) hbw) (fun b e => .inl e)).trans hX2.2 (fun b e => .inl e))
  have HO3 := Lib.hid (show OwnOr w (.slice adu N capu) (.slice ad3 L3 cap3) from fun b e => by
   rcases ho3 with q1 | ⟨b2, q1, q2⟩
   ·exact .inl (by rw [← q1]; exact e)
   ·have h5 := HK1.out.size
    exact .inr (by rw [q1] at e; injection e with e; omega))
  have Hr3 := Lib.hid hr3
  clear hX2 hrow3 hg3 ho3 hL3 hbw hr3
  obtain ⟨_, _, _, _, _, _, _, _, e8, _⟩ := box10 hbx3
  obtain ⟨_, _, _, _, _, _, _, _, y8, _⟩ := frz10 hbx3
  have hlg3 := (Array.getElem?_eq_some_iff.1 hbx3).1
  clear hbx3
  go_wp2_with (at_builtin; refine wp_app rfl (.tmp 38) (.tmp 42) (.slice adu N capu) (.slice (some ⟨w1.heap.size, 0, none⟩) 1 1) (by rfl) (by rfl) rfl Hr3.out ?_)
  go_ret
  rw [Hfin.out]
  exact ⟨.inl ⟨rfl, by simp only [hnxn]; rfl⟩, ad2, n2, cap2, _, HX2.out, HK2.out, HO3.out⟩
end Go.Proofs.YtlgbehagflnfgaaGreatDoor
