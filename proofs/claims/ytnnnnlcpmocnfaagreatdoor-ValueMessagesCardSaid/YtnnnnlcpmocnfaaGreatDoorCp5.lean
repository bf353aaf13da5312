/- THE WALKS OVER copied, copiedPair, copiedPairs, the document's own. -/
import Derived.Test.YtnnnnlcpmocnfaaGreatDoorCp3
import Derived.Deep.RegionHeld3
import Derived.Deep.RegionLaw
import Derived.StillTailTactics
import Derived.WalkLawsBesides
import Derived.Outline
namespace Go.Proofs.YtnnnnlcpmocnfaaGreatDoor
open Go.RowKit
set_option linter.unusedVariables false
set_option linter.unusedSimpArgs false
attribute [local go_sem] run_store_float


/-- where the document's Copy stands behind k rounds -/
structure DInv (x : V) (q1 q2 : Value) (w : World) (n : Nat) (k : Nat) (cur : Value) (es : List (V × Value × Value)) (wr : World) : Prop where
  par : wr.heap[w.heap.size]? = some (.cells (cv x q1 q2) 27 (0, 0))
  res : wr.heap[w.heap.size + 1]? = some (.cells #[.int .u8 0, .string ⟨#[]⟩, .bool false, .int .i64 0, .float .f64 0, .slice none 0 0, .slice none 0 0] 27 (0, 0))
  box : wr.heap[w.heap.size + 2]? = some (.cells (cv x cur q2) 27 (0, 0))
  row : VRow wr (w.heap.size + 3) cur es
  eq : es.map (·.1) = x.l.take k
  bel : Below w.heap.size w wr
theorem two_keepD {W w1 : World} {g h : Nat} {a x : V} {c d cur q2 : Value} (h1 : At7 W g 0 a c d) (h2 : At7 W h 0 x cur q2) (hl : h < g ∧ g < W.heap.size) (hb : Below W.heap.size W w1) : Two w1 g h a c d cur :=
  two_of (h1.keep (hb.block _ hl.2)) (h2.keep (hb.block _ (by omega)))
theorem two_keep2D {W w1 w2 : World} {g h : Nat} {a x : V} {c d cur q2 v2 : Value} {base : Nat} {es : List (V × Value × Value)} (h1 : At7 W g 0 a c d) (h2 : At7 W h 0 x cur q2) (hl : h < g ∧ g < W.heap.size) (hne : cur.ownBlock ≠ some g ∧ cur.ownBlock ≠ some h)
    (hb : Below W.heap.size W w1) (hrow : VRow W base cur es) (hg : Grew w1 cur w2 v2) : Two w2 g h a c d cur :=
  two_of (h1.keep (grew_block hb hrow hg hl.2 hne.1)) (h2.keep (grew_block hb hrow hg (by omega) hne.2))
theorem dinv_next {x : V} {q1 q2 : Value} {w wr W w1 w2 : World} {n k : Nat} {cur v2 r1 r2 : Value} {es : List (V × Value × Value)} {a : V} (h : DInv x q1 q2 w n k cur es wr) (hW : Below wr.heap.size wr W) (hrow : VRow W (w.heap.size + 3) cur es)
    (hb1 : Below W.heap.size W w1) (hrow2 : VRow w2 (w.heap.size + 3) v2 (es ++ [(a, r1, r2)])) (hg : Grew w1 cur w2 v2) (ha : x.l[k]? = some a) :
    DInv x q1 q2 w n (k + 1) v2 (es ++ [(a, r1, r2)]) (w2.setCell ⟨w.heap.size + 2, 5, none⟩ v2) := by
  have n0 : cur.ownBlock ≠ some w.heap.size := fun e => by have := (hrow.lt _ e).1; omega
  have n1 : cur.ownBlock ≠ some (w.heap.size + 1) := fun e => by have := (hrow.lt _ e).1; omega
  have n2 : cur.ownBlock ≠ some (w.heap.size + 2) := fun e => by have := (hrow.lt _ e).1; omega
  have s2 := lt_of_block h.box
  have hws := hW.size
  have hB : Below w.heap.size w W := h.bel.trans (hW.mono h.bel.size)
  have hsz : (w2.setCell ⟨w.heap.size + 2, 5, none⟩ v2).heap.size = w2.heap.size := by simp [World.setCell]
  have bk : ∀ g, g < wr.heap.size → cur.ownBlock ≠ some g → w2.heap[g]? = wr.heap[g]? := fun g hg' hne => (grew_block hb1 hrow hg (by omega) hne).trans (hW.block _ hg')
  refine ⟨?_, ?_, box_list ((bk _ s2 n2).trans h.box) v2, ?_, ?_, ?_⟩
  · exact (Below.heap_setCell w2 _ v2 _ (by simp)).trans ((bk _ (by omega) n0).trans h.par)
  · exact (Below.heap_setCell w2 _ v2 _ (by simp)).trans ((bk _ (by omega) n1).trans h.res)
  · exact hrow2.keep (fun g hg _ => Below.heap_setCell w2 _ v2 g (by simp; omega)) (by rw [hsz]; exact Nat.le_refl _)
  · rw [List.map_append, h.eq, take_get ha]; rfl
  · refine ((hB.trans (hb1.mono hB.size)).trans (hg.below (by have := hB.size; have := hb1.size; omega) (fun k hk => by have := (hrow.lt k hk).1; omega))).setCell (by simp) _
theorem dend {x : V} {q1 q2 : Value} {w wr w1 F : World} {n k : Nat} {r1 r2 : Value} {es : List (V × Value × Value)} {es2 : List (ByteArray × V × Value × Value)} (h : DInv x q1 q2 w n k r1 es wr) (hb1 : Below wr.heap.size wr w1) (hrow2 : PRow w1 wr.heap.size r2 es2) (he2 : es2.map kv = x.p) (hf : FitV x) (hk : x.l.length ≤ k)
    (hfar : ∀ g, w.heap.size + 3 ≤ g → F.heap[g]? = w1.heap[g]?) (hsz : F.heap.size = w1.heap.size) (hbel : Below w.heap.size w F) : Copied x w (.returned (.agg (cv x r1 r2))) F := by
  refine ⟨r1, r2, rfl, Rep.of hf ?_ ?_, hbel⟩
  · have e := h.eq
    rw [List.take_of_length_le hk] at e
    have hlen : es.length = x.l.length := by rw [← e]; simp
    have hl := hf.l1
    have := (h.row.under hb1).keep (w' := F) (fun g hg _ => hfar g hg) (by rw [hsz]; exact Nat.le_refl _) |>.data (by omega)
    rw [e] at this
    exact this.keep (Kept.of_below (Below.refl _ _) _) fun g hg _ => ⟨by have := hg.1; omega, hg.2⟩
  · have hlen : es2.length = x.p.length := by rw [← he2]; simp
    have hl := hf.p1
    have h2 := lt_of_block h.box
    have := hrow2.keep (w' := F) (fun g hg _ => hfar g (by omega)) (by rw [hsz]; exact Nat.le_refl _) |>.data (by omega)
    rw [he2] at this
    exact this.keep (Kept.of_below (Below.refl _ _) _) fun g hg _ => ⟨by have := hg.1; omega, hg.2⟩

set_option maxRecDepth 100000 in
set_option maxHeartbeats 8000000 in
theorem rcopy_main (x : V) (ihl : ∀ a, a ∈ x.l → CopyC 4 a) (ihp : CopyPC 15 x.p) : CopyC 4 x := by
  intro w q1 q2 hx
  obtain ⟨fit, hql, hqp⟩ := hx.parts
  obtain ⟨ad, cap, rfl, hl⟩ := hql.form
  obtain ⟨ad2, cap2, rfl, hl2⟩ := hqp.form
  obtain ⟨n, hn⟩ : ∃ n, n = x.l.length := ⟨_, rfl⟩
  obtain ⟨m, hm⟩ : ∃ m, m = x.p.length := ⟨_, rfl⟩
  have hn96 : n * 96 ≤ 140737488353000 := by rw [hn]; exact fit.l1
  rw [← hn] at hql hl ⊢
  rw [← hm] at hqp hl2 ⊢
  have Hn := Lib.hid hn
  have Hm := Lib.hid hm
  have Hql := Lib.hid hql
  have Hqp := Lib.hid hqp
  have Hfit := Lib.hid fit
  have Hn96 := Lib.hid hn96
  have Ihl := Lib.hid ihl
  have Ihp := Lib.hid ihp
  clear hn hm hql hqp fit hn96 ihl ihp hx
  go_enter Tryz.func4, Tryz.ntmps4
  go_wp2
  go_loopw [11] (fun i wr => ∃ (k : Nat) (cur : Value) (es : List (V × Value × Value)), i = .int .i64 (k : Int) ∧ k ≤ n ∧ Go.RowKit.Hid (DInv x (.slice ad n cap) (.slice ad2 m cap2) w n k cur es wr)) (fun i _ => n - (intOf i).toNat)
  case atStart => exact ⟨0, .slice none 0 0, [], rfl, by omega, ⟨blk_alloc (blk_alloc (blk_new w _) _) _, blk_alloc (blk_at (by simp)) _, blk_at (by simp), VRow.nil _ _, by simp, (((Below.refl _ _).alloc (Nat.le_refl _) _).alloc (by simp) _).alloc (by simp <;> omega) _⟩⟩
  case round =>
    obtain ⟨k, cur, es, rfl, hk, hinv⟩ := hrel
    have Hinv := Lib.hid hinv.out
    clear hinv
    by_cases hlt : k < n
    · obtain ⟨a, ha⟩ := get_at' (l := x.l) (k := k) (by rw [← Hn.out]; exact hlt)
      obtain ⟨g, o, c, d, rfl, hg, ⟨c0, c1, c2, c3, c4, c5, c6⟩, hrep⟩ := (Hql.out.under Hinv.out.bel).at ha
      obtain ⟨adc, capc, rfl, _⟩ := hrep.parts.2.1.form
      obtain ⟨add, capd, rfl, _⟩ := hrep.parts.2.2.form
      have hk0 : (0 : Int) ≤ (k : Int) := by omega
      have hkn : (k : Int) < (n : Int) := by omega
      have hlen : es.length * 96 ≤ 140737488353100 := by
        have h1 : es.length = (es.map (·.1)).length := by simp
        rw [Hinv.out.eq, List.length_take] at h1
        have := Hn96.out
        omega
      obtain ⟨W, hW⟩ : ∃ W, W = wr.alloc (.cells (cv a (.slice adc a.l.length capc) (.slice add a.p.length capd)) 27) := ⟨_, rfl⟩
      have hBW : Below wr.heap.size wr W := by rw [hW]; exact (Below.refl _ _).alloc (Nat.le_refl _) _
      have hz7 : At7 W wr.heap.size 0 a (.slice adc a.l.length capc) (.slice add a.p.length capd) := At7.box (t := 27) (by rw [hW]; exact blk_new wr _)
      have hbw : W.heap[w.heap.size + 2]? = some (.cells (cv x cur (.slice ad2 m cap2)) 27 (0, 0)) := (hBW.block _ (lt_of_block Hinv.out.box)).trans Hinv.out.box
      have Hz7 := Lib.hid hz7
      have Hy7 := Lib.hid (At7.box hbw)
      obtain ⟨z0, z1, z2, z3, z4, z5, z6⟩ := hz7
      obtain ⟨y0, y1, y2, y3, y4, y5, y6⟩ := Hy7.out
      simp only [Nat.zero_add] at z0 z1 z2 z3 z4 z5 z6 y0 y1 y2 y3 y4 y5 y6
      have Hne := Lib.hid (show cur.ownBlock ≠ some wr.heap.size ∧ cur.ownBlock ≠ some (w.heap.size + 2) from
        ⟨fun e => by have := (Hinv.out.row.lt _ e).2; omega, fun e => by have := (Hinv.out.row.lt _ e).1; omega⟩)
      have Hlt := Lib.hid (show w.heap.size + 2 < wr.heap.size ∧ wr.heap.size < W.heap.size by have := lt_of_block Hinv.out.box; rw [hW]; simp; omega)
      have Hbase := Lib.hid (show w.heap.size + 3 ≤ W.heap.size by have := lt_of_block Hinv.out.box; rw [hW]; simp; omega)
      have HW := Lib.hid hW
      have Hcall := Lib.hid (Ihl.out a (List.mem_of_getElem? ha))
      have Hrep := Lib.hid (hrep.under hBW)
      have HBW := Lib.hid hBW
      have Hlen := Lib.hid hlen
      have Hbw := Lib.hid hbw
      have Hrow := Lib.hid (Hinv.out.row.under hBW)
      have Ha := Lib.hid ha
      clear hW hrep hBW hlen hbw ha
      go_wp2
      rw [← HW.out]
      go_region_law (first | (refine step_app_v rfl (.tmp 16) (.tmp 19) rfl (w.heap.size + 3) cur es (by rfl) (Hrow.out.under (below_drew hb1)) a r1 r2 _ (by rfl) (far_new Hrow.out hr1 Hbase.out) _ (by rfl) (by rfl) Hlen.out (Nat.le_trans Hbase.out (below_drew hb1).size) ?_; intro v2 w2 hrow2 hgr2; obtain ⟨adv, capv, rfl⟩ := hrow2.form; obtain ⟨⟨p0, p1, p2, p3, p4, p5, p6⟩, p7⟩ := two_keep2D Hz7.out Hy7.out Hlt.out Hne.out (below_drew hb1) Hrow.out hgr2; have hbx2 := (grew_block (below_drew hb1) Hrow.out hgr2 (Nat.lt_trans Hlt.out.1 Hlt.out.2) Hne.out.2).trans Hbw.out; have pf := frozen_of_row w2 (w.heap.size + 2) 5 _ 27 hbx2) | (go_simp; go_at_call 4; refine (Hcall.out _ _ _ (Hrep.out.under (Below.refl _ _).drew)).mono ?_; rintro e w1 ⟨r1, r2, rfl, hr1, hb1⟩; obtain ⟨⟨s0, s1, s2, s3, s4, s5, s6⟩, s7⟩ := two_keepD Hz7.out Hy7.out Hlt.out (below_drew hb1); have s8 := cell_alloc s7))
      all_goals
        go_wp2
        go_roundw
        case rel => exact ⟨k + 1, _, es ++ [(a, r1, r2)], by go_num, by omega, by have := dinv_next Hinv.out HBW.out Hrow.out (below_drew hb1) hrow2 hgr2 Ha.out; rwa [List.length_append] at this⟩
        case measure => simp [intOf]; omega
    · obtain ⟨a0, a1, a2, a3, a4, a5, a6⟩ := At7.box Hinv.out.par
      have hcall := Ihp.out wr _ (Hqp.out.under Hinv.out.bel) Hfit.out.p1
      have Hcall := Lib.hid hcall
      clear hcall
      simp only [Nat.zero_add] at a0 a1 a2 a3 a4 a5 a6
      go_wp2_with fail
      refine (Hcall.out).mono ?_
      rintro e w1 ⟨v2, es2, rfl, hrow2, hes2, hb1⟩
      obtain ⟨adv, capv, rfl⟩ := hrow2.form
      have hbx1 := (hb1.block _ (lt_of_block Hinv.out.box)).trans Hinv.out.box
      have hres1 := (hb1.block _ (lt_of_block Hinv.out.res)).trans Hinv.out.res
      clear a0 a1 a2 a3 a4 a5 a6
      obtain ⟨adu, capu, rfl⟩ := Hinv.out.row.form
      obtain ⟨a0, a1, a2, a3, a4, a5, a6⟩ := At7.box hbx1
      have f6 := frozen_of_row w1 (w.heap.size + 2) 6 _ 27 hbx1
      obtain ⟨⟨h0, h1, h2, h3, h4, h5, h6⟩, g0, g1, g2, g3, g4, g5, g6⟩ := zero_box hres1
      simp only [Nat.zero_add] at a0 a1 a2 a3 a4 a5 a6
      have Hrow2 := Lib.hid hrow2
      have Hes2 := Lib.hid hes2
      have Hb1 := Lib.hid hb1
      clear hrow2 hes2 hb1 hbx1 hres1
      go_wp2
      refine bodyPost_ret (v := .agg (cv x (.slice adu es.length capu) (.slice adv es2.length capv))) (by simp [results, Tryz.results4, go_sem, h0, h1, h2, h3, h4, h5, h6]) rfl ?_
      exact dend Hinv.out Hb1.out Hrow2.out Hes2.out Hfit.out (by have := Hn.out; omega)
        (far_set (far_set (far_set (far_set (far_set (far_set (far_set (far_set (fun _ _ => rfl) (by simp)) (by simp)) (by simp)) (by simp)) (by simp)) (by simp)) (by simp)) (by simp))
        (by simp [World.setCell])
        (((((((((Hinv.out.bel.trans (Hb1.out.mono Hinv.out.bel.size)).setCell (by simp <;> omega) _).setCell (by simp <;> omega) _).setCell (by simp <;> omega) _).setCell (by simp <;> omega) _).setCell (by simp <;> omega) _).setCell (by simp <;> omega) _).setCell (by simp <;> omega) _).setCell (by simp <;> omega) _)
end Go.Proofs.YtnnnnlcpmocnfaaGreatDoor

/- THE WALKS OVER copied, copiedPair, copiedPairs, the document's own. -/
namespace Go.Proofs.YtnnnnlcpmocnfaaGreatDoor
open Go.RowKit
set_option linter.unusedVariables false
set_option linter.unusedSimpArgs false
attribute [local go_sem] run_store_float


set_option maxRecDepth 100000 in
set_option maxHeartbeats 8000000 in
theorem rcopyPairs_of (l : List (ByteArray × V)) (ih : ∀ e, e ∈ l → CopyC 4 e.2) : CopyPC 15 l := by
  intro w q hq hl112
  obtain ⟨ad, cap, rfl, hl⟩ := hq.form
  obtain ⟨n, hn⟩ : ∃ n, n = l.length := ⟨_, rfl⟩
  rw [← hn] at hq hl hl112 ⊢
  have Hn := Lib.hid hn
  have Hq := Lib.hid hq
  have H112 := Lib.hid hl112
  have Ih := Lib.hid ih
  clear hn hq hl112 ih
  go_enter Tryz.func15, Tryz.ntmps15
  go_wp2
  go_loopw [3, 8] (fun v i wr => ∃ (k : Nat) (es : List (ByteArray × V × Value × Value)), i = .int .i64 (k : Int) ∧ k ≤ n ∧ Go.RowKit.Hid (PInv l w k v es wr)) (fun _ i _ => n - (intOf i).toNat)
  case atStart => exact ⟨0, [], rfl, by omega, ⟨PRow.nil _ _, by simp, Below.refl _ _⟩⟩
  case round =>
    obtain ⟨k, es, rfl, hk, hinv⟩ := hrel
    have Hinv := Lib.hid hinv.out
    clear hinv
    by_cases hlt : k < n
    · obtain ⟨a, ha⟩ := get_at' (l := l) (k := k) (by rw [← Hn.out]; exact hlt)
      obtain ⟨g, o, c, d, rfl, hg, ⟨c0, c1, c2, c3, c4, c5, c6, c7⟩, hky, hrep⟩ := (Hq.out.under Hinv.out.bel).at ha
      obtain ⟨adc, capc, rfl, _⟩ := hrep.parts.2.1.form
      obtain ⟨add, capd, rfl, _⟩ := hrep.parts.2.2.form
      have hk0 : (0 : Int) ≤ (k : Int) := by omega
      have hkn : (k : Int) < (n : Int) := by omega
      have hlen : es.length * 112 ≤ 140737488353100 := by
        have h1 : es.length = (es.map kv).length := by simp
        rw [Hinv.out.eq, List.length_take] at h1
        have := H112.out
        omega
      obtain ⟨W, hW⟩ : ∃ W, W = wr.alloc (.cells (pv a.1 a.2 (.slice adc a.2.l.length capc) (.slice add a.2.p.length capd)) 29) := ⟨_, rfl⟩
      have hBW : Below wr.heap.size wr W := by rw [hW]; exact (Below.refl _ _).alloc (Nat.le_refl _) _
      have hA : At8 W wr.heap.size 0 a.1 a.2 (.slice adc a.2.l.length capc) (.slice add a.2.p.length capd) := At8.box (t := 29) (by rw [hW]; exact blk_new wr _)
      have HA := Lib.hid hA
      obtain ⟨z0, z1, z2, z3, z4, z5, z6, z7⟩ := hA
      simp only [Nat.zero_add] at z0 z1 z2 z3 z4 z5 z6 z7
      have Hcall := Lib.hid (Ih.out a (List.mem_of_getElem? ha))
      have Hrep := Lib.hid (hrep.under hBW)
      have Hrow := Lib.hid (Hinv.out.row.under hBW)
      have Hbase := Lib.hid (show w.heap.size ≤ W.heap.size from Nat.le_trans Hinv.out.bel.size hBW.size)
      have Hlt := Lib.hid (show wr.heap.size < W.heap.size by rw [hW]; simp)
      have HBW := Lib.hid hBW
      have HW := Lib.hid hW
      have Hlen := Lib.hid hlen
      have Hky := Lib.hid hky
      have Ha := Lib.hid ha
      clear hW hBW hlen hky ha hrep hg
      go_wp2
      rw [← HW.out]
      go_region_law (first | (refine step_app_p rfl (.tmp 12) (.tmp 19) rfl w.heap.size _ es (by rfl) (Hrow.out.under (below_drew hb1)) a.1 a.2 r1 r2 _ (by rfl) Hky.out (far_newP Hrow.out hr1 Hbase.out) _ (by rfl) (by rfl) Hlen.out (Nat.le_trans Hbase.out (below_drew hb1).size) ?_; intro v2 w2 hrow2 hgr2) | (go_simp; go_at_call 4; refine (Hcall.out _ _ _ (Hrep.out.under (Below.refl _ _).drew)).mono ?_; rintro e w1 ⟨r1, r2, rfl, hr1, hb1⟩; have s0 := (HA.out.keep ((below_drew hb1).block _ Hlt.out)).c0; have s0' := cell_alloc s0))
      all_goals
        have Hnext := Lib.hid (pinv_next Hinv.out HBW.out (below_drew hb1) hrow2 hgr2 Ha.out)
        clear hrow2 hgr2 hb1 hr1
        go_wp2
        go_roundw
        case rel => exact ⟨k + 1, _, by go_num, by omega, Hnext.out⟩
        case measure => simp [intOf]; omega
    · have he := Hinv.out.eq
      rw [List.take_of_length_le (by have := Hn.out; omega)] at he
      have He := Lib.hid he
      clear he
      go_wp2
      go_ret
      exact ⟨_, es, rfl, Hinv.out.row, He.out, Hinv.out.bel⟩

theorem rcopy_sized : ∀ (n : Nat) (x : V), SizeOf.sizeOf x ≤ n → CopyC 4 x := by
  intro n
  induction n with
  | zero => intro x hx; cases x; simp only [V.mk.sizeOf_spec] at hx; omega
  | succ n ih =>
    intro x hx
    exact rcopy_main x (fun a ha => ih a (by have := V.size_l ha; omega)) (rcopyPairs_of _ fun e he => ih e.2 (by have := V.size_p he; omega))
theorem rcopy_any (x : V) : CopyC 4 x := rcopy_sized _ x (Nat.le_refl _)
theorem rcopyPairs_any (l : List (ByteArray × V)) : CopyPC 15 l := rcopyPairs_of l fun e _ => rcopy_any e.2
end Go.Proofs.YtnnnnlcpmocnfaaGreatDoor
