/- THE WALKS OVER copied, copiedPair, copiedPairs, the program's. -/
import Derived.Test.YtnnnnlcpmocnfaaDoorRw
import Derived.Deep.RegionHeld3
import Derived.Deep.RegionLaw
import Derived.StillTailTactics
import Derived.WalkLawsBesides
import Derived.Outline
namespace Go.Proofs.YtnnnnlcpmocnfaaDoor
open Go.RowKit
set_option linter.unusedVariables false
set_option linter.unusedSimpArgs false
attribute [local go_sem] run_store_float

/-- what a copy leaves -/
def Copied (x : V) (w : World) (e : Ending) (w' : World) : Prop := ∃ r1 r2, e = .returned (.agg (cv x r1 r2)) ∧ Rep (New w.heap.size w') w' r1 r2 x ∧ Below w.heap.size w w'
def CopiedP (l : List (ByteArray × V)) (w : World) (e : Ending) (w' : World) : Prop := ∃ v es, e = .returned v ∧ PRow w' w.heap.size v es ∧ es.map kv = l ∧ Below w.heap.size w w'
def Copied1 (k : ByteArray) (x : V) (w : World) (e : Ending) (w' : World) : Prop := ∃ r1 r2, e = .returned (.agg (pv k x r1 r2)) ∧ Rep (New w.heap.size w') w' r1 r2 x ∧ Below w.heap.size w w'
def CopyC (F : Nat) (x : V) : Prop := ∀ (w : World) (q1 q2 : Value), Rep Any w q1 q2 x → Calls Tryd.prog F #[.agg (cv x q1 q2)] w (Copied x w)
def CopyPC (F : Nat) (l : List (ByteArray × V)) : Prop := ∀ (w : World) (q : Value), RepP Any w q l → l.length * 112 ≤ 140737488353000 → Calls Tryd.prog F #[q] w (CopiedP l w)

def zero7 : Array Value := #[.int .u8 0, .string ⟨#[]⟩, .bool false, .int .i64 0, .float .f64 0, .slice none 0 0, .slice none 0 0]
/-- where copied stands behind k rounds -/
structure CInv (x : V) (q2 : Value) (w : World) (n : Nat) (k : Nat) (cur : Value) (es : List (V × Value × Value)) (wr : World) : Prop where
  box : wr.heap[w.heap.size]? = some (.cells (cv x cur q2) 27 (0, 0))
  res : wr.heap[w.heap.size + 1]? = some (.cells #[.int .u8 0, .string ⟨#[]⟩, .bool false, .int .i64 0, .float .f64 0, .slice none 0 0, .slice none 0 0] 27 (0, 0))
  row : VRow wr (w.heap.size + 2) cur es
  eq : es.map (·.1) = x.l.take k
  bel : Below w.heap.size w wr
theorem below_drew {W w1 : World} (h : Below W.drew.heap.size W.drew w1) : Below W.heap.size W w1 := ⟨h.os, h.tape, h.output, h.size, h.block⟩
theorem far_new {W w1 : World} {base : Nat} {v : Value} {es : List (V × Value × Value)} {r1 r2 : Value} {a : V} (hrow : VRow W base v es) (hr : Rep (New W.drew.heap.size w1) w1 r1 r2 a) (hb : base ≤ W.heap.size) : Rep (Far w1 base v.ownBlock) w1 r1 r2 a :=
  hr.keep (Kept.of_below (Below.refl _ _) _) fun g hg _ => ⟨Nat.le_trans hb hg.1, (fun e => by have := (hrow.lt g e).2; have hg' : W.heap.size ≤ g := hg.1; omega), hg.2⟩
theorem far_newP {W w1 : World} {base : Nat} {v : Value} {es : List (ByteArray × V × Value × Value)} {r1 r2 : Value} {a : V} (hrow : PRow W base v es) (hr : Rep (New W.drew.heap.size w1) w1 r1 r2 a) (hb : base ≤ W.heap.size) : Rep (Far w1 base v.ownBlock) w1 r1 r2 a :=
  hr.keep (Kept.of_below (Below.refl _ _) _) fun g hg _ => ⟨Nat.le_trans hb hg.1, (fun e => by have := (hrow.lt g e).2; have hg' : W.heap.size ≤ g := hg.1; omega), hg.2⟩
/-- what stood in the two boxes -/
def Two (w' : World) (g h : Nat) (a : V) (c d cur : Value) : Prop := (w'.cell? ⟨g, 0, none⟩ = some (.int .u8 a.k) ∧ w'.cell? ⟨g, 1, none⟩ = some (.string a.s) ∧ w'.cell? ⟨g, 2, none⟩ = some (.bool a.b) ∧ w'.cell? ⟨g, 3, none⟩ = some (.int .i64 a.n) ∧ w'.cell? ⟨g, 4, none⟩ = some (.float .f64 a.f) ∧ w'.cell? ⟨g, 5, none⟩ = some c ∧ w'.cell? ⟨g, 6, none⟩ = some d) ∧ w'.cell? ⟨h, 5, none⟩ = some cur
theorem two_of {w1 : World} {g h : Nat} {a x : V} {c d cur q2 : Value} (h1 : At7 w1 g 0 a c d) (h2 : At7 w1 h 0 x cur q2) : Two w1 g h a c d cur := by
  obtain ⟨a0, a1, a2, a3, a4, a5, a6⟩ := h1
  obtain ⟨b0, b1, b2, b3, b4, b5, b6⟩ := h2
  simp only [Nat.zero_add] at a0 a1 a2 a3 a4 a5 a6 b5
  exact ⟨⟨a0, a1, a2, a3, a4, a5, a6⟩, b5⟩
theorem two_keep {W w1 : World} {g h : Nat} {a x : V} {c d cur q2 : Value} (h1 : At7 W g 0 a c d) (h2 : At7 W h 0 x cur q2) (hl : h + 1 < g ∧ g < W.heap.size) (hb : Below W.heap.size W w1) : Two w1 g h a c d cur :=
  two_of (h1.keep (hb.block _ hl.2)) (h2.keep (hb.block _ (by omega)))
theorem grew_block {W w1 w2 : World} {base : Nat} {v v2 : Value} {es : List (V × Value × Value)} (hb : Below W.heap.size W w1) (hrow : VRow W base v es) (hg : Grew w1 v w2 v2) {g : Nat} (hl : g < W.heap.size) (hne : v.ownBlock ≠ some g) : w2.heap[g]? = W.heap[g]? :=
  (hg.g.block g (Nat.lt_of_lt_of_le hl hb.size) (fun e => hne e.symm)).trans (hb.block g hl)
theorem grew_blockP {W w1 w2 : World} {base : Nat} {v v2 : Value} {es : List (ByteArray × V × Value × Value)} (hb : Below W.heap.size W w1) (hrow : PRow W base v es) (hg : Grew w1 v w2 v2) {g : Nat} (hl : g < W.heap.size) (hne : v.ownBlock ≠ some g) : w2.heap[g]? = W.heap[g]? :=
  (hg.g.block g (Nat.lt_of_lt_of_le hl hb.size) (fun e => hne e.symm)).trans (hb.block g hl)
theorem two_keep2 {W w1 w2 : World} {g h : Nat} {a x : V} {c d cur q2 v2 : Value} {base : Nat} {es : List (V × Value × Value)} (h1 : At7 W g 0 a c d) (h2 : At7 W h 0 x cur q2) (hl : h + 1 < g ∧ g < W.heap.size) (hne : cur.ownBlock ≠ some g ∧ cur.ownBlock ≠ some h ∧ cur.ownBlock ≠ some (h + 1))
    (hb : Below W.heap.size W w1) (hrow : VRow W base cur es) (hg : Grew w1 cur w2 v2) : Two w2 g h a c d cur :=
  two_of (h1.keep (grew_block hb hrow hg hl.2 hne.1)) (h2.keep (grew_block hb hrow hg (by omega) hne.2.1))
theorem cell_alloc {w1 : World} {a : Addr} {u : Value} (h : w1.cell? a = some u) : ∀ ob, (w1.alloc ob).cell? a = some u := fun ob => (Below.cell ((Below.refl w1.heap.size w1).alloc (Nat.le_refl _) ob) (World.block_lt_of_cell? w1 a h)).trans h
theorem take_get {α : Type} {l : List α} {k : Nat} {x : α} (h : l[k]? = some x) : l.take (k + 1) = l.take k ++ [x] := by rw [List.take_add_one, h]; rfl
theorem cinv_next {x : V} {q2 : Value} {w wr W w1 w2 : World} {n k : Nat} {cur v2 r1 r2 : Value} {es : List (V × Value × Value)} {a : V} (h : CInv x q2 w n k cur es wr) (hB : Below w.heap.size w W) (hbw : W.heap[w.heap.size]? = some (.cells (cv x cur q2) 27 (0, 0)))
    (hres : W.heap[w.heap.size + 1]? = some (.cells #[.int .u8 0, .string ⟨#[]⟩, .bool false, .int .i64 0, .float .f64 0, .slice none 0 0, .slice none 0 0] 27 (0, 0))) (hrow : VRow W (w.heap.size + 2) cur es)
    (hb1 : Below W.heap.size W w1) (hrow2 : VRow w2 (w.heap.size + 2) v2 (es ++ [(a, r1, r2)])) (hg : Grew w1 cur w2 v2) (ha : x.l[k]? = some a) :
    CInv x q2 w n (k + 1) v2 (es ++ [(a, r1, r2)]) (w2.setCell ⟨w.heap.size, 5, none⟩ v2) := by
  have n0 : cur.ownBlock ≠ some w.heap.size := fun e => by have := (hrow.lt _ e).1; omega
  have n1 : cur.ownBlock ≠ some (w.heap.size + 1) := fun e => by have := (hrow.lt _ e).1; omega
  have s1 := lt_of_block hres
  have hsz : (w2.setCell ⟨w.heap.size, 5, none⟩ v2).heap.size = w2.heap.size := by simp [World.setCell]
  refine ⟨box_list ((grew_block hb1 hrow hg (by omega) n0).trans hbw) v2, ?_, ?_, ?_, ?_⟩
  · exact (Below.heap_setCell w2 _ v2 _ (by simp)).trans ((grew_block hb1 hrow hg s1 n1).trans hres)
  · exact hrow2.keep (fun g hg _ => Below.heap_setCell w2 _ v2 g (by simp; omega)) (by rw [hsz]; exact Nat.le_refl _)
  · rw [List.map_append, h.eq, take_get ha]; rfl
  · refine ((hB.trans (hb1.mono hB.size)).trans (hg.below (by have := hB.size; have := hb1.size; omega) (fun k hk => by have := (hrow.lt k hk).1; omega))).setCell (Nat.le_refl _) _
theorem zero_box {w : World} {g : Nat} {t : TypeId} (h : w.heap[g]? = some (.cells #[.int .u8 0, .string ⟨#[]⟩, .bool false, .int .i64 0, .float .f64 0, .slice none 0 0, .slice none 0 0] t (0, 0))) :
    (w.cell? ⟨g, 0, none⟩ = some (.int .u8 0) ∧ w.cell? ⟨g, 1, none⟩ = some (.string ⟨#[]⟩) ∧ w.cell? ⟨g, 2, none⟩ = some (.bool false) ∧ w.cell? ⟨g, 3, none⟩ = some (.int .i64 0) ∧ w.cell? ⟨g, 4, none⟩ = some (.float .f64 0) ∧ w.cell? ⟨g, 5, none⟩ = some (.slice none 0 0) ∧ w.cell? ⟨g, 6, none⟩ = some (.slice none 0 0)) ∧
    w.frozen? ⟨g, 0, none⟩ = false ∧ w.frozen? ⟨g, 1, none⟩ = false ∧ w.frozen? ⟨g, 2, none⟩ = false ∧ w.frozen? ⟨g, 3, none⟩ = false ∧ w.frozen? ⟨g, 4, none⟩ = false ∧ w.frozen? ⟨g, 5, none⟩ = false ∧ w.frozen? ⟨g, 6, none⟩ = false :=
  ⟨⟨cell_of_row w g 0 _ t (0, 0) h, cell_of_row w g 1 _ t (0, 0) h, cell_of_row w g 2 _ t (0, 0) h, cell_of_row w g 3 _ t (0, 0) h, cell_of_row w g 4 _ t (0, 0) h, cell_of_row w g 5 _ t (0, 0) h, cell_of_row w g 6 _ t (0, 0) h⟩,
    frozen_of_row w g 0 _ t h, frozen_of_row w g 1 _ t h, frozen_of_row w g 2 _ t h, frozen_of_row w g 3 _ t h, frozen_of_row w g 4 _ t h, frozen_of_row w g 5 _ t h, frozen_of_row w g 6 _ t h⟩
theorem far_set {w w1 : World} {a : Addr} {u : Value} {B : Nat} (h : ∀ g : Nat, B ≤ g → w.heap[g]? = w1.heap[g]?) (ha : a.block < B) : ∀ g : Nat, B ≤ g → (w.setCell a u).heap[g]? = w1.heap[g]? :=
  fun g hg => (Below.heap_setCell w a u g (by omega)).trans (h g hg)
theorem cend {x : V} {q2 : Value} {w wr w1 F : World} {n k : Nat} {r1 r2 : Value} {es : List (V × Value × Value)} {es2 : List (ByteArray × V × Value × Value)} (h : CInv x q2 w n k r1 es wr) (hb1 : Below wr.heap.size wr w1) (hrow2 : PRow w1 wr.heap.size r2 es2) (he2 : es2.map kv = x.p) (hf : FitV x) (hk : x.l.length ≤ k)
    (hfar : ∀ g, w.heap.size + 2 ≤ g → F.heap[g]? = w1.heap[g]?) (hsz : F.heap.size = w1.heap.size) (hbel : Below w.heap.size w F) : Copied x w (.returned (.agg (cv x r1 r2))) F := by
  refine ⟨r1, r2, rfl, Rep.of hf ?_ ?_, hbel⟩
  · have e := h.eq
    rw [List.take_of_length_le hk] at e
    have hlen : es.length = x.l.length := by rw [← e]; simp
    have hl := hf.l1
    have := (h.row.under hb1).keep (w' := F) (fun g hg _ => hfar g hg) (by rw [hsz]; exact Nat.le_refl _) |>.data (by omega)
    rw [e] at this
    exact this.keep (Kept.of_below (Below.refl _ _) _) fun g hg _ => ⟨by have := hg.1; omega, hg.2⟩
  · have hlen : es2.length = x.p.length := by rw [← he2]; simp
    have hl := hf.p1
    have h2 := lt_of_block h.res
    have := hrow2.keep (w' := F) (fun g hg _ => hfar g (by omega)) (by rw [hsz]; exact Nat.le_refl _) |>.data (by omega)
    rw [he2] at this
    exact this.keep (Kept.of_below (Below.refl _ _) _) fun g hg _ => ⟨by have := hg.1; omega, hg.2⟩
theorem get_at' {α : Type} {l : List α} {k : Nat} (h : k < l.length) : ∃ a, l[k]? = some a := ⟨l[k], by simp [h]⟩

set_option maxRecDepth 100000 in
set_option maxHeartbeats 8000000 in
theorem copied_main (x : V) (ihl : ∀ a, a ∈ x.l → CopyC 60 a) (ihp : CopyPC 61 x.p) : CopyC 60 x := by
  intro w q1 q2 hx
  obtain ⟨fit, hql, hqp⟩ := hx.parts
  obtain ⟨ad, cap, rfl, hl⟩ := hql.form
  obtain ⟨ad2, cap2, rfl, hl2⟩ := hqp.form
  obtain ⟨n, hn⟩ : ∃ n, n = x.l.length := ⟨_, rfl⟩
  obtain ⟨m, hm⟩ : ∃ m, m = x.p.length := ⟨_, rfl⟩
  have hn96 : n * 96 ≤ 140737488353000 := by rw [hn]; exact fit.l1
  rw [← hn] at hql hl ⊢
  rw [← hm] at hqp hl2 ⊢
  have Hn := Lib.hid hn
  have Hm := Lib.hid hm
  have Hql := Lib.hid hql
  have Hqp := Lib.hid hqp
  have Hfit := Lib.hid fit
  have Hn96 := Lib.hid hn96
  have Ihl := Lib.hid ihl
  have Ihp := Lib.hid ihp
  clear hn hm hql hqp fit hn96 ihl ihp hx
  go_enter Tryd.func60, Tryd.ntmps60
  go_wp2
  go_loopw [11] (fun i wr => ∃ (k : Nat) (cur : Value) (es : List (V × Value × Value)), i = .int .i64 (k : Int) ∧ k ≤ n ∧ Go.RowKit.Hid (CInv x (.slice ad2 m cap2) w n k cur es wr)) (fun i _ => n - (intOf i).toNat)
  case atStart => exact ⟨0, .slice none 0 0, [], rfl, by omega, ⟨blk_alloc (blk_new w _) _, blk_at (by simp), VRow.nil _ _, by simp, ((Below.refl _ _).alloc (Nat.le_refl _) _).alloc (by simp) _⟩⟩
  case round =>
    obtain ⟨k, cur, es, rfl, hk, hinv⟩ := hrel
    have Hinv := Lib.hid hinv.out
    clear hinv
    by_cases hlt : k < n
    · obtain ⟨a, ha⟩ := get_at' (l := x.l) (k := k) (by rw [← Hn.out]; exact hlt)
      obtain ⟨g, o, c, d, rfl, hg, ⟨c0, c1, c2, c3, c4, c5, c6⟩, hrep⟩ := (Hql.out.under Hinv.out.bel).at ha
      obtain ⟨adc, capc, rfl, _⟩ := hrep.parts.2.1.form
      obtain ⟨add, capd, rfl, _⟩ := hrep.parts.2.2.form
      obtain ⟨a0, a1, a2, a3, a4, a5, a6⟩ := At7.box (Hinv.out.box)
      have hk0 : (0 : Int) ≤ (k : Int) := by omega
      have hkn : (k : Int) < (n : Int) := by omega
      have hlen : es.length * 96 ≤ 140737488353100 := by
        have h1 : es.length = (es.map (·.1)).length := by simp
        rw [Hinv.out.eq, List.length_take] at h1
        have := Hn96.out
        omega
      obtain ⟨W, hW⟩ : ∃ W, W = wr.alloc (.cells (cv a (.slice adc a.l.length capc) (.slice add a.p.length capd)) 27) := ⟨_, rfl⟩
      have hBW : Below wr.heap.size wr W := by rw [hW]; exact (Below.refl _ _).alloc (Nat.le_refl _) _
      obtain ⟨z0, z1, z2, z3, z4, z5, z6⟩ := At7.box (w := W) (g := wr.heap.size) (x := a) (q1 := .slice adc a.l.length capc) (q2 := .slice add a.p.length capd) (t := 27) (by rw [hW]; exact blk_new wr _)
      have hbw : W.heap[w.heap.size]? = some (.cells (cv x cur (.slice ad2 m cap2)) 27 (0, 0)) := (hBW.block _ (lt_of_block Hinv.out.box)).trans Hinv.out.box
      obtain ⟨y0, y1, y2, y3, y4, y5, y6⟩ := At7.box hbw
      simp only [Nat.zero_add] at z0 z1 z2 z3 z4 z5 z6 y0 y1 y2 y3 y4 y5 y6
      have hcall := Ihl.out a (List.mem_of_getElem? ha) 
      have hz7 : At7 W wr.heap.size 0 a (.slice adc a.l.length capc) (.slice add a.p.length capd) := At7.box (t := 27) (by rw [hW]; exact blk_new wr _)
      have Hz7 := Lib.hid hz7
      have Hy7 := Lib.hid (At7.box hbw)
      have Hne := Lib.hid (show cur.ownBlock ≠ some wr.heap.size ∧ cur.ownBlock ≠ some w.heap.size ∧ cur.ownBlock ≠ some (w.heap.size + 1) from
        ⟨fun e => by have := (Hinv.out.row.lt _ e).2; omega, fun e => by have := (Hinv.out.row.lt _ e).1; omega, fun e => by have := (Hinv.out.row.lt _ e).1; omega⟩)
      have Hlt := Lib.hid (show w.heap.size + 1 < wr.heap.size ∧ wr.heap.size < W.heap.size by have := lt_of_block Hinv.out.res; rw [hW]; simp; omega)
      have Hbase := Lib.hid (show w.heap.size + 2 ≤ W.heap.size by have := lt_of_block Hinv.out.res; rw [hW]; simp; omega)
      have Hbel := Lib.hid (Hinv.out.bel.trans (hBW.mono Hinv.out.bel.size))
      have Hres := Lib.hid ((hBW.block _ (lt_of_block Hinv.out.res)).trans Hinv.out.res)
      clear hz7
      have HW := Lib.hid hW
      have Hcall := Lib.hid hcall
      have Hrep := Lib.hid (hrep.under hBW)
      have HBW := Lib.hid hBW
      have Hlen := Lib.hid hlen
      have Hbw := Lib.hid hbw
      have Hrow := Lib.hid (Hinv.out.row.under hBW)
      have Ha := Lib.hid ha
      clear hW hcall hrep hBW hlen hbw ha a0 a1 a2 a3 a4 a5 a6
      go_wp2
      rw [← HW.out]
      go_region_law (first | (refine step_app_v rfl (.tmp 16) (.tmp 19) rfl (w.heap.size + 2) cur es (by rfl) (Hrow.out.under (below_drew hb1)) a r1 r2 _ (by rfl) (far_new Hrow.out hr1 Hbase.out) _ (by rfl) (by rfl) Hlen.out (Nat.le_trans Hbase.out (below_drew hb1).size) ?_; intro v2 w2 hrow2 hgr2; obtain ⟨adv, capv, rfl⟩ := hrow2.form; obtain ⟨⟨p0, p1, p2, p3, p4, p5, p6⟩, p7⟩ := two_keep2 Hz7.out Hy7.out Hlt.out Hne.out (below_drew hb1) Hrow.out hgr2; have hbx2 := (grew_block (below_drew hb1) Hrow.out hgr2 (Nat.lt_trans (Nat.lt_of_succ_lt Hlt.out.1) Hlt.out.2) Hne.out.2.1).trans Hbw.out; have pf := frozen_of_row w2 w.heap.size 5 _ 27 hbx2) | (go_simp; go_at_call 60; refine (Hcall.out _ _ _ (Hrep.out.under (Below.refl _ _).drew)).mono ?_; rintro e w1 ⟨r1, r2, rfl, hr1, hb1⟩; obtain ⟨⟨s0, s1, s2, s3, s4, s5, s6⟩, s7⟩ := two_keep Hz7.out Hy7.out Hlt.out (below_drew hb1); have s8 := cell_alloc s7))
      all_goals
        go_wp2
        go_roundw
        case rel => exact ⟨k + 1, _, es ++ [(a, r1, r2)], by go_num, by omega, by have := cinv_next Hinv.out Hbel.out Hbw.out Hres.out Hrow.out (below_drew hb1) hrow2 hgr2 Ha.out; rwa [List.length_append] at this⟩
        case measure => simp [intOf]; omega
    · have hbx := Hinv.out.box
      obtain ⟨a0, a1, a2, a3, a4, a5, a6⟩ := At7.box hbx
      have hp := Hqp.out.under Hinv.out.bel
      have hp112 : x.p.length * 112 ≤ 140737488353000 := Hfit.out.p1
      have hcall := Ihp.out wr _ hp hp112
      have Hcall := Lib.hid hcall
      clear hcall hp hp112 hbx
      simp only [Nat.zero_add] at a0 a1 a2 a3 a4 a5 a6
      go_wp2_with fail
      refine (Hcall.out).mono ?_
      rintro e w1 ⟨v2, es2, rfl, hrow2, hes2, hb1⟩
      obtain ⟨adv, capv, rfl⟩ := hrow2.form
      have hbx1 := (hb1.block _ (lt_of_block Hinv.out.box)).trans Hinv.out.box
      have hres1 := (hb1.block _ (lt_of_block Hinv.out.res)).trans Hinv.out.res
      clear a0 a1 a2 a3 a4 a5 a6
      obtain ⟨adu, capu, rfl⟩ := Hinv.out.row.form
      obtain ⟨a0, a1, a2, a3, a4, a5, a6⟩ := At7.box hbx1
      have f6 := frozen_of_row w1 w.heap.size 6 _ 27 hbx1
      obtain ⟨⟨h0, h1, h2, h3, h4, h5, h6⟩, g0, g1, g2, g3, g4, g5, g6⟩ := zero_box hres1
      simp only [Nat.zero_add] at a0 a1 a2 a3 a4 a5 a6
      have Hrow2 := Lib.hid hrow2
      have Hes2 := Lib.hid hes2
      have Hb1 := Lib.hid hb1
      have Hbx1 := Lib.hid hbx1
      have Hres1 := Lib.hid hres1
      clear hrow2 hes2 hb1 hbx1 hres1
      go_wp2
      refine bodyPost_ret (v := .agg (cv x (.slice adu es.length capu) (.slice adv es2.length capv))) (by simp [results, Tryd.results60, go_sem, h0, h1, h2, h3, h4, h5, h6]) rfl ?_
      exact cend Hinv.out Hb1.out Hrow2.out Hes2.out Hfit.out (by have := Hn.out; omega)
        (far_set (far_set (far_set (far_set (far_set (far_set (far_set (far_set (fun _ _ => rfl) (by simp)) (by simp)) (by simp)) (by simp)) (by simp)) (by simp)) (by simp)) (by simp))
        (by simp [World.setCell])
        ((((((((((Hinv.out.bel.trans (Hb1.out.mono Hinv.out.bel.size)).setCell (Nat.le_refl _) _).setCell (Nat.le_succ _) _).setCell (Nat.le_succ _) _).setCell (Nat.le_succ _) _).setCell (Nat.le_succ _) _).setCell (Nat.le_succ _) _).setCell (Nat.le_succ _) _).setCell (Nat.le_succ _) _))
end Go.Proofs.YtnnnnlcpmocnfaaDoor
