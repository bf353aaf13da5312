/- QUEUE: THE WALK OVER after, the law's. -/
import Derived.Test.YtlgbehagflnfgaaGreatDoorKav
namespace Go.Proofs.YtlgbehagflnfgaaGreatDoor
open Go.RowKit
set_option maxRecDepth 100000
set_option linter.unusedVariables false
set_option linter.unusedSimpArgs false

/-- entries behind a step that was done -/
def aftP (k : Int) (s : Nat) (x : E) : Bool := !(decide (k = 4) && decide (x.seq = s))
def aftE (k : Int) (data : ByteArray) (s : Nat) (n : Nat) (es : List E) : List E := es.filter (aftP k s) ++ (if k = 1 then [⟨n, data, false⟩] else [])
theorem ent_new (X : World) (e : E) : ∀ j u, (ec e)[j]? = some u → (X.alloc (.cells (ecells e) 39)).cell? ((⟨X.heap.size, 0, none⟩ : Addr).add j) = some u := fun j u hj => by
 have h0 := cell_of_row _ X.heap.size j _ 39 (0, 0) (blk_new X (.cells (ecells e) 39))
 rw [Addr.add_lit, Nat.zero_add, h0]
 simpa [ec] using hj
theorem ec_ones (e : E) : ∀ u ∈ ec e, u.oneCell' = true := fun u hu => by
 simp only [ec, List.mem_cons, List.not_mem_nil, or_false] at hu
 rcases hu with rfl | rfl | rfl <;> rfl
set_option maxHeartbeats 4000000 in
theorem after_4 (w : World) (ad : Option Addr) (n cap : Nat) (es : List E) (h : EIn w w.heap.size ad n cap es) (data : ByteArray) (s : Nat) (e2 : E) (hn : es.length ≤ 1000000) :
  Calls Tryz.prog 21 #[.slice ad n cap, .agg (stepC 4 data s), .agg (entC e2)] w fun e w' => Below w.heap.size w w' ∧ ∃ v, e = .returned v ∧ ERow w' w.heap.size v (aftE 4 data s e2.seq es) := by
 obtain ⟨i0, hi0, hz0, hz1, hz2⟩ := info_parts Tryz.info39
 obtain ⟨X, hX⟩ : ∃ X, X = (w.alloc (.cells (stepC 4 data s) 33)).alloc (.cells (entC e2) 39) := ⟨_, rfl⟩
 have hb0 : Below w.heap.size w X := by rw [hX]; exact ((Below.refl _ w).alloc (Nat.le_refl _) _).alloc (by simp) _
 have hx0 : X.heap[w.heap.size]? = some (.cells (stepC 4 data s) 33 (0, 0)) := by rw [hX]; exact blk_alloc (blk_new w _) _
 have hx1 : X.heap[w.heap.size + 1]? = some (.cells (entC e2) 39 (0, 0)) := by rw [hX]; exact blk_at (by simp)
 have hxs : X.heap.size = w.heap.size + 2 := by rw [hX]; simp
 have HB := Lib.hid hb0
 have Hx0 := Lib.hid hx0
 have Hx1 := Lib.hid hx1
 have Hxs := Lib.hid hxs
 have HE := Lib.hid h
 have hnn : n = es.length := h.1
 have Hn := Lib.hid hnn
 have hn6 : n ≤ 1000000 := by omega
 clear h hb0 hx0 hx1 hnn hn hxs
 go_enter Tryz.func21, Tryz.ntmps21
 go_upto_region 1 with (fail)
 rw [← hX]
 clear hX
 go_wp2
 go_loopw [7, 12] (fun v i wr => ∃ (j : Nat), i = .int .i64 (j : Int) ∧ j ≤ n ∧ Below X.heap.size X wr ∧ ERow wr X.heap.size v ((es.take j).filter (aftP 4 s))) (fun _ i _ => n - (intOf i).toNat)
 case atStart => exact ⟨0, rfl, Nat.zero_le _, Below.refl _ _, World.ownsRow_nil _ _ _ _⟩
 case round =>
  obtain ⟨j, rfl, hj, hbel, hrow⟩ := hrel
  have HBr := Lib.hid (HB.out.trans (hbel.mono HB.out.size))
  have Hx0r := Lib.hid ((hbel.block _ (by rw [Hxs.out]; omega)).trans Hx0.out)
  have Hx1r := Lib.hid ((hbel.block _ (by rw [Hxs.out]; omega)).trans Hx1.out)
  have Hbel := Lib.hid hbel
  have Hrow := Lib.hid hrow
  have hlen : ((es.take j).filter (aftP 4 s)).length ≤ 1000000 := Nat.le_trans (List.length_filter_le _ _) (by rw [List.length_take]; omega)
  have Hlen := Lib.hid hlen
  clear hbel hrow hlen
  obtain ⟨c0, c1, c2⟩ := box3 Hx0r.out
  have hlc := (Array.getElem?_eq_some_iff.1 Hx0r.out).1
  by_cases hlt : j < n
  ·have hjI : (j : Int) < (n : Int) := by omega
   obtain ⟨f, hf⟩ : ∃ f, es[j]? = some f := ⟨es[j]'(by have := Hn.out; omega), by simp⟩
   have hne : es ≠ [] := by rintro rfl; simp at hf
   obtain ⟨ge, oe, rfl, hge, hce⟩ := (HE.out.2.2.2.keep HBr.out) hne
   obtain ⟨p0, p1, p2⟩ := hce j f hf
   have hgl : ge < wr.heap.size := Nat.lt_of_lt_of_le hge HBr.out.size
   have htk : (es.take (j + 1)).filter (aftP 4 s) = (es.take j).filter (aftP 4 s) ++ (if aftP 4 s f = true then [f] else []) := by
    rw [List.take_add_one, hf, List.filter_append]
    congr 1
    all_goals simp only [Option.toList_some, List.filter_cons, List.filter_nil]
   have Htk := Lib.hid htk
   clear htk hce hne hf
   obtain ⟨W, hW⟩ : ∃ W, W = wr.alloc (.cells (ecells f) 39) := ⟨_, rfl⟩
   have hbW : Below wr.heap.size wr W := by rw [hW]; exact (Below.refl _ wr).alloc (Nat.le_refl _) _
   have HF := Lib.hid (show W.heap[wr.heap.size]? = some (.cells (ecells f) 39 (0, 0)) from by rw [hW]; exact blk_new wr _)
   have HBW := Lib.hid (Hbel.out.trans (hbW.mono Hbel.out.size))
   have HrW := Lib.hid (Hrow.out.below hbW)
   have Hx0W := Lib.hid ((hbW.block _ hlc).trans Hx0r.out)
   have hWs : X.heap.size ≤ W.heap.size := HBW.out.size
   clear hbW c0 c1 c2 hlc
   go_upto_region 5 with (fail)
   rw [← hW]
   clear hW p0 p1 p2 hgl hge
   obtain ⟨c0, c1, c2⟩ := box3 Hx0W.out
   have hlc := (Array.getElem?_eq_some_iff.1 Hx0W.out).1
   obtain ⟨x0, x1, x2⟩ := box3 HF.out
   have hlx := (Array.getElem?_eq_some_iff.1 HF.out).1
   by_cases hsq : (f.seq : Int) = (s : Int)
   ·have Hd := Lib.hid (show aftP 4 s f = false from by unfold aftP; rw [decide_eq_true (show f.seq = s by omega)]; rfl)
    have Hr2 := Lib.hid (show ERow W X.heap.size u7 ((es.take (j + 1)).filter (aftP 4 s)) from by rw [Htk.out, Hd.out]; simpa using HrW.out)
    go_wp2
    go_roundw
    case rel => exact ⟨j + 1, by go_num, by omega, HBW.out, Hr2.out⟩
    case measure => simp [intOf]; omega
   ·have Hd := Lib.hid (show aftP 4 s f = true from by unfold aftP; rw [decide_eq_false (show ¬ f.seq = s by omega), Bool.and_false]; rfl)
    have Hown := Lib.hid (World.ownsRow.alloc HrW.out (.cells (ecells f) 39))
    have Hnews := Lib.hid (ent_new W f)
    have Hones := Lib.hid (ec_ones f)
    have HBA := Lib.hid (HBW.out.alloc HBW.out.size (.cells (ecells f) 39))
    go_wp2_with (at_builtin; refine wpList_append_own_at _ rfl _ _ 28 rfl X.heap.size 39 i0 _ 3 32 Tryz.underlying28 hi0 hz0 hz1 hz2 rfl (by decide) _ _ _ rfl Hown.out ⟨W.heap.size, 0, none⟩ 1 1 (ec f) rfl rfl Hnews.out Hones.out (by have := Hlen.out; simp [maxLen]; omega) (by have := Hlen.out; omega) (by simp; omega) ?_)
    intro v' w' h1 h2 _ _
    have Hb3 := Lib.hid (HBA.out.grown h2 HBA.out.size (fun k hk => (World.ownsRow.lt Hown.out k hk).1))
    have Hr3 := Lib.hid (show ERow w' X.heap.size v' ((es.take (j + 1)).filter (aftP 4 s)) from by
     rw [Htk.out, Hd.out, if_pos rfl]
     exact ERow.of_own (n := ((es.take j).filter (aftP 4 s)).length + 1) (by rw [List.flatMap_append, List.flatMap_singleton]; exact h1))
    clear h1 h2
    go_wp2
    go_roundw
    case rel => exact ⟨j + 1, by go_num, by omega, Hb3.out, Hr3.out⟩
    case measure => simp [intOf]; omega
  ·have hjn : ¬ (j : Int) < (n : Int) := by omega
   have hrow := Hrow.out
   rw [List.take_of_length_le (by have := Hn.out; omega)] at hrow
   have Hrow2 := Lib.hid hrow
   have Hlen2 := Lib.hid (show (es.filter (aftP 4 s)).length ≤ 1000000 from Nat.le_trans (List.length_filter_le _ _) (by have := Hn.out; omega))
   clear hrow Hrow
   have Hr3 := Lib.hid (show ERow wr X.heap.size u7 (aftE 4 data s e2.seq es) from by unfold aftE; rw [if_neg (by decide), List.append_nil]; exact Hrow2.out)
   go_wp2
   go_ret
   exact ⟨HBr.out, _, rfl, ownsRow_base Hr3.out (by rw [Hxs.out]; omega)⟩
set_option maxHeartbeats 4000000 in
theorem after_1 (w : World) (ad : Option Addr) (n cap : Nat) (es : List E) (h : EIn w w.heap.size ad n cap es) (data : ByteArray) (s : Nat) (e2 : E) (hn : es.length ≤ 1000000) :
  Calls Tryz.prog 21 #[.slice ad n cap, .agg (stepC 1 data s), .agg (entC e2)] w fun e w' => Below w.heap.size w w' ∧ ∃ v, e = .returned v ∧ ERow w' w.heap.size v (aftE 1 data s e2.seq es) := by
 obtain ⟨i0, hi0, hz0, hz1, hz2⟩ := info_parts Tryz.info39
 obtain ⟨X, hX⟩ : ∃ X, X = (w.alloc (.cells (stepC 1 data s) 33)).alloc (.cells (entC e2) 39) := ⟨_, rfl⟩
 have hb0 : Below w.heap.size w X := by rw [hX]; exact ((Below.refl _ w).alloc (Nat.le_refl _) _).alloc (by simp) _
 have hx0 : X.heap[w.heap.size]? = some (.cells (stepC 1 data s) 33 (0, 0)) := by rw [hX]; exact blk_alloc (blk_new w _) _
 have hx1 : X.heap[w.heap.size + 1]? = some (.cells (entC e2) 39 (0, 0)) := by rw [hX]; exact blk_at (by simp)
 have hxs : X.heap.size = w.heap.size + 2 := by rw [hX]; simp
 have HB := Lib.hid hb0
 have Hx0 := Lib.hid hx0
 have Hx1 := Lib.hid hx1
 have Hxs := Lib.hid hxs
 have HE := Lib.hid h
 have hnn : n = es.length := h.1
 have Hn := Lib.hid hnn
 have hn6 : n ≤ 1000000 := by omega
 clear h hb0 hx0 hx1 hnn hn hxs
 go_enter Tryz.func21, Tryz.ntmps21
 go_upto_region 1 with (fail)
 rw [← hX]
 clear hX
 go_wp2
 go_loopw [7, 12] (fun v i wr => ∃ (j : Nat), i = .int .i64 (j : Int) ∧ j ≤ n ∧ Below X.heap.size X wr ∧ ERow wr X.heap.size v ((es.take j).filter (aftP 1 s))) (fun _ i _ => n - (intOf i).toNat)
 case atStart => exact ⟨0, rfl, Nat.zero_le _, Below.refl _ _, World.ownsRow_nil _ _ _ _⟩
 case round =>
  obtain ⟨j, rfl, hj, hbel, hrow⟩ := hrel
  have HBr := Lib.hid (HB.out.trans (hbel.mono HB.out.size))
  have Hx0r := Lib.hid ((hbel.block _ (by rw [Hxs.out]; omega)).trans Hx0.out)
  have Hx1r := Lib.hid ((hbel.block _ (by rw [Hxs.out]; omega)).trans Hx1.out)
  have Hbel := Lib.hid hbel
  have Hrow := Lib.hid hrow
  have hlen : ((es.take j).filter (aftP 1 s)).length ≤ 1000000 := Nat.le_trans (List.length_filter_le _ _) (by rw [List.length_take]; omega)
  have Hlen := Lib.hid hlen
  clear hbel hrow hlen
  obtain ⟨c0, c1, c2⟩ := box3 Hx0r.out
  have hlc := (Array.getElem?_eq_some_iff.1 Hx0r.out).1
  by_cases hlt : j < n
  ·have hjI : (j : Int) < (n : Int) := by omega
   obtain ⟨f, hf⟩ : ∃ f, es[j]? = some f := ⟨es[j]'(by have := Hn.out; omega), by simp⟩
   have hne : es ≠ [] := by rintro rfl; simp at hf
   obtain ⟨ge, oe, rfl, hge, hce⟩ := (HE.out.2.2.2.keep HBr.out) hne
   obtain ⟨p0, p1, p2⟩ := hce j f hf
   have hgl : ge < wr.heap.size := Nat.lt_of_lt_of_le hge HBr.out.size
   have htk : (es.take (j + 1)).filter (aftP 1 s) = (es.take j).filter (aftP 1 s) ++ (if aftP 1 s f = true then [f] else []) := by
    rw [List.take_add_one, hf, List.filter_append]
    congr 1
    all_goals simp only [Option.toList_some, List.filter_cons, List.filter_nil]
   have Htk := Lib.hid htk
   clear htk hce hne hf
   obtain ⟨W, hW⟩ : ∃ W, W = wr.alloc (.cells (ecells f) 39) := ⟨_, rfl⟩
   have hbW : Below wr.heap.size wr W := by rw [hW]; exact (Below.refl _ wr).alloc (Nat.le_refl _) _
   have HF := Lib.hid (show W.heap[wr.heap.size]? = some (.cells (ecells f) 39 (0, 0)) from by rw [hW]; exact blk_new wr _)
   have HBW := Lib.hid (Hbel.out.trans (hbW.mono Hbel.out.size))
   have HrW := Lib.hid (Hrow.out.below hbW)
   have Hx0W := Lib.hid ((hbW.block _ hlc).trans Hx0r.out)
   have hWs : X.heap.size ≤ W.heap.size := HBW.out.size
   clear hbW c0 c1 c2 hlc
   go_upto_region 5 with (fail)
   rw [← hW]
   clear hW p0 p1 p2 hgl hge
   obtain ⟨c0, c1, c2⟩ := box3 Hx0W.out
   have hlc := (Array.getElem?_eq_some_iff.1 Hx0W.out).1
   obtain ⟨x0, x1, x2⟩ := box3 HF.out
   have hlx := (Array.getElem?_eq_some_iff.1 HF.out).1
   have Hd := Lib.hid (show aftP 1 s f = true from by simp [aftP])
   have Hown := Lib.hid (World.ownsRow.alloc HrW.out (.cells (ecells f) 39))
   have Hnews := Lib.hid (ent_new W f)
   have Hones := Lib.hid (ec_ones f)
   have HBA := Lib.hid (HBW.out.alloc HBW.out.size (.cells (ecells f) 39))
   go_wp2_with (at_builtin; refine wpList_append_own_at _ rfl _ _ 28 rfl X.heap.size 39 i0 _ 3 32 Tryz.underlying28 hi0 hz0 hz1 hz2 rfl (by decide) _ _ _ rfl Hown.out ⟨W.heap.size, 0, none⟩ 1 1 (ec f) rfl rfl Hnews.out Hones.out (by have := Hlen.out; simp [maxLen]; omega) (by have := Hlen.out; omega) (by simp; omega) ?_)
   intro v' w' h1 h2 _ _
   have Hb3 := Lib.hid (HBA.out.grown h2 HBA.out.size (fun k hk => (World.ownsRow.lt Hown.out k hk).1))
   have Hr3 := Lib.hid (show ERow w' X.heap.size v' ((es.take (j + 1)).filter (aftP 1 s)) from by
    rw [Htk.out, Hd.out, if_pos rfl]
    exact ERow.of_own (n := ((es.take j).filter (aftP 1 s)).length + 1) (by rw [List.flatMap_append, List.flatMap_singleton]; exact h1))
   clear h1 h2
   go_wp2
   go_roundw
   case rel => exact ⟨j + 1, by go_num, by omega, Hb3.out, Hr3.out⟩
   case measure => simp [intOf]; omega
  ·have hjn : ¬ (j : Int) < (n : Int) := by omega
   have hrow := Hrow.out
   rw [List.take_of_length_le (by have := Hn.out; omega)] at hrow
   have Hrow2 := Lib.hid hrow
   have Hlen2 := Lib.hid (show (es.filter (aftP 1 s)).length ≤ 1000000 from Nat.le_trans (List.length_filter_le _ _) (by have := Hn.out; omega))
   clear hrow Hrow
   obtain ⟨e0, e1, e2'⟩ := box3 Hx1r.out
   have hle := (Array.getElem?_eq_some_iff.1 Hx1r.out).1
   have hwX : X.heap.size ≤ wr.heap.size := Hbel.out.size
   have Hown := Lib.hid (World.ownsRow.alloc Hrow2.out (.cells (ecells ⟨e2.seq, data, false⟩) 39))
   have Hnews := Lib.hid (ent_new wr ⟨e2.seq, data, false⟩)
   have Hones := Lib.hid (ec_ones ⟨e2.seq, data, false⟩)
   have HBA := Lib.hid (Hbel.out.alloc Hbel.out.size (.cells (ecells ⟨e2.seq, data, false⟩) 39))
   go_wp2_with (at_builtin; refine wpList_append_own_at _ rfl _ _ 28 rfl X.heap.size 39 i0 _ 3 32 Tryz.underlying28 hi0 hz0 hz1 hz2 rfl (by decide) _ _ _ rfl Hown.out ⟨wr.heap.size, 0, none⟩ 1 1 (ec ⟨e2.seq, data, false⟩) rfl rfl Hnews.out Hones.out (by have := Hlen2.out; simp [maxLen]; omega) (by have := Hlen2.out; omega) (by simp; omega) ?_)
   intro v' w' h1 h2 _ _
   have Hb3 := Lib.hid (HBA.out.grown h2 HBA.out.size (fun k hk => (World.ownsRow.lt Hown.out k hk).1))
   have Hr3 := Lib.hid (show ERow w' X.heap.size v' (aftE 1 data s e2.seq es) from by
    unfold aftE
    rw [if_pos rfl]
    exact ERow.of_own (n := (es.filter (aftP 1 s)).length + 1) (by rw [List.flatMap_append, List.flatMap_singleton]; exact h1))
   clear h1 h2
   go_wp2
   go_ret
   exact ⟨HB.out.trans (Hb3.out.mono HB.out.size), v', rfl, ownsRow_base Hr3.out (by rw [Hxs.out]; omega)⟩
set_option maxHeartbeats 4000000 in
theorem after_o (w : World) (ad : Option Addr) (n cap : Nat) (es : List E) (h : EIn w w.heap.size ad n cap es) (k : Int) (hk4 : ¬ k = 4) (hk1 : ¬ k = 1) (data : ByteArray) (s : Nat) (e2 : E) (hn : es.length ≤ 1000000) :
  Calls Tryz.prog 21 #[.slice ad n cap, .agg (stepC k data s), .agg (entC e2)] w fun e w' => Below w.heap.size w w' ∧ ∃ v, e = .returned v ∧ ERow w' w.heap.size v (aftE k data s e2.seq es) := by
 obtain ⟨i0, hi0, hz0, hz1, hz2⟩ := info_parts Tryz.info39
 obtain ⟨X, hX⟩ : ∃ X, X = (w.alloc (.cells (stepC k data s) 33)).alloc (.cells (entC e2) 39) := ⟨_, rfl⟩
 have hb0 : Below w.heap.size w X := by rw [hX]; exact ((Below.refl _ w).alloc (Nat.le_refl _) _).alloc (by simp) _
 have hx0 : X.heap[w.heap.size]? = some (.cells (stepC k data s) 33 (0, 0)) := by rw [hX]; exact blk_alloc (blk_new w _) _
 have hx1 : X.heap[w.heap.size + 1]? = some (.cells (entC e2) 39 (0, 0)) := by rw [hX]; exact blk_at (by simp)
 have hxs : X.heap.size = w.heap.size + 2 := by rw [hX]; simp
 have HB := Lib.hid hb0
 have Hx0 := Lib.hid hx0
 have Hx1 := Lib.hid hx1
 have Hxs := Lib.hid hxs
 have HE := Lib.hid h
 have hnn : n = es.length := h.1
 have Hn := Lib.hid hnn
 have hn6 : n ≤ 1000000 := by omega
 clear h hb0 hx0 hx1 hnn hn hxs
 go_enter Tryz.func21, Tryz.ntmps21
 go_upto_region 1 with (fail)
 rw [← hX]
 clear hX
 go_wp2
 go_loopw [7, 12] (fun v i wr => ∃ (j : Nat), i = .int .i64 (j : Int) ∧ j ≤ n ∧ Below X.heap.size X wr ∧ ERow wr X.heap.size v ((es.take j).filter (aftP k s))) (fun _ i _ => n - (intOf i).toNat)
 case atStart => exact ⟨0, rfl, Nat.zero_le _, Below.refl _ _, World.ownsRow_nil _ _ _ _⟩
 case round =>
  obtain ⟨j, rfl, hj, hbel, hrow⟩ := hrel
  have HBr := Lib.hid (HB.out.trans (hbel.mono HB.out.size))
  have Hx0r := Lib.hid ((hbel.block _ (by rw [Hxs.out]; omega)).trans Hx0.out)
  have Hx1r := Lib.hid ((hbel.block _ (by rw [Hxs.out]; omega)).trans Hx1.out)
  have Hbel := Lib.hid hbel
  have Hrow := Lib.hid hrow
  have hlen : ((es.take j).filter (aftP k s)).length ≤ 1000000 := Nat.le_trans (List.length_filter_le _ _) (by rw [List.length_take]; omega)
  have Hlen := Lib.hid hlen
  clear hbel hrow hlen
  obtain ⟨c0, c1, c2⟩ := box3 Hx0r.out
  have hlc := (Array.getElem?_eq_some_iff.1 Hx0r.out).1
  by_cases hlt : j < n
  ·have hjI : (j : Int) < (n : Int) := by omega
   obtain ⟨f, hf⟩ : ∃ f, es[j]? = some f := ⟨es[j]'(by have := Hn.out; omega), by simp⟩
   have hne : es ≠ [] := by rintro rfl; simp at hf
   obtain ⟨ge, oe, rfl, hge, hce⟩ := (HE.out.2.2.2.keep HBr.out) hne
   obtain ⟨p0, p1, p2⟩ := hce j f hf
   have hgl : ge < wr.heap.size := Nat.lt_of_lt_of_le hge HBr.out.size
   have htk : (es.take (j + 1)).filter (aftP k s) = (es.take j).filter (aftP k s) ++ (if aftP k s f = true then [f] else []) := by
    rw [List.take_add_one, hf, List.filter_append]
    congr 1
    all_goals simp only [Option.toList_some, List.filter_cons, List.filter_nil]
   have Htk := Lib.hid htk
   clear htk hce hne hf
   obtain ⟨W, hW⟩ : ∃ W, W = wr.alloc (.cells (ecells f) 39) := ⟨_, rfl⟩
   have hbW : Below wr.heap.size wr W := by rw [hW]; exact (Below.refl _ wr).alloc (Nat.le_refl _) _
   have HF := Lib.hid (show W.heap[wr.heap.size]? = some (.cells (ecells f) 39 (0, 0)) from by rw [hW]; exact blk_new wr _)
   have HBW := Lib.hid (Hbel.out.trans (hbW.mono Hbel.out.size))
   have HrW := Lib.hid (Hrow.out.below hbW)
   have Hx0W := Lib.hid ((hbW.block _ hlc).trans Hx0r.out)
   have hWs : X.heap.size ≤ W.heap.size := HBW.out.size
   clear hbW c0 c1 c2 hlc
   go_upto_region 5 with (fail)
   rw [← hW]
   clear hW p0 p1 p2 hgl hge
   obtain ⟨c0, c1, c2⟩ := box3 Hx0W.out
   have hlc := (Array.getElem?_eq_some_iff.1 Hx0W.out).1
   obtain ⟨x0, x1, x2⟩ := box3 HF.out
   have hlx := (Array.getElem?_eq_some_iff.1 HF.out).1
   have Hd := Lib.hid (show aftP k s f = true from by unfold aftP; simp [hk4])
   have Hown := Lib.hid (World.ownsRow.alloc HrW.out (.cells (ecells f) 39))
   have Hnews := Lib.hid (ent_new W f)
   have Hones := Lib.hid (ec_ones f)
   have HBA := Lib.hid (HBW.out.alloc HBW.out.size (.cells (ecells f) 39))
   go_wp2_with (at_builtin; refine wpList_append_own_at _ rfl _ _ 28 rfl X.heap.size 39 i0 _ 3 32 Tryz.underlying28 hi0 hz0 hz1 hz2 rfl (by decide) _ _ _ rfl Hown.out ⟨W.heap.size, 0, none⟩ 1 1 (ec f) rfl rfl Hnews.out Hones.out (by have := Hlen.out; simp [maxLen]; omega) (by have := Hlen.out; omega) (by simp; omega) ?_)
   intro v' w' h1 h2 _ _
   have Hb3 := Lib.hid (HBA.out.grown h2 HBA.out.size (fun k hk => (World.ownsRow.lt Hown.out k hk).1))
   have Hr3 := Lib.hid (show ERow w' X.heap.size v' ((es.take (j + 1)).filter (aftP k s)) from by
    rw [Htk.out, Hd.out, if_pos rfl]
    exact ERow.of_own (n := ((es.take j).filter (aftP k s)).length + 1) (by rw [List.flatMap_append, List.flatMap_singleton]; exact h1))
   clear h1 h2
   go_wp2
   go_roundw
   case rel => exact ⟨j + 1, by go_num, by omega, Hb3.out, Hr3.out⟩
   case measure => simp [intOf]; omega
  ·have hjn : ¬ (j : Int) < (n : Int) := by omega
   have hrow := Hrow.out
   rw [List.take_of_length_le (by have := Hn.out; omega)] at hrow
   have Hrow2 := Lib.hid hrow
   have Hlen2 := Lib.hid (show (es.filter (aftP k s)).length ≤ 1000000 from Nat.le_trans (List.length_filter_le _ _) (by have := Hn.out; omega))
   clear hrow Hrow
   have Hr3 := Lib.hid (show ERow wr X.heap.size u7 (aftE k data s e2.seq es) from by unfold aftE; rw [if_neg hk1, List.append_nil]; exact Hrow2.out)
   go_wp2
   go_ret
   exact ⟨HBr.out, _, rfl, ownsRow_base Hr3.out (by rw [Hxs.out]; omega)⟩
theorem after_any (w : World) (ad : Option Addr) (n cap : Nat) (es : List E) (h : EIn w w.heap.size ad n cap es) (k : Int) (data : ByteArray) (s : Nat) (e2 : E) (hn : es.length ≤ 1000000) :
  Calls Tryz.prog 21 #[.slice ad n cap, .agg (stepC k data s), .agg (entC e2)] w fun e w' => Below w.heap.size w w' ∧ ∃ v, e = .returned v ∧ ERow w' w.heap.size v (aftE k data s e2.seq es) := by
 by_cases h4 : k = 4
 ·subst h4; exact after_4 w ad n cap es h data s e2 hn
 by_cases h1 : k = 1
 ·subst h1; exact after_1 w ad n cap es h data s e2 hn
 exact after_o w ad n cap es h k h4 h1 data s e2 hn
end Go.Proofs.YtlgbehagflnfgaaGreatDoor

/- QUEUE: THE WALK OVER same, the law's. -/
namespace Go.Proofs.YtlgbehagflnfgaaGreatDoor
open Go.RowKit
set_option maxRecDepth 100000
set_option linter.unusedVariables false
set_option linter.unusedSimpArgs false

def keyE (e : E) : Nat × ByteArray := (e.seq, e.data)
def sameE (a b : List E) : Bool := decide (a.map keyE = b.map keyE)
theorem sameE_len {a b : List E} (h : a.length ≠ b.length) : sameE a b = false := decide_eq_false fun e => h (by have := congrArg List.length e; simpa using this)
theorem sameE_at {a b : List E} {k : Nat} {x y : E} (hx : a[k]? = some x) (hy : b[k]? = some y) (h : keyE x ≠ keyE y) : sameE a b = false := decide_eq_false fun e => h (by
 have h1 : (a.map keyE)[k]? = some (keyE x) := by rw [List.getElem?_map, hx]; rfl
 have h2 : (b.map keyE)[k]? = some (keyE y) := by rw [List.getElem?_map, hy]; rfl
 rw [e, h2] at h1
 exact (Option.some.inj h1).symm)
theorem key_snoc {a b : List E} {k : Nat} {x y : E} (hx : a[k]? = some x) (hy : b[k]? = some y) (h : keyE x = keyE y) (hk : (a.take k).map keyE = (b.take k).map keyE) : (a.take (k + 1)).map keyE = (b.take (k + 1)).map keyE := by
 rw [List.take_add_one, List.take_add_one, hx, hy, List.map_append, List.map_append, hk]
 simp [h]
set_option maxHeartbeats 4000000 in
theorem same_any (w : World) (ad ad2 : Option Addr) (cap cap2 : Nat) (es es2 : List E) (h : Els w w.heap.size ad es) (h2 : Els w w.heap.size ad2 es2) (hl : es.length ≤ 1000000000) (hl2 : es2.length ≤ 1000000000) :
  Calls Tryz.prog 23 #[.slice ad es.length cap, .slice ad2 es2.length cap2] w fun e w' => e = .returned (.bool (sameE es es2)) ∧ Below w.heap.size w w' := by
 have H := Lib.hid h
 have H2 := Lib.hid h2
 clear h h2
 obtain ⟨b, hb⟩ : ∃ b, sameE es es2 = b := ⟨_, rfl⟩
 rw [hb]
 have Hb := Lib.hid hb
 clear hb
 obtain ⟨n, hn⟩ : ∃ n, es.length = n := ⟨_, rfl⟩
 obtain ⟨n2, hn2⟩ : ∃ n, es2.length = n := ⟨_, rfl⟩
 rw [hn] at hl ⊢
 rw [hn2] at hl2 ⊢
 have Hn := Lib.hid hn
 have Hn2 := Lib.hid hn2
 clear hn hn2
 by_cases hne : n = n2
 rotate_left
 ·have hbf : b = false := Hb.out.symm.trans (sameE_len (by rw [Hn.out, Hn2.out]; exact hne))
  subst hbf
  have hneI : ¬ (n : Int) = (n2 : Int) := by omega
  clear hne
  go_enter Tryz.func23, Tryz.ntmps23
  go_wp2
  go_ret
  exact ⟨rfl, Below.refl _ _⟩
 subst hne
 go_enter Tryz.func23, Tryz.ntmps23
 go_wp2
 go_loopw [13] (fun i wr => ∃ (k : Nat), i = .int .i64 (k : Int) ∧ k ≤ n ∧ Below w.heap.size w wr ∧ (es.take k).map keyE = (es2.take k).map keyE) (fun i _ => n - (intOf i).toNat)
 case atStart => exact ⟨0, rfl, Nat.zero_le _, Below.refl _ _, by simp⟩
 case round =>
  obtain ⟨k, rfl, hk, hbel, hkey⟩ := hrel
  have Hbel := Lib.hid hbel
  have Hkey := Lib.hid hkey
  clear hkey
  by_cases hlt : k < n
  ·obtain ⟨r, hr⟩ : ∃ r, es[k]? = some r := ⟨es[k]'(by have := Hn.out; omega), by simp⟩
   obtain ⟨r2, hr2⟩ : ∃ r, es2[k]? = some r := ⟨es2[k]'(by have := Hn2.out; omega), by simp⟩
   obtain ⟨g1, o1, rfl, hg1, hc1⟩ := (H.out.keep hbel) (by rintro rfl; simp at hr)
   obtain ⟨g2, o2, rfl, hg2, hc2⟩ := (H2.out.keep hbel) (by rintro rfl; simp at hr2)
   obtain ⟨p0, p1, p2⟩ := hc1 k r hr
   obtain ⟨q0, q1, q2⟩ := hc2 k r2 hr2
   have hg1' : g1 < wr.heap.size := Nat.lt_of_lt_of_le hg1 hbel.size
   have hg2' : g2 < wr.heap.size := Nat.lt_of_lt_of_le hg2 hbel.size
   have Hr := Lib.hid hr
   have Hr2 := Lib.hid hr2
   clear hbel hc1 hc2 hr hr2 hg1 hg2 p2 q2
   obtain ⟨s1, d1, l1⟩ := r
   obtain ⟨s2, d2, l2⟩ := r2
   simp only at p0 p1 q0 q1
   by_cases hs : s1 = s2
   ·subst hs
    by_cases hd : d1 = d2
    ·subst hd
     have Hk2 := Lib.hid (key_snoc Hr.out Hr2.out rfl Hkey.out)
     go_upto_region 6 with (fail)
     go_quiet (fail)
     go_wp2
     go_roundw
     case rel => exact ⟨k + 1, by go_num, by omega, below_drewN Hbel.out _, Hk2.out⟩
     case measure => simp [intOf]; omega
    ·have hbf : b = false := Hb.out.symm.trans (sameE_at Hr.out Hr2.out (by simp [keyE, hd]))
     subst hbf
     have hdb : (d1.toList == d2.toList) = false := str_not hd
     go_upto_region 6 with (fail)
     go_quiet (fail)
     go_wp2
     go_ret
     exact ⟨rfl, below_drewN Hbel.out _⟩
   ·have hbf : b = false := Hb.out.symm.trans (sameE_at Hr.out Hr2.out (by simp [keyE, hs]))
    subst hbf
    have hsI : ¬ (s1 : Int) = (s2 : Int) := by omega
    have hsb : ((s1 : Int) == (s2 : Int)) = false := by simpa using hsI
    go_upto_region 6 with (fail)
    go_quiet (fail)
    go_wp2
    go_ret
    exact ⟨rfl, below_drewN Hbel.out _⟩
  ·have hkn : k = n := by omega
   have hbt : b = true := Hb.out.symm.trans (decide_eq_true (by
    have h1 := Hkey.out
    rw [hkn, List.take_of_length_le (by rw [Hn.out]; exact Nat.le_refl _), List.take_of_length_le (by rw [Hn2.out]; exact Nat.le_refl _)] at h1
    exact h1))
   subst hbt
   clear hbel hkn
   go_wp2
   go_ret
   exact ⟨rfl, Hbel.out⟩
end Go.Proofs.YtlgbehagflnfgaaGreatDoor

/- QUEUE: THE WALK OVER lives. -/
namespace Go.Proofs.YtlgbehagflnfgaaGreatDoor
open Go.RowKit
set_option maxRecDepth 100000
set_option linter.unusedVariables false
set_option linter.unusedSimpArgs false

set_option maxHeartbeats 4000000 in
theorem qlives_any (w : World) (hT : Tabs w) (hw : 3 < w.heap.size) : Calls Tryz.prog 16 #[] w fun e w' => e = .returned (.bool true) ∧ Below w.heap.size w w' := by
 have HT := Lib.hid hT
 have HB := Lib.hid (Below.refl w.heap.size w)
 clear hT
 obtain ⟨q1, q2, q3, q4, q5, e1, e2, e3, e4, e5, e6⟩ := lives_math
 obtain ⟨⟨⟨fs1, dn1, fu1, fa1⟩, sz1, fr1, nx1, br1⟩, es1, mo1⟩ := q1
 obtain ⟨⟨⟨fs2, dn2, fu2, fa2⟩, sz2, fr2, nx2, br2⟩, es2, mo2⟩ := q2
 obtain ⟨⟨⟨fs3, dn3, fu3, fa3⟩, sz3, fr3, nx3, br3⟩, es3, mo3⟩ := q3
 obtain ⟨⟨⟨fs4, dn4, fu4, fa4⟩, sz4, fr4, nx4, br4⟩, es4, mo4⟩ := q4
 obtain ⟨⟨⟨fs5, dn5, fu5, fa5⟩, sz5, fr5, nx5, br5⟩, es5, mo5⟩ := q5
 have H1 := Lib.hid e1
 clear e1
 have H2 := Lib.hid e2
 clear e2
 have H3 := Lib.hid e3
 clear e3
 have H4 := Lib.hid e4
 clear e4
 have H5 := Lib.hid e5
 clear e5
 have H6 := Lib.hid e6
 clear e6
 go_enter Tryz.func16, Tryz.ntmps16
 go_wp2_with fail
 refine (qwhole_any w).mono ?_
 rintro e w1 ⟨rfl, hb⟩
 replace HB := Lib.hid (HB.out.trans (hb.mono HB.out.size))
 clear hb
 go_wp2_with fail
 refine (qopen_any w1 none 0 0 ⟨[], false, -1, -1⟩ 100 5 (DIn.nothing w1 (fu := -1) (fa := -1) (by unfold Num; omega) (by unfold Num; omega)) (by unfold Num; omega) (by unfold Num; omega) (HT.out.under HB.out) (by have := HB.out.size; omega)).mono ?_
 rintro e w2 hP
 rw [openQ_nil (by omega) (by omega)] at hP
 obtain ⟨hb, ada, na, capa, bea, ma, cpa, rfl, hqa⟩ := hP
 replace HB := Lib.hid (HB.out.trans (hb.mono HB.out.size))
 have Hqa := Lib.hid hqa
 clear hb hqa
 obtain ⟨W2, hW2⟩ : ∃ W, W = w2.alloc (.cells #[.slice ada na capa, .bool false, .int .i64 (-1), .int .i64 (-1), .int .i64 100, .int .u64 1, .int .u64 1, .bool false, .slice bea ma cpa, .int .i64 5] 30) := ⟨_, rfl⟩
 have hbW2 : Below w2.heap.size w2 W2 := by rw [hW2]; exact (Below.refl _ w2).alloc (Nat.le_refl _) _
 have HV := Lib.hid (show QV w W2 w2.heap.size (q0Q 100 5) ada na capa bea ma cpa from ⟨by rw [hW2]; exact blk_new w2 _, Hqa.out.under hbW2, HB.out.trans (hbW2.mono HB.out.size), HB.out.size⟩)
 replace HB := Lib.hid (HB.out.trans (hbW2.mono HB.out.size))
 clear hbW2 Hqa
 go_upto_region 2 with (fail)
 rw [← hW2]
 clear hW2
 obtain ⟨c0, c1, c2, c3, c4, c5, c6, c7, c8, c9⟩ := box10 HV.out.h
 have hlc := (Array.getElem?_eq_some_iff.1 HV.out.h).1
 go_wp2_with fail
 refine (put24_any W2 ada na capa bea ma cpa _ HV.out.i (HT.out.under HB.out) (by have := HB.out.size; omega) aB (by decide)).mono ?_
 rintro e w3 hP
 rw [H1.out] at hP
 obtain ⟨hb, ad1, n1, cap1, be1, m1, cp1, rfl, hq, ho, hp⟩ := hP
 clear c0 c1 c2 c3 c4 c5 c6 c7 c8 c9 hlc
 have HU := Lib.hid (HV.out.under hb)
 obtain ⟨y0, y1, y2, y3, y4, y5, y6, y7, y8, y9⟩ := box10 HU.out.h
 have hly := (Array.getElem?_eq_some_iff.1 HU.out.h).1
 obtain ⟨z0, z1, z2, z3, z4, z5, z6, z7, z8, z9⟩ := frz10 HU.out.h
 go_upto_region 3 with (fail)
 obtain ⟨G1, hG⟩ : ∃ G, G = ((((((((((w3).setCell ⟨w2.heap.size, 0, none⟩ (.slice ad1 n1 cap1)).setCell ⟨w2.heap.size, 1, none⟩ (.bool dn1)).setCell ⟨w2.heap.size, 2, none⟩ (.int .i64 fu1)).setCell ⟨w2.heap.size, 3, none⟩ (.int .i64 fa1)).setCell ⟨w2.heap.size, 4, none⟩ (.int .i64 sz1)).setCell ⟨w2.heap.size, 5, none⟩ (.int .u64 fr1)).setCell ⟨w2.heap.size, 6, none⟩ (.int .u64 nx1)).setCell ⟨w2.heap.size, 7, none⟩ (.bool br1)).setCell ⟨w2.heap.size, 8, none⟩ (.slice be1 m1 cp1)).setCell ⟨w2.heap.size, 9, none⟩ (.int .i64 mo1) := ⟨_, rfl⟩
 rw [← hG]
 replace HV := Lib.hid (HV.out.put hb hq ho hp hG)
 replace HB := Lib.hid HV.out.b
 clear y0 y1 y2 y3 y4 y5 y6 y7 y8 y9 hly
 clear z0 z1 z2 z3 z4 z5 z6 z7 z8 z9 hG hb hq ho hp HU
 obtain ⟨c0, c1, c2, c3, c4, c5, c6, c7, c8, c9⟩ := box10 HV.out.h
 have hlc := (Array.getElem?_eq_some_iff.1 HV.out.h).1
 go_wp2_with fail
 refine (put24_any G1 ad1 n1 cap1 be1 m1 cp1 _ HV.out.i (HT.out.under HB.out) (by have := HB.out.size; omega) bB (by decide)).mono ?_
 rintro e w4 hP
 rw [H2.out] at hP
 obtain ⟨hb, ad2, n2, cap2, be2, m2, cp2, rfl, hq, ho, hp⟩ := hP
 clear c0 c1 c2 c3 c4 c5 c6 c7 c8 c9 hlc
 have HU := Lib.hid (HV.out.under hb)
 obtain ⟨y0, y1, y2, y3, y4, y5, y6, y7, y8, y9⟩ := box10 HU.out.h
 have hly := (Array.getElem?_eq_some_iff.1 HU.out.h).1
 obtain ⟨z0, z1, z2, z3, z4, z5, z6, z7, z8, z9⟩ := frz10 HU.out.h
 go_upto_region 4 with (fail)
 obtain ⟨G2, hG⟩ : ∃ G, G = ((((((((((w4).setCell ⟨w2.heap.size, 0, none⟩ (.slice ad2 n2 cap2)).setCell ⟨w2.heap.size, 1, none⟩ (.bool dn2)).setCell ⟨w2.heap.size, 2, none⟩ (.int .i64 fu2)).setCell ⟨w2.heap.size, 3, none⟩ (.int .i64 fa2)).setCell ⟨w2.heap.size, 4, none⟩ (.int .i64 sz2)).setCell ⟨w2.heap.size, 5, none⟩ (.int .u64 fr2)).setCell ⟨w2.heap.size, 6, none⟩ (.int .u64 nx2)).setCell ⟨w2.heap.size, 7, none⟩ (.bool br2)).setCell ⟨w2.heap.size, 8, none⟩ (.slice be2 m2 cp2)).setCell ⟨w2.heap.size, 9, none⟩ (.int .i64 mo2) := ⟨_, rfl⟩
 rw [← hG]
 replace HV := Lib.hid (HV.out.put hb hq ho hp hG)
 replace HB := Lib.hid HV.out.b
 clear y0 y1 y2 y3 y4 y5 y6 y7 y8 y9 hly
 clear z0 z1 z2 z3 z4 z5 z6 z7 z8 z9 hG hb hq ho hp HU
 obtain ⟨c0, c1, c2, c3, c4, c5, c6, c7, c8, c9⟩ := box10 HV.out.h
 have hlc := (Array.getElem?_eq_some_iff.1 HV.out.h).1
 go_wp2_with fail
 refine (lease25_any G2 ad2 n2 cap2 be2 m2 cp2 _ HV.out.i (HT.out.under HB.out) (by have := HB.out.size; omega) ).mono ?_
 rintro e w5 hP
 rw [H3.out] at hP
 obtain ⟨hb, ad3, n3, cap3, be3, m3, cp3, rfl, hq, ho, hp⟩ := hP
 clear c0 c1 c2 c3 c4 c5 c6 c7 c8 c9 hlc
 have HU := Lib.hid (HV.out.under hb)
 obtain ⟨y0, y1, y2, y3, y4, y5, y6, y7, y8, y9⟩ := box10 HU.out.h
 have hly := (Array.getElem?_eq_some_iff.1 HU.out.h).1
 obtain ⟨z0, z1, z2, z3, z4, z5, z6, z7, z8, z9⟩ := frz10 HU.out.h
 go_upto_region 5 with (fail)
 obtain ⟨G3, hG⟩ : ∃ G, G = ((((((((((w5).setCell ⟨w2.heap.size, 0, none⟩ (.slice ad3 n3 cap3)).setCell ⟨w2.heap.size, 1, none⟩ (.bool dn3)).setCell ⟨w2.heap.size, 2, none⟩ (.int .i64 fu3)).setCell ⟨w2.heap.size, 3, none⟩ (.int .i64 fa3)).setCell ⟨w2.heap.size, 4, none⟩ (.int .i64 sz3)).setCell ⟨w2.heap.size, 5, none⟩ (.int .u64 fr3)).setCell ⟨w2.heap.size, 6, none⟩ (.int .u64 nx3)).setCell ⟨w2.heap.size, 7, none⟩ (.bool br3)).setCell ⟨w2.heap.size, 8, none⟩ (.slice be3 m3 cp3)).setCell ⟨w2.heap.size, 9, none⟩ (.int .i64 mo3) := ⟨_, rfl⟩
 rw [← hG]
 have hsG : G3.heap.size = w5.heap.size := by rw [hG]; exact put10_size _ _ _ _ _ _ _ _ _ _ _ _
 replace HV := Lib.hid (HV.out.put hb hq ho hp hG)
 obtain ⟨V3, hV3⟩ : ∃ W, W = G3.alloc (.cells #[.int .u64 1, .string aB, .bool true] 39) := ⟨_, rfl⟩
 rw [← hV3]
 have hbV : Below G3.heap.size G3 V3 := by rw [hV3]; exact (Below.refl _ G3).alloc (Nat.le_refl _) _
 have HE := Lib.hid (show Blk V3 w5.heap.size #[.int .u64 1, .string aB, .bool true] 39 from by rw [hV3, ← hsG]; exact blk_new G3 _)
 replace HV := Lib.hid (HV.out.under hbV)
 replace HB := Lib.hid HV.out.b
 have HN := Lib.hid (show w2.heap.size < w5.heap.size from by have h1 := (Array.getElem?_eq_some_iff.1 HU.out.h).1; exact h1)
 clear hV3 hbV hsG
 clear y0 y1 y2 y3 y4 y5 y6 y7 y8 y9 hly
 clear z0 z1 z2 z3 z4 z5 z6 z7 z8 z9 hG hb hq ho hp HU
 obtain ⟨c0, c1, c2, c3, c4, c5, c6, c7, c8, c9⟩ := box10 HV.out.h
 have hlc := (Array.getElem?_eq_some_iff.1 HV.out.h).1
 obtain ⟨x0, x1, x2⟩ := box3 HE.out
 have hle := HE.out.lt
 go_wp2_with fail
 refine (ack26_any V3 ad3 n3 cap3 be3 m3 cp3 _ HV.out.i (HT.out.under HB.out) (by have := HB.out.size; omega) 1 (by decide)).mono ?_
 rintro e w6 hP
 rw [H4.out] at hP
 obtain ⟨hb, ad4, n4, cap4, be4, m4, cp4, rfl, hq, ho, hp⟩ := hP
 clear c0 c1 c2 c3 c4 c5 c6 c7 c8 c9 hlc
 clear x0 x1 x2 hle
 have HU := Lib.hid (HV.out.under hb)
 replace HE := Lib.hid (HE.out.under hb)
 obtain ⟨y0, y1, y2, y3, y4, y5, y6, y7, y8, y9⟩ := box10 HU.out.h
 have hly := (Array.getElem?_eq_some_iff.1 HU.out.h).1
 obtain ⟨z0, z1, z2, z3, z4, z5, z6, z7, z8, z9⟩ := frz10 HU.out.h
 go_upto_region 6 with (fail)
 obtain ⟨G4, hG⟩ : ∃ G, G = ((((((((((w6).setCell ⟨w2.heap.size, 0, none⟩ (.slice ad4 n4 cap4)).setCell ⟨w2.heap.size, 1, none⟩ (.bool dn4)).setCell ⟨w2.heap.size, 2, none⟩ (.int .i64 fu4)).setCell ⟨w2.heap.size, 3, none⟩ (.int .i64 fa4)).setCell ⟨w2.heap.size, 4, none⟩ (.int .i64 sz4)).setCell ⟨w2.heap.size, 5, none⟩ (.int .u64 fr4)).setCell ⟨w2.heap.size, 6, none⟩ (.int .u64 nx4)).setCell ⟨w2.heap.size, 7, none⟩ (.bool br4)).setCell ⟨w2.heap.size, 8, none⟩ (.slice be4 m4 cp4)).setCell ⟨w2.heap.size, 9, none⟩ (.int .i64 mo4) := ⟨_, rfl⟩
 rw [← hG]
 have hE4 : G4.heap[w5.heap.size]? = w6.heap[w5.heap.size]? := by rw [hG]; exact put10_other (by have := HN.out; omega) _ _ _ _ _ _ _ _ _ _
 replace HE := Lib.hid (show Blk G4 w5.heap.size #[.int .u64 1, .string aB, .bool true] 39 from hE4.trans HE.out)
 replace HV := Lib.hid (HV.out.put hb hq ho hp hG)
 replace HB := Lib.hid HV.out.b
 clear hE4
 clear y0 y1 y2 y3 y4 y5 y6 y7 y8 y9 hly
 clear z0 z1 z2 z3 z4 z5 z6 z7 z8 z9 hG hb hq ho hp HU
 obtain ⟨c0, c1, c2, c3, c4, c5, c6, c7, c8, c9⟩ := box10 HV.out.h
 have hlc := (Array.getElem?_eq_some_iff.1 HV.out.h).1
 go_wp2_with fail
 refine (qopen_any G4 ad4 n4 cap4 ⟨fs4, dn4, fu4, fa4⟩ 100 5 HV.out.i.l.d (by unfold Num; omega) (by unfold Num; omega) (HT.out.under HB.out) (by have := HB.out.size; omega)).mono ?_
 rintro e w7 hP
 rw [H5.out] at hP
 obtain ⟨hb, ad5, n5, cap5, be5, m5, cp5, rfl, hq⟩ := hP
 clear c0 c1 c2 c3 c4 c5 c6 c7 c8 c9 hlc
 have es5_ : es5 = [⟨2, bB, false⟩] := H6.out
 subst es5_
 replace HE := Lib.hid (HE.out.under hb)
 replace HB := Lib.hid (HB.out.trans (hb.mono HB.out.size))
 obtain ⟨V5, hV5⟩ : ∃ W, W = w7.alloc (.cells #[.slice ad5 n5 cap5, .bool dn5, .int .i64 fu5, .int .i64 fa5, .int .i64 sz5, .int .u64 fr5, .int .u64 nx5, .bool br5, .slice be5 m5 cp5, .int .i64 mo5] 30) := ⟨_, rfl⟩
 have hbV : Below w7.heap.size w7 V5 := by rw [hV5]; exact (Below.refl _ w7).alloc (Nat.le_refl _) _
 have HP := Lib.hid (show QV w V5 w7.heap.size ⟨⟨⟨fs5, dn5, fu5, fa5⟩, sz5, fr5, nx5, br5⟩, [⟨2, bB, false⟩], mo5⟩ ad5 n5 cap5 be5 m5 cp5 from ⟨by rw [hV5]; exact blk_new w7 _, hq.under hbV, HB.out.trans (hbV.mono HB.out.size), HB.out.size⟩)
 replace HE := Lib.hid (HE.out.under hbV)
 clear hbV hq HV
 go_upto_region 7 with (fail)
 rw [← hV5]
 clear hV5 hb
 obtain ⟨x0, x1, x2⟩ := box3 HE.out
 have hle := HE.out.lt
 obtain ⟨c0, c1, c2, c3, c4, c5, c6, c7, c8, c9⟩ := box10 HP.out.h
 have hlc := (Array.getElem?_eq_some_iff.1 HP.out.h).1
 have hm5 : m5 = 1 := HP.out.i.e.1
 subst hm5
 have hels := HP.out.i.e.2.2.2
 obtain ⟨ge, oe, rfl, hge, hce⟩ := hels (by simp)
 obtain ⟨p0, p1, p2⟩ := hce 0 _ rfl
 have p0' : V5.cell? ⟨ge, oe, none⟩ = some (.int .u64 2) := by simpa using p0
 have p1' : V5.cell? ⟨ge, oe + 1, none⟩ = some (.string bB) := by simpa using p1
 have p2' : V5.cell? ⟨ge, oe + 2, none⟩ = some (.bool false) := by simpa using p2
 clear p0 p1 p2 hels hce
 go_wp2
 go_ret
 exact ⟨rfl, HP.out.b⟩
end Go.Proofs.YtlgbehagflnfgaaGreatDoor

/- QUEUE, MATHEMATICS: the entries behind a step stand in order. -/
namespace Go.Proofs.YtlgbehagflnfgaaGreatDoor
open Go.RowKit
set_option maxRecDepth 100000
set_option linter.unusedVariables false
set_option linter.unusedSimpArgs false

/-- a cell's value -/
def At1 (w : World) (g o : Nat) (v : Value) : Prop := g < w.heap.size ∧ w.cell? ⟨g, o, none⟩ = some v
theorem At1.under {w w' : World} {g o : Nat} {v : Value} (h : At1 w g o v) (hb : Below w.heap.size w w') : At1 w' g o v := ⟨Nat.lt_of_lt_of_le h.1 hb.size, (hb.cell (p := ⟨g, o, none⟩) h.1).trans h.2⟩
end Go.Proofs.YtlgbehagflnfgaaGreatDoor

/- QUEUE, MATHEMATICS: a lease, released. -/
namespace Go.Proofs.YtlgbehagflnfgaaGreatDoor
open Go.RowKit
set_option maxRecDepth 100000
set_option linter.unusedVariables false
set_option linter.unusedSimpArgs false

end Go.Proofs.YtlgbehagflnfgaaGreatDoor

/- QUEUE, MATHEMATICS: a queue that is filled; one entry acked makes room. -/
namespace Go.Proofs.YtlgbehagflnfgaaGreatDoor
open Go.RowKit
set_option maxRecDepth 100000
set_option linter.unusedVariables false
set_option linter.unusedSimpArgs false

end Go.Proofs.YtlgbehagflnfgaaGreatDoor

/- QUEUE, MATHEMATICS: whatever a crash leaves of a step on a disk that may fail, the entries are those ahead of it or behind it. -/
namespace Go.Proofs.YtlgbehagflnfgaaGreatDoor
open Go.RowKit
set_option maxRecDepth 100000
set_option linter.unusedVariables false
set_option linter.unusedSimpArgs false

theorem dropM_files (l : L) (q : Int) : (dropM l q).1.d.files = (dropS l q).1.d.files := by
 unfold dropM
 split
 ·split <;> rfl
 ·rfl
/-- what a step makes of the entries, when all of it is done -/
def aftM (nx : Nat) (es : List E) : QS → List E
 | .put d => es ++ [⟨nx, d, false⟩]
 | .ack s => es.filter (fun e => decide (e.seq ≠ s))
 | _ => es
/-- what is opened behind a crash -/
def CrO (fs : List F) (K : Nat) (size : Int) (ks : List Int) (P : List E → Prop) : Prop :=
 ∃ fs2 fr2 rs2, KK fs2 fr2 rs2 ∧ openM ⟨crashL ks fs, false, -1, -1⟩ size = (klr fs2 fr2 rs2 (-1) (-1) size, rs2, 0) ∧ 1 ≤ fr2 ∧ fr2 + rs2.length ≤ K ∧ P (entM rs2)
theorem cro_kk {fs : List F} {fr : Nat} {rs : List Rec} {size : Int} {K : Nat} {P : List E → Prop} (h : KK fs fr rs) (hs : 1 ≤ size ∧ size ≤ 262144) (h1 : 1 ≤ fr) (hb : fr + rs.length ≤ K) (ks : List Int) (hp : P (entM rs)) : CrO fs K size ks P :=
 ⟨fs, fr, rs, h, by rw [kk_crash h]; exact open_kkr h hs, h1, hb, hp⟩
theorem CrO.mono {fs : List F} {K : Nat} {size : Int} {ks : List Int} {P P2 : List E → Prop} (h : CrO fs K size ks P) (hp : ∀ es, P es → P2 es) : CrO fs K size ks P2 := by
 obtain ⟨a, b, c, d, e, f, g, i⟩ := h
 exact ⟨a, b, c, d, e, f, g, hp _ i⟩
theorem qg_last {q : Q} {fs : List F} {fr : Nat} {rs : List Rec} {fuse fault size : Int} {K : Nat} (h : QG q fs fr rs fuse fault size K) (hK : K < 4611686018427387904) (hu : Num fuse) (ha : Num fault) (s : QS) (ks : List Int) :
  CrO (chQ q s).1.l.d.files (K + 1) size ks (fun es => ((chQ q s).2.2 = 0 → es = aftM (fr + rs.length) (entM rs) s) ∧ (es = entM rs ∨ es = aftM (fr + rs.length) (entM rs) s) ∧ ((chQ q s).1.l = q.l → (chQ q s).2.2 ≠ 0 → es = entM rs)) := by
 have hb := h.bd
 have hfs : q.l.d.files = fs := by rw [h.l]
 have same : ∀ (l : L) (P : List E → Prop), l = q.l → P (entM rs) → CrO l.d.files (K + 1) size ks P := fun l P e hp => by
  rw [e, hfs]
  exact cro_kk h.kk h.sz h.fr1 (by omega) ks hp
 unfold chQ
 rw [if_neg (by rw [h.l]; simp)]
 cases s with
 | none => exact same _ _ rfl ⟨fun _ => rfl, .inl rfl, fun _ _ => rfl⟩
 | lease =>
  show CrO (leaseM q).1.l.d.files _ _ _ _
  have hl : (stM q QS.lease).1.l = q.l := by
   show (leaseM q).1.l = q.l
   unfold leaseM
   split
   ·rfl
   ·split <;> rfl
  exact same _ _ hl ⟨fun _ => rfl, .inl rfl, fun _ _ => rfl⟩
 | release s =>
  have hl : (stM q (QS.release s)).1.l = q.l := by
   show (releaseM q s).1.l = q.l
   unfold releaseM
   split
   ·rfl
   ·split <;> rfl
  exact same _ _ hl ⟨fun _ => rfl, .inl rfl, fun _ _ => rfl⟩
 | put d =>
  show CrO (putM q d).1.l.d.files _ _ _ (fun es => ((putM q d).2.2 = 0 → _) ∧ _ ∧ ((putM q d).1.l = q.l → (putM q d).2.2 ≠ 0 → _))
  unfold putM
  split
  ·exact same _ _ rfl ⟨fun h => by simp at h, .inl rfl, fun _ _ => rfl⟩
  split
  ·exact same _ _ rfl ⟨fun h => by simp at h, .inl rfl, fun _ _ => rfl⟩
  rename_i hm hd
  have hps := put_size d
  have hA := app_kkr (d := putB d) (by omega) h.kk h.sz hu ha
  have hl : appM q.l (putB d) = appM (klr fs fr rs fuse fault size) (putB d) := by rw [h.l]
  rw [hl]
  obtain ⟨r, hr⟩ : ∃ r, appM (klr fs fr rs fuse fault size) (putB d) = r := ⟨_, rfl⟩
  rw [hr] at hA ⊢
  obtain ⟨fs2, rs2, k1, k2, k3⟩ := aft_openR hA.aft ks h.sz
  have hent : ∀ h1 h2, entM (rs ++ [(⟨fr + rs.length, putB d, h1, h2⟩ : Rec)]) = entM rs ++ [⟨fr + rs.length, d, false⟩] := fun h1 h2 => entM_put rs _ d h1 h2
  have hfiles : (if r.2 = 0 then ((⟨r.1, q.es ++ [⟨q.l.nx.toNat, d, false⟩], q.most⟩, ⟨q.l.nx.toNat, ⟨#[]⟩, false⟩, 0) : Ans) else (⟨r.1, q.es, q.most⟩, zE, r.2)).1.l.d.files = r.1.d.files := by split <;> rfl
  rw [hfiles]
  rcases k3 with ⟨hc, rfl⟩ | ⟨h1, h2, rfl⟩
  ·refine ⟨fs2, fr, rs2, k1, k2, h.fr1, by omega, ?_, .inl rfl, fun _ _ => rfl⟩
   rw [if_neg hc]
   intro h0
   exact absurd h0 hc
  ·refine ⟨fs2, fr, _, k1, k2, h.fr1, by rw [List.length_append, List.length_singleton]; omega, fun _ => hent h1 h2, .inr (hent h1 h2), ?_⟩
   intro hq hne
   exfalso
   by_cases hc : r.2 = 0
   ·rw [if_pos hc] at hne; exact hne rfl
   ·rw [if_neg hc] at hq
    -- refused, but the log as it was: nothing was written
    have hq' : r.1 = q.l := hq
    have hn := k1
    have hk0 : openM ⟨crashL ks r.1.d.files, false, -1, -1⟩ size = (klr fs fr rs (-1) (-1) size, rs, 0) := by
     rw [hq', hfs, kk_crash h.kk]
     exact open_kkr h.kk h.sz
    rw [hk0] at k2
    have := congrArg (fun x => x.2.1.length) k2
    simp at this
 | ack s =>
  show CrO (ackM q s).1.l.d.files _ _ _ (fun es => ((ackM q s).2.2 = 0 → _) ∧ _ ∧ ((ackM q s).1.l = q.l → (ackM q s).2.2 ≠ 0 → _))
  unfold ackM
  cases hi : heldAt q.es s with
  | none => exact same _ _ rfl ⟨fun h => by simp at h, .inl rfl, fun _ _ => rfl⟩
  | some i =>
   simp only
   have hin := h.inE
   obtain ⟨e, he, hpe, _⟩ := findIdx?_lt hi
   have hes : e.seq = s := by
    simp only [Bool.and_eq_true, decide_eq_true_eq] at hpe
    exact hpe.2
   have hseq := (inM_lt hin (List.mem_of_getElem? he)).1
   have hps := ack_size s
   have hA := app_kkr (d := ackB s) (by omega) h.kk h.sz hu ha
   have hF := app_facts (l := q.l) (d := ackB s) (h.R (by omega)).1 (by rw [h.l]; exact hu) (by rw [h.l]; exact ha)
   have hl : appM q.l (ackB s) = appM (klr fs fr rs fuse fault size) (ackB s) := by rw [h.l]
   rw [hl] at hF ⊢
   obtain ⟨r, hr⟩ : ∃ r, appM (klr fs fr rs fuse fault size) (ackB s) = r := ⟨_, rfl⟩
   rw [hr] at hA hF ⊢
   have hent : ∀ h1 h2, entM (rs ++ [(⟨fr + rs.length, ackB s, h1, h2⟩ : Rec)]) = (entM rs).filter (fun e => decide (e.seq ≠ s)) := fun h1 h2 => entM_ack rs _ s (by omega) h1 h2
   by_cases hc : r.2 = 0
   ·rw [if_pos hc]
    obtain ⟨h1, h2, hk, hre⟩ := hA.ok hc
    have hRr := hF.R
    obtain ⟨fu2, hfu⟩ : ∃ x, r.1.d.fuse = x := ⟨_, rfl⟩
    obtain ⟨fa2, hfa⟩ : ∃ x, r.1.d.fault = x := ⟨_, rfl⟩
    obtain ⟨fs1, hfs1⟩ : ∃ x, r.1.d.files = x := ⟨_, rfl⟩
    rw [hfu, hfa, hfs1] at hre
    rw [hfs1] at hk
    rw [hre]
    rw [hre] at hRr
    generalize hq : firstM2 ⟨⟨fs1, false, fu2, fa2⟩, size, (fr : Int), ((fr + (rs.length + 1) : Nat) : Int), false⟩ (q.es.eraseIdx i) = fq
    have hfq : fq ≤ ((fr + (rs.length + 1) : Nat) : Int) := by
     rw [← hq]
     unfold firstM2
     cases hx : q.es.eraseIdx i with
     | nil => exact Int.le_refl _
     | cons x t =>
      have := inM_lt (inM_erase i hin) (x := x) (by rw [hx]; exact List.mem_cons_self)
      show (x.seq : Int) ≤ _
      omega
    obtain ⟨g, d2, d3, d4, _⟩ := drop_some (filesM fs1) fs1 fr _ size (fr : Int) ((fr + (rs.length + 1) : Nat) : Int) fq fu2 fa2 false rfl hk
    have hdr : (drM ⟨⟨fs1, false, fu2, fa2⟩, size, (fr : Int), ((fr + (rs.length + 1) : Nat) : Int), false⟩ fq).1.d.files = (doS ⟨⟨fs1, false, fu2, fa2⟩, size, (fr : Int), ((fr + (rs.length + 1) : Nat) : Int), false⟩ (((filesM fs1).take (cutN (filesM fs1) fq)).map rmS)).1.d.files := by
     unfold drM
     rw [if_pos hRr]
     unfold chM
     rw [if_neg (by simp)]
     show (cutM _ _).1.d.files = _
     unfold cutM
     rw [if_neg (by show ¬ ((fr + (rs.length + 1) : Nat) : Int) < fq; omega), dropM_files]
     rfl
    have hmapE : (q.es.eraseIdx i).map freeE = entM (rs ++ [(⟨fr + rs.length, ackB s, h1, h2⟩ : Rec)]) := by
     rw [erase_filter he (inM_iff.1 hin).2, map_filter_free, h.es, hent h1 h2, hes]
    have hent2 : entM ((rs ++ [(⟨fr + rs.length, ackB s, h1, h2⟩ : Rec)]).drop g) = entM (rs ++ [(⟨fr + rs.length, ackB s, h1, h2⟩ : Rec)]) := by
     refine entM_drop (kk_row hk) fun x hx => ?_
     rcases d4 with e0 | e0
     ·have := (ent_bd (kk_row hk) hx).1
      omega
     ·rw [← hmapE] at hx
      obtain ⟨y, hy, rfl⟩ := List.mem_map.1 hx
      show fr + g ≤ y.seq
      rw [← hq] at e0
      cases hz : q.es.eraseIdx i with
      | nil => rw [hz] at hy; cases hy
      | cons z t =>
       have hi2 := inM_erase i hin
       rw [hz] at hi2 hy e0
       have h3 : firstM2 ⟨⟨fs1, false, fu2, fa2⟩, size, (fr : Int), ((fr + (rs.length + 1) : Nat) : Int), false⟩ (z :: t) = (z.seq : Int) := rfl
       rw [h3] at e0
       rcases List.mem_cons.1 hy with w | w
       ·subst w; omega
       ·have := inM_ge hi2.2.2.2 w
        omega
    show CrO (drM _ fq).1.d.files _ _ _ _
    rw [hdr]
    refine cro_kk d2 h.sz (by have := h.fr1; omega) (by rw [List.length_drop, List.length_append, List.length_singleton]; omega) ks ?_
    rw [hent2, hent h1 h2]
    refine ⟨fun _ => rfl, .inr rfl, fun hq2 _ => ?_⟩
    exfalso
    -- the log has one number more
    have hnx : (drM ⟨⟨fs1, false, fu2, fa2⟩, size, (fr : Int), ((fr + (rs.length + 1) : Nat) : Int), false⟩ fq).1.nx = ((fr + (rs.length + 1) : Nat) : Int) := by
     have hnum : Num fu2 ∧ Num fa2 := ⟨by rw [← hfu]; exact hA.nf, by rw [← hfa]; exact hA.na⟩
     have hC := cut_facts (l := ⟨⟨fs1, false, fu2, fa2⟩, size, (fr : Int), ((fr + (rs.length + 1) : Nat) : Int), false⟩) (q := fq) hRr.1 hnum.1 hnum.2
     unfold drM
     rw [if_pos hRr]
     unfold chM
     rw [if_neg (by simp)]
     exact hC.nx
    have h4 : (drM ⟨⟨fs1, false, fu2, fa2⟩, size, (fr : Int), ((fr + (rs.length + 1) : Nat) : Int), false⟩ fq).1 = q.l := hq2
    rw [h4, h.l] at hnx
    have h5 : ((fr + rs.length : Nat) : Int) = ((fr + (rs.length + 1) : Nat) : Int) := hnx
    omega
   ·rw [if_neg hc]
    obtain ⟨fs2, rs2, k1, k2, k3⟩ := aft_openR hA.aft ks h.sz
    show CrO r.1.d.files _ _ _ _
    rcases k3 with ⟨_, rfl⟩ | ⟨h1, h2, rfl⟩
    ·exact ⟨fs2, fr, rs2, k1, k2, h.fr1, by omega, fun h0 => absurd h0 hc, .inl rfl, fun _ _ => rfl⟩
    ·refine ⟨fs2, fr, _, k1, k2, h.fr1, by rw [List.length_append, List.length_singleton]; omega, fun h0 => absurd h0 hc, .inr (hent h1 h2), ?_⟩
     intro hq hne
     exfalso
     have hq' : r.1 = q.l := hq
     have hk0 : openM ⟨crashL ks r.1.d.files, false, -1, -1⟩ size = (klr fs fr rs (-1) (-1) size, rs, 0) := by
      rw [hq', hfs, kk_crash h.kk]
      exact open_kkr h.kk h.sz
     rw [hk0] at k2
     have := congrArg (fun x => x.2.1.length) k2
     simp at this
end Go.Proofs.YtlgbehagflnfgaaGreatDoor

/- QUEUE, MATHEMATICS: QueueKept's loop: what was put, and not acked, are the entries of the records. -/
namespace Go.Proofs.YtlgbehagflnfgaaGreatDoor
open Go.RowKit
set_option maxRecDepth 100000
set_option linter.unusedVariables false
set_option linter.unusedSimpArgs false

/-- a queue behind i steps, and what is wanted of it -/
def KI (size most : Int) (i : Nat) (want : List E) (q : Q) : Prop := ∃ fs fr rs, QG q fs fr rs (-1) (-1) size (1 + i) ∧ want = entM rs ∧ q.most = most
theorem ki_zero {size most : Int} (hs : 1 ≤ size ∧ size ≤ 262144) (hm : 1 ≤ most ∧ most ≤ 1024) : KI size most 0 [] (q0Q size most) := ⟨[], 1, [], qg_nil hs hm, rfl, rfl⟩
theorem aftE_same {k : Int} {data : ByteArray} {s n : Nat} {want : List E} (h4 : k ≠ 4) (h1 : k ≠ 1) : aftE k data s n want = want := by
 unfold aftE
 rw [if_neg h1, List.append_nil]
 exact List.filter_eq_self.2 fun x _ => by simp [aftP, h4]
theorem aftE_put {data : ByteArray} {s n : Nat} {want : List E} : aftE 1 data s n want = want ++ [⟨n, data, false⟩] := by
 unfold aftE
 rw [if_pos rfl]
 congr 1
 exact List.filter_eq_self.2 fun x _ => by simp [aftP]
theorem aftE_ack {data : ByteArray} {s n : Nat} {want : List E} : aftE 4 data s n want = want.filter (fun x => decide (x.seq ≠ s)) := by
 unfold aftE
 rw [if_neg (by decide), List.append_nil]
 congr 1
 funext x
 simp [aftP]
/-- the step as the law does it, the step as the document's mathematics has it -/
theorem aftE_aftM {k : Int} {data : ByteArray} {s n : Nat} {want : List E} : aftE k data s n want = aftM n want (qsOf k data s) := by
 by_cases h1 : k = 1
 ·subst h1; rw [aftE_put]; rfl
 by_cases h4 : k = 4
 ·subst h4; rw [aftE_ack]; rfl
 rw [aftE_same h4 h1]
 unfold qsOf
 rw [if_neg h1]
 split
 ·rfl
 split
 ·rfl
 rfl
/-- a step that was OK -/
theorem ki_step {size most : Int} {i : Nat} {want : List E} {q : Q} (h : KI size most i want q) (hi : i < 4611686018427387902) (k : Int) (data : ByteArray) (s : Nat) (hc : (ansQ q (qsOf k data s)).2.2 = 0) :
  KI size most (i + 1) (aftE k data s (ansQ q (qsOf k data s)).2.1.seq want) (ansQ q (qsOf k data s)).1 := by
 obtain ⟨fs, fr, rs, hg, rfl, hmo⟩ := h
 have hans := hg.ans (by omega) (qsOf k data s)
 rw [hans] at hc ⊢
 by_cases h1 : k = 1
 ·subst h1
  have e : qsOf 1 data s = .put data := rfl
  rw [e] at hc ⊢
  rw [aftE_put]
  show KI size most (i + 1) _ (putM q data).1
  replace hc : (putM q data).2.2 = 0 := hc
  by_cases hm : q.most ≤ (q.es.length : Int)
  ·unfold putM at hc; rw [if_pos hm] at hc; simp at hc
  by_cases hd : 65535 < data.size
  ·unfold putM at hc; rw [if_neg hm, if_pos hd] at hc; simp at hc
  rcases qg_put hg (by omega) hm hd with ⟨_, fs2, a, b, g2, _, _, v2, m2⟩ | ⟨h8, _⟩
  ·refine ⟨fs2, fr, _, g2.mono (by omega), ?_, by rw [m2, hmo]⟩
   rw [entM_put]
   show _ ++ [(⟨(putM q data).2.1.seq, data, false⟩ : E)] = _
   rw [v2]
  ·omega
 by_cases h2 : k = 2
 ·subst h2
  have e : qsOf 2 data s = .lease := rfl
  rw [e] at hc ⊢
  rw [aftE_same (by decide) (by decide)]
  show KI size most (i + 1) _ (leaseM q).1
  replace hc : (leaseM q).2.2 = 0 := hc
  unfold leaseM at hc ⊢
  cases hf : freeAt q.es with
  | none => rw [hf] at hc; simp at hc
  | some j =>
   obtain ⟨x, hx, _⟩ := findIdx?_lt hf
   simp only [hx]
   exact ⟨fs, fr, rs, (hg.set hx (e2 := leaseE x) rfl).mono (K2 := 1 + (i + 1)) (by omega), rfl, hmo⟩
 by_cases h3 : k = 3
 ·subst h3
  have e : qsOf 3 data s = .release s := rfl
  rw [e] at hc ⊢
  rw [aftE_same (by decide) (by decide)]
  show KI size most (i + 1) _ (releaseM q s).1
  replace hc : (releaseM q s).2.2 = 0 := hc
  unfold releaseM at hc ⊢
  cases hf : heldAt q.es s with
  | none => rw [hf] at hc; simp at hc
  | some j =>
   obtain ⟨x, hx, _⟩ := findIdx?_lt hf
   simp only [hx]
   exact ⟨fs, fr, rs, (hg.set hx (e2 := freeE x) rfl).mono (K2 := 1 + (i + 1)) (by omega), rfl, hmo⟩
 by_cases h4 : k = 4
 ·subst h4
  have e : qsOf 4 data s = .ack s := rfl
  rw [e] at hc ⊢
  rw [aftE_ack]
  show KI size most (i + 1) _ (ackM q s).1
  replace hc : (ackM q s).2.2 = 0 := hc
  cases hf : heldAt q.es s with
  | none => unfold ackM at hc; rw [hf] at hc; simp at hc
  | some j =>
   obtain ⟨x, hx, hp, _⟩ := findIdx?_lt hf
   have hxs : x.seq = s := by
    simp only [Bool.and_eq_true, decide_eq_true_eq] at hp
    exact hp.2
   rcases qg_ack hg (by omega) hf hx hxs with ⟨_, fs2, fr2, rs2, g2, _, s2, _, m2⟩ | ⟨h8, _⟩
   ·refine ⟨fs2, fr2, rs2, g2.mono (by omega), ?_, by rw [m2, hmo]⟩
    rw [← g2.es, s2, erase_filter hx (inM_iff.1 hg.inE).2, map_filter_free, hg.es, hxs]
   ·omega
 ·have e : qsOf k data s = .none := by unfold qsOf; rw [if_neg h1, if_neg h2, if_neg h3, if_neg h4]
  rw [e] at hc
  exact absurd (show (5 : Int) = 0 from hc) (by decide)
/-- the same queue, its disk about to fail -/
theorem QG.fused {q : Q} {fs : List F} {fr : Nat} {rs : List Rec} {fu fa size : Int} {K : Nat} (h : QG q fs fr rs fu fa size K) (fuse fault : Int) : QG ⟨⟨⟨q.l.d.files, q.l.d.down, fuse, fault⟩, q.l.size, q.l.fr, q.l.nx, q.l.broken⟩, q.es, q.most⟩ fs fr rs fuse fault size K :=
 ⟨by show (⟨⟨q.l.d.files, q.l.d.down, fuse, fault⟩, q.l.size, q.l.fr, q.l.nx, q.l.broken⟩ : L) = _; rw [h.l], h.kk, h.es, h.sz, h.mo, h.ln, h.fr1, h.bd⟩
end Go.Proofs.YtlgbehagflnfgaaGreatDoor

/- QUEUE, MATHEMATICS: what codes an append answers. -/
namespace Go.Proofs.YtlgbehagflnfgaaGreatDoor
open Go.RowKit
set_option maxRecDepth 100000
set_option linter.unusedVariables false
set_option linter.unusedSimpArgs false

theorem add2_codes {fs1 fs : List F} {fr : Nat} {rs : List Rec} {fu fa fuse fault size : Int} {d : ByteArray} (hB : fr + rs.length < 4611686018427387904) (hlen : fs1.length ≤ fs.length + 1) (hk : KK fs1 fr rs) {l0 : List SF} {s : SF} {fs0 : List F} (hl : filesM fs1 = l0 ++ [s]) (h0 : fs1 = fs0 ++ [s.f]) (hf0 : filesM fs0 = l0) (hd : d.size ≤ 65536)
  (hz : s.f.data.size + (16 + d.size) ≤ 262144) (nfu : Num fu) (nfa : Num fa) (hfree : fuse = -1 → fault = -1 → fu = -1 ∧ fa = -1) :
  (add2 (klr fs1 fr rs fu fa size) (frameB (fr + rs.length) d)).2 = 0 ∨ (add2 (klr fs1 fr rs fu fa size) (frameB (fr + rs.length) d)).2 = 17 ∨ (add2 (klr fs1 fr rs fu fa size) (frameB (fr + rs.length) d)).2 = 18 := by
 have hl1 : fs0.length + 1 ≤ fs.length + 1 := by rw [h0] at hlen; simpa using hlen
 have hlast : lastN2 fs1 = s.f.name := by
  unfold lastN2 lastM
  rw [hl, last_snoc]
 have hR0 : Right (fs0 ++ [s.f]) := by rw [← h0]; exact hk.R
 have hok := hk.R.ok s.f (by rw [h0]; simp)
 have hsy := hk.sy s.f (by rw [h0]; simp)
 have hfs := frameB_size (fr + rs.length) d
 have hsz : (s.f.data ++ frameB (fr + rs.length) d).size = s.f.data.size + (16 + d.size) := by rw [size_app, hfs]
 obtain ⟨a1, a2⟩ := eff_last2 hR0 (frameB (fr + rs.length) d) (by rw [hfs]; exact hz)
 have hR1 : Right (fs0 ++ [⟨s.f.name, s.f.data ++ frameB (fr + rs.length) d, s.f.syn⟩]) := by rw [← a2]; exact right_eff hR0 ⟨by first | decide | (simp only [rmS]; decide), by first | decide | (simp only [rmS]; decide)⟩ a1
 obtain ⟨b1, b2⟩ := eff_last3 (f := ⟨s.f.name, s.f.data ++ frameB (fr + rs.length) d, s.f.syn⟩) hR1 ⟨#[]⟩
 have hR2 : Right (fs0 ++ [⟨s.f.name, s.f.data ++ frameB (fr + rs.length) d, ((s.f.data ++ frameB (fr + rs.length) d).size : Int)⟩]) := by rw [← b2]; exact right_eff hR1 ⟨by first | decide | (simp only [rmS]; decide), by first | decide | (simp only [rmS]; decide)⟩ b1
 simp only at b1 b2
 have hn1 : ((fr + rs.length : Nat) : Int) ≤ 4611686018427387904 := by omega
 have hlast' : lastN2 (fs0 ++ [s.f]) = s.f.name := by rw [← h0]; exact hlast
 unfold add2
 simp only [h0, hlast']
 rcases doo3 (d := ⟨fs0 ++ [s.f], false, fu, fa⟩) (m := ⟨2, s.f.name, frameB (fr + rs.length) d, 0⟩) hR0 rfl ⟨by first | decide | (simp only [rmS]; decide), by first | decide | (simp only [rmS]; decide)⟩ a1 with ⟨c1, e⟩ | ⟨c1, c2, e⟩ | ⟨c1, c2, e⟩
 ·have e3 : doS (klr (fs0 ++ [s.f]) fr rs fu fa size) [⟨2, s.f.name, frameB (fr + rs.length) d, 0⟩, ⟨3, s.f.name, ⟨#[]⟩, 0⟩] = (⟨⟨fs0 ++ [s.f], false, fu, -1⟩, size, (fr : Int), ((fr + rs.length : Nat) : Int), true⟩, 18) := by
   unfold doS; rw [e]; rfl
  rw [e3, if_neg (by first | decide | (simp only [rmS]; decide))]
  exact .inr (.inr rfl)
 ·have e3 : doS (klr (fs0 ++ [s.f]) fr rs fu fa size) [⟨2, s.f.name, frameB (fr + rs.length) d, 0⟩, ⟨3, s.f.name, ⟨#[]⟩, 0⟩] = (⟨⟨fs0 ++ [⟨s.f.name, s.f.data ++ frameB (fr + rs.length) d, s.f.syn⟩], true, 0, dec fa⟩, size, (fr : Int), ((fr + rs.length : Nat) : Int), true⟩, 17) := by
   have hh : half (fs0 ++ [s.f]) ⟨2, s.f.name, frameB (fr + rs.length) d, 0⟩ = fs0 ++ [⟨s.f.name, s.f.data ++ frameB (fr + rs.length) d, s.f.syn⟩] := by unfold half; rw [if_pos rfl]; exact a2
   simp only [hh] at e
   unfold doS; rw [e]; rfl
  rw [e3, if_neg (by first | decide | (simp only [rmS]; decide))]
  exact .inr (.inl rfl)
 ·simp only [a2] at e
  rcases doo3 (d := ⟨fs0 ++ [⟨s.f.name, s.f.data ++ frameB (fr + rs.length) d, s.f.syn⟩], false, dec fu, dec fa⟩) (m := ⟨3, s.f.name, ⟨#[]⟩, 0⟩) hR1 rfl ⟨by first | decide | (simp only [rmS]; decide), by first | decide | (simp only [rmS]; decide)⟩ b1 with ⟨g1, e2⟩ | ⟨g1, g2, e2⟩ | ⟨g1, g2, e2⟩
  ·have e3 : doS (klr (fs0 ++ [s.f]) fr rs fu fa size) [⟨2, s.f.name, frameB (fr + rs.length) d, 0⟩, ⟨3, s.f.name, ⟨#[]⟩, 0⟩] = (⟨⟨fs0 ++ [⟨s.f.name, s.f.data ++ frameB (fr + rs.length) d, s.f.syn⟩], false, dec fu, -1⟩, size, (fr : Int), ((fr + rs.length : Nat) : Int), true⟩, 18) := by
    unfold doS; rw [e, if_pos rfl]; unfold doS; rw [e2]; rfl
   rw [e3, if_neg (by first | decide | (simp only [rmS]; decide))]
   exact .inr (.inr rfl)
  ·have e3 : doS (klr (fs0 ++ [s.f]) fr rs fu fa size) [⟨2, s.f.name, frameB (fr + rs.length) d, 0⟩, ⟨3, s.f.name, ⟨#[]⟩, 0⟩] = (⟨⟨fs0 ++ [⟨s.f.name, s.f.data ++ frameB (fr + rs.length) d, s.f.syn⟩], true, 0, dec (dec fa)⟩, size, (fr : Int), ((fr + rs.length : Nat) : Int), true⟩, 17) := by
    have hh : half (fs0 ++ [⟨s.f.name, s.f.data ++ frameB (fr + rs.length) d, s.f.syn⟩]) ⟨3, s.f.name, ⟨#[]⟩, 0⟩ = fs0 ++ [⟨s.f.name, s.f.data ++ frameB (fr + rs.length) d, s.f.syn⟩] := by unfold half; exact if_neg (c := (3 : Int) = 2) (by decide)
    simp only [hh] at e2
    unfold doS; rw [e, if_pos rfl]; unfold doS; rw [e2]; rfl
   rw [e3, if_neg (by first | decide | (simp only [rmS]; decide))]
   exact .inr (.inl rfl)
  ·simp only [b2] at e2
   have e3 : doS (klr (fs0 ++ [s.f]) fr rs fu fa size) [⟨2, s.f.name, frameB (fr + rs.length) d, 0⟩, ⟨3, s.f.name, ⟨#[]⟩, 0⟩] = (⟨⟨fs0 ++ [⟨s.f.name, s.f.data ++ frameB (fr + rs.length) d, ((s.f.data ++ frameB (fr + rs.length) d).size : Int)⟩], false, dec (dec fu), dec (dec fa)⟩, size, (fr : Int), ((fr + rs.length : Nat) : Int), false⟩, 0) := by
    unfold doS; rw [e, if_pos rfl]; unfold doS; rw [e2, if_pos rfl]; unfold doS; rfl
   rw [e3, if_pos (by rfl)]
   exact .inl rfl
theorem app_codes {fs : List F} {fr : Nat} {rs : List Rec} {fuse fault size : Int} {d : ByteArray} (hB : fr + rs.length < 4611686018427387904) (hk : KK fs fr rs) (hs : 1 ≤ size ∧ size ≤ 262144) (nfu : Num fuse) (nfa : Num fault) : ((appM (klr fs fr rs fuse fault size) d).2 = 0 ∨ (appM (klr fs fr rs fuse fault size) d).2 = 17 ∨ (appM (klr fs fr rs fuse fault size) d).2 = 18) ∨ ((appM (klr fs fr rs fuse fault size) d).2 ≠ 0 ∧ (appM (klr fs fr rs fuse fault size) d).1.d.files = fs) := by
 have hn0 : (0 : Int) ≤ ((fr + rs.length : Nat) : Int) := by omega
 have hn1 : ((fr + rs.length : Nat) : Int) ≤ 4611686018427387904 := by omega
 unfold appM
 by_cases hd : 65536 < d.size
 ·rw [if_pos hd]
  exact .inr ⟨(by show (4 : Int) ≠ 0; decide), rfl⟩
 rw [if_neg hd, if_neg (by show ¬ ((fr + rs.length : Nat) : Int) = 4611686018427387904; omega)]
 have hfb : frB (klr fs fr rs fuse fault size) d = frameB (fr + rs.length) d := by
  unfold frB frameB
  rw [show (klr fs fr rs fuse fault size).nx.toNat = fr + rs.length from Int.toNat_natCast _]
 have hfs := frameB_size (fr + rs.length) d
 unfold addM
 rw [hfb]
 by_cases hroom : roomM fs size ((16 + d.size : Nat) : Int) = true
 ·have h1 : add1 (klr fs fr rs fuse fault size) d = (klr fs fr rs fuse fault size, 0) := by
   unfold add1
   rw [hfb, hfs, if_pos hroom]
  rw [h1, if_pos rfl]
  unfold roomM at hroom
  cases hl : lastM fs with
  | none => rw [hl] at hroom; cases hroom
  | some s =>
   rw [hl] at hroom
   simp only [Bool.and_eq_true, decide_eq_true_eq] at hroom
   rcases List.eq_nil_or_concat (filesM fs) with e | ⟨l0, s', e⟩
   ·unfold lastM at hl; rw [e] at hl; cases hl
   ·rw [List.concat_eq_append] at e
    have hss : s' = s := by
     unfold lastM at hl
     rw [e, last_snoc] at hl
     injection hl
    subst hss
    obtain ⟨fs0, g1, g2⟩ := last_at hk.lg e
    exact .inl (add2_codes (fs := fs) (fuse := fuse) (fault := fault) hB (by omega) hk e g1 g2 (by omega) (by omega) nfu nfa (fun a b => ⟨a, b⟩))
 ·have h1 : add1 (klr fs fr rs fuse fault size) d = doS (klr fs fr rs fuse fault size) [⟨1, nameB (fr + rs.length), ⟨#[]⟩, 0⟩] := by
   unfold add1
   rw [hfb, hfs, if_neg hroom]
   rw [show (klr fs fr rs fuse fault size).nx.toNat = fr + rs.length from Int.toNat_natCast _]
  have hne : ∀ l0 s, filesM fs = l0 ++ [s] → s.f.data.size ≠ 0 := fun l0 s e h0 => by
   apply hroom
   unfold roomM lastM
   rw [e, last_snoc]
   simp only [h0, Bool.and_eq_true, decide_eq_true_eq]
   omega
  obtain ⟨k1, k2, k3⟩ := kk_new hk (by omega) hne 0 ⟨#[]⟩
  rw [h1]
  by_cases h64 : fs.length = 64
  ·rw [if_pos h64] at k1
   have e3 : doS (klr fs fr rs fuse fault size) [⟨1, nameB (fr + rs.length), ⟨#[]⟩, 0⟩] = (⟨⟨fs, false, fuse, fault⟩, size, (fr : Int), ((fr + rs.length : Nat) : Int), true⟩, 8) := by
    have e : doo ⟨fs, false, fuse, fault⟩ ⟨1, nameB (fr + rs.length), ⟨#[]⟩, 0⟩ = (⟨fs, false, fuse, fault⟩, 8) := by
     rw [doo_right hk.R ⟨by first | decide | (simp only [rmS]; decide), by first | decide | (simp only [rmS]; decide)⟩]
     unfold run
     rw [if_neg (by first | decide | (simp only [rmS]; decide))]
     simp only [k1]
     rfl
    unfold doS; rw [e]; rfl
   rw [e3, if_neg (by first | decide | (simp only [rmS]; decide))]
   exact .inr ⟨(by first | (show (8 : Int) ≠ 0; decide) | (show (18 : Int) ≠ 0; decide) | (show (17 : Int) ≠ 0; decide)), rfl⟩
  ·rw [if_neg h64] at k1
   obtain ⟨k4, k5⟩ := k3 h64
   rcases doo3 (d := ⟨fs, false, fuse, fault⟩) (m := ⟨1, nameB (fr + rs.length), ⟨#[]⟩, 0⟩) hk.R rfl ⟨by first | decide | (simp only [rmS]; decide), by first | decide | (simp only [rmS]; decide)⟩ k1 with ⟨c1, e⟩ | ⟨c1, c2, e⟩ | ⟨c1, c2, e⟩
   ·have e3 : doS (klr fs fr rs fuse fault size) [⟨1, nameB (fr + rs.length), ⟨#[]⟩, 0⟩] = (⟨⟨fs, false, fuse, -1⟩, size, (fr : Int), ((fr + rs.length : Nat) : Int), true⟩, 18) := by
     unfold doS; rw [e]; rfl
    rw [e3, if_neg (by first | decide | (simp only [rmS]; decide))]
    exact .inr ⟨(by first | (show (8 : Int) ≠ 0; decide) | (show (18 : Int) ≠ 0; decide) | (show (17 : Int) ≠ 0; decide)), rfl⟩
   ·have e3 : doS (klr fs fr rs fuse fault size) [⟨1, nameB (fr + rs.length), ⟨#[]⟩, 0⟩] = (⟨⟨fs, true, 0, dec fault⟩, size, (fr : Int), ((fr + rs.length : Nat) : Int), true⟩, 17) := by
     have hh : half fs ⟨1, nameB (fr + rs.length), ⟨#[]⟩, 0⟩ = fs := by unfold half; exact if_neg (c := (1 : Int) = 2) (by decide)
     simp only [hh] at e
     unfold doS; rw [e]; rfl
    rw [e3, if_neg (by first | decide | (simp only [rmS]; decide))]
    exact .inr ⟨(by first | (show (8 : Int) ≠ 0; decide) | (show (18 : Int) ≠ 0; decide) | (show (17 : Int) ≠ 0; decide)), rfl⟩
   ·simp only [k2] at e
    have e3 : doS (klr fs fr rs fuse fault size) [⟨1, nameB (fr + rs.length), ⟨#[]⟩, 0⟩] = (klr (fs ++ [⟨nameB (fr + rs.length), ⟨#[]⟩, 0⟩]) fr rs (dec fuse) (dec fault) size, 0) := by
     unfold doS; rw [e, if_pos rfl]; unfold doS; rfl
    rw [e3, if_pos rfl]
    obtain ⟨fs0, g1, g2⟩ := last_at k4.lg k5
    refine .inl (add2_codes (fs := fs) (fuse := fuse) (fault := fault) hB (by simp) k4 k5 g1 g2 (by omega) ?_ (num_dec nfu) (num_dec nfa) (fun a b => ?_))
    ·show (⟨#[]⟩ : ByteArray).size + (16 + d.size) ≤ 262144
     have : (⟨#[]⟩ : ByteArray).size = 0 := rfl
     omega
    ·subst a b; exact ⟨rfl, rfl⟩

end Go.Proofs.YtlgbehagflnfgaaGreatDoor

/- QUEUE, MATHEMATICS: a queue that was opened, opened again. -/
namespace Go.Proofs.YtlgbehagflnfgaaGreatDoor
open Go.RowKit
set_option maxRecDepth 100000
set_option linter.unusedVariables false
set_option linter.unusedSimpArgs false

theorem opened_right {l : L} {rs : List Rec} {size most : Int} (h : Opened l rs size) (hm : 1 ≤ most ∧ most ≤ 1024) (hl : (entM rs).length ≤ 1024) : QRight ⟨l, entM rs, most⟩ := by
 obtain ⟨n, h1, h2, h3, h4⟩ := h.seq
 refine ⟨h.R, hm, hl, ?_⟩
 have hr : Row n rs := fun i r hi => h4 i r hi
 have := ent_in hr
 show inM l.nx.toNat l.fr.toNat _
 rw [h1, h2, Int.toNat_natCast, Int.toNat_natCast]
 exact this
end Go.Proofs.YtlgbehagflnfgaaGreatDoor

/- QUEUE, MATHEMATICS: QueueKept's last step, and what is opened behind the crash. -/
namespace Go.Proofs.YtlgbehagflnfgaaGreatDoor
open Go.RowKit
set_option maxRecDepth 100000
set_option linter.unusedVariables false
set_option linter.unusedSimpArgs false

theorem drop_codes : ∀ (l : List SF) (fs : List F) (fr : Nat) (rs : List Rec) (size f0 nx q fu fa : Int) (br : Bool), filesM fs = l → KK fs fr rs →
  (doS ⟨⟨fs, false, fu, fa⟩, size, f0, nx, br⟩ ((l.take (cutN l q)).map rmS)).2 = 0 ∨ (doS ⟨⟨fs, false, fu, fa⟩, size, f0, nx, br⟩ ((l.take (cutN l q)).map rmS)).2 = 17 ∨ (doS ⟨⟨fs, false, fu, fa⟩, size, f0, nx, br⟩ ((l.take (cutN l q)).map rmS)).2 = 18
 | [], fs, fr, rs, size, f0, nx, q, fu, fa, br, hl, hk => .inl (by simp [cutN, doS])
 | [s], fs, fr, rs, size, f0, nx, q, fu, fa, br, hl, hk => .inl (by simp [cutN, doS])
 | s0 :: s1 :: t, fs, fr, rs, size, f0, nx, q, fu, fa, br, hl, hk => by
  by_cases hq : (s1.n : Int) ≤ q
  ·obtain ⟨h1, h2, m, h3, h4, h5⟩ := kk_rm hk hl
   have hcut : cutN (s0 :: s1 :: t) q = cutN (s1 :: t) q + 1 := by rw [cutN, if_pos hq]
   rw [hcut, List.take_succ_cons, List.map_cons]
   unfold doS
   rcases doo_mend (d := ⟨fs, false, fu, fa⟩) hk.R rfl (m := rmS s0) (.inr rfl) h1 with ⟨c, e⟩ | ⟨_, c, e⟩ | ⟨_, _, e⟩
   ·rw [e, if_neg (by simp)]; exact .inr (.inr rfl)
   ·rw [e, if_neg (by simp)]; exact .inr (.inl rfl)
   ·rw [e, if_pos rfl]
    exact drop_codes (s1 :: t) (eff fs (rmS s0)) (fr + m) (rs.drop m) size f0 nx q (dec fu) (dec fa) br h2 h5
  ·have hcut : cutN (s0 :: s1 :: t) q = 0 := by rw [cutN, if_neg hq]
   rw [hcut]
   exact .inl (by simp [doS])
/-- the codes that tell that nothing was changed -/
def Soft (q : Q) (c : Int) : Prop := (c = 8 ∧ q.most ≤ (q.es.length : Int)) ∨ c = 4 ∨ c = 19 ∨ c = 7 ∨ c = 5
theorem last_soft {q : Q} {fs : List F} {fr : Nat} {rs : List Rec} {fuse fault size : Int} {K : Nat} (h : QG q fs fr rs fuse fault size K) (hK : K < 4611686018427387904) (hu : Num fuse) (ha : Num fault) (s : QS) (hs : Soft q (chQ q s).2.2) :
  (chQ q s).1.l = q.l ∨ (chQ q s).1.l.d.files = fs := by
 have hb := h.bd
 unfold chQ at hs ⊢
 rw [if_neg (by rw [h.l]; simp)] at hs ⊢
 cases s with
 | none => exact .inl rfl
 | lease =>
  left
  show (leaseM q).1.l = q.l
  unfold leaseM
  split
  ·rfl
  ·split <;> rfl
 | release s =>
  left
  show (releaseM q s).1.l = q.l
  unfold releaseM
  split
  ·rfl
  ·split <;> rfl
 | put d =>
  replace hs : Soft q (putM q d).2.2 := hs
  show (putM q d).1.l = q.l ∨ (putM q d).1.l.d.files = fs
  unfold putM at hs ⊢
  by_cases hm : q.most ≤ (q.es.length : Int)
  ·rw [if_pos hm]; exact .inl rfl
  rw [if_neg hm] at hs ⊢
  by_cases hd : 65535 < d.size
  ·rw [if_pos hd]; exact .inl rfl
  rw [if_neg hd] at hs ⊢
  have hcd := app_codes (d := putB d) (by omega) h.kk h.sz hu ha
  rw [← h.l] at hcd
  by_cases h0 : (appM q.l (putB d)).2 = 0
  ·rw [if_pos h0] at hs
   exfalso
   rcases hs with ⟨h1, _⟩ | h1 | h1 | h1 | h1 <;> simp at h1
  ·rw [if_neg h0] at hs ⊢
   rcases hcd with (h1 | h1 | h1) | ⟨_, h1⟩
   ·exact absurd h1 h0
   ·exfalso; unfold Soft at hs; simp only at hs; omega
   ·exfalso; unfold Soft at hs; simp only at hs; omega
   ·exact .inr h1
 | ack s =>
  replace hs : Soft q (ackM q s).2.2 := hs
  show (ackM q s).1.l = q.l ∨ (ackM q s).1.l.d.files = fs
  unfold ackM at hs ⊢
  cases hi : heldAt q.es s with
  | none => exact .inl rfl
  | some i =>
   rw [hi] at hs
   simp only at hs ⊢
   have hin := h.inE
   obtain ⟨e, he, hpe, _⟩ := findIdx?_lt hi
   have hps := ack_size s
   have hcd := app_codes (d := ackB s) (by omega) h.kk h.sz hu ha
   have hA := app_kkr (d := ackB s) (by omega) h.kk h.sz hu ha
   have hF := app_facts (l := q.l) (d := ackB s) (h.R (by omega)).1 (by rw [h.l]; exact hu) (by rw [h.l]; exact ha)
   rw [← h.l] at hcd hA
   obtain ⟨r, hr⟩ : ∃ r, appM q.l (ackB s) = r := ⟨_, rfl⟩
   rw [hr] at hs hcd hA hF ⊢
   by_cases h0 : r.2 = 0
   ·rw [if_pos h0] at hs
    exfalso
    obtain ⟨h1, h2, hk, hre⟩ := hA.ok h0
    have hRr := hF.R
    obtain ⟨fu2, hfu⟩ : ∃ x, r.1.d.fuse = x := ⟨_, rfl⟩
    obtain ⟨fa2, hfa⟩ : ∃ x, r.1.d.fault = x := ⟨_, rfl⟩
    obtain ⟨fs1, hfs1⟩ : ∃ x, r.1.d.files = x := ⟨_, rfl⟩
    rw [hfu, hfa, hfs1] at hre
    rw [hfs1] at hk
    rw [hre] at hs hRr
    generalize hq : firstM2 ⟨⟨fs1, false, fu2, fa2⟩, size, (fr : Int), ((fr + (rs.length + 1) : Nat) : Int), false⟩ (q.es.eraseIdx i) = fq at hs
    have hfq : fq ≤ ((fr + (rs.length + 1) : Nat) : Int) := by
     rw [← hq]
     unfold firstM2
     cases hx : q.es.eraseIdx i with
     | nil => exact Int.le_refl _
     | cons x t =>
      have := inM_lt (inM_erase i hin) (x := x) (by rw [hx]; exact List.mem_cons_self)
      show (x.seq : Int) ≤ _
      omega
    have hdc := drop_codes (filesM fs1) fs1 fr _ size (fr : Int) ((fr + (rs.length + 1) : Nat) : Int) fq fu2 fa2 false rfl hk
    have hcode : (drM ⟨⟨fs1, false, fu2, fa2⟩, size, (fr : Int), ((fr + (rs.length + 1) : Nat) : Int), false⟩ fq).2 = 0 ∨ (drM ⟨⟨fs1, false, fu2, fa2⟩, size, (fr : Int), ((fr + (rs.length + 1) : Nat) : Int), false⟩ fq).2 = 17 ∨ (drM ⟨⟨fs1, false, fu2, fa2⟩, size, (fr : Int), ((fr + (rs.length + 1) : Nat) : Int), false⟩ fq).2 = 18 := by
     unfold drM
     rw [if_pos hRr]
     unfold chM
     rw [if_neg (by simp)]
     show (cutM _ _).2 = 0 ∨ (cutM _ _).2 = 17 ∨ (cutM _ _).2 = 18
     unfold cutM
     rw [if_neg (by show ¬ ((fr + (rs.length + 1) : Nat) : Int) < fq; omega)]
     unfold dropM dropS
     split
     ·exact .inl rfl
     ·exact hdc
    unfold Soft at hs
    simp only at hs
    omega
   ·rw [if_neg h0] at hs ⊢
    rcases hcd with (h1 | h1 | h1) | ⟨_, h1⟩
    ·exact absurd h1 h0
    ·exfalso; unfold Soft at hs; simp only at hs; omega
    ·exfalso; unfold Soft at hs; simp only at hs; omega
    ·exact .inr h1
end Go.Proofs.YtlgbehagflnfgaaGreatDoor

/- QUEUE, MATHEMATICS: QueueKept's end. -/
namespace Go.Proofs.YtlgbehagflnfgaaGreatDoor
open Go.RowKit
set_option maxRecDepth 100000
set_option linter.unusedVariables false
set_option linter.unusedSimpArgs false

abbrev fuseQ (q : Q) (fuse fault : Int) : Q := ⟨⟨⟨q.l.d.files, q.l.d.down, fuse, fault⟩, q.l.size, q.l.fr, q.l.nx, q.l.broken⟩, q.es, q.most⟩
theorem sameE_rfl (a : List E) : sameE a a = true := decide_eq_true rfl
theorem putM_seq {q : Q} {d : ByteArray} (h : (putM q d).2.2 = 0) : (putM q d).2.1.seq = q.l.nx.toNat := by
 unfold putM at h ⊢
 split at h
 ·simp at h
 rename_i h1
 rw [if_neg h1]
 split at h
 ·simp at h
 rename_i h2
 rw [if_neg h2]
 split at h
 ·rename_i h3; rw [if_pos h3]
 ·rename_i h3; exact absurd h h3
theorem kept_last {size most : Int} {i : Nat} {want : List E} {q : Q} (h : KI size most i want q) (hi : i < 4611686018427387900) {fuse fault : Int} (hu : Num fuse) (ha : Num fault) (k : Int) (data : ByteArray) (s : Nat) (hs : s < 18446744073709551616) (ks : List Int) :
  ∃ n : Nat, q.l.nx = (n : Int) ∧ QRight (fuseQ q fuse fault) ∧ Right (ansQ (fuseQ q fuse fault) (qsOf k data s)).1.l.d.files ∧
   ∃ r, openQ ⟨crashL ks (ansQ (fuseQ q fuse fault) (qsOf k data s)).1.l.d.files, false, -1, -1⟩ size most = (r, 0) ∧ QRight r ∧
    ((ansQ (fuseQ q fuse fault) (qsOf k data s)).2.2 = 0 → sameE r.es (aftE k data s (ansQ (fuseQ q fuse fault) (qsOf k data s)).2.1.seq want) = true) ∧
    ((ansQ (fuseQ q fuse fault) (qsOf k data s)).2.2 ≠ 0 → sameE r.es want = true ∨ (¬ Soft (fuseQ q fuse fault) (ansQ (fuseQ q fuse fault) (qsOf k data s)).2.2 ∧ sameE r.es (aftE k data s n want) = true)) := by
 obtain ⟨fs, fr, rs, hg, rfl, hmo⟩ := h
 have hb := hg.bd
 have hf := hg.fused fuse fault
 have hR := hf.R (by omega)
 have hfr0 : 0 ≤ (fuseQ q fuse fault).l.fr := by show 0 ≤ q.l.fr; rw [hg.l]; show (0 : Int) ≤ (fr : Int); omega
 have hans : ansQ (fuseQ q fuse fault) (qsOf k data s) = chQ (fuseQ q fuse fault) (qsOf k data s) := by unfold ansQ; rw [if_pos hR]
 have hst := st_facts hR hfr0 hu ha (qsOf k data s) (fun k' hk' => by
  unfold qsOf at hk'
  split at hk'
  ·cases hk'
  split at hk'
  ·cases hk'
  split at hk'
  ·cases hk'
  split at hk'
  ·injection hk' with e; omega
  ·cases hk')
 have hlast := qg_last hf (by omega) hu ha (qsOf k data s) ks
 have hsoft := last_soft hf (by omega) hu ha (qsOf k data s)
 have hnx : q.l.nx = ((fr + rs.length : Nat) : Int) := by rw [hg.l]
 rw [hans]
 obtain ⟨a, haa⟩ : ∃ a, chQ (fuseQ q fuse fault) (qsOf k data s) = a := ⟨_, rfl⟩
 have hput : k = 1 → a.2.2 = 0 → a.2.1.seq = fr + rs.length := by
  intro hk hc
  subst hk
  have e : qsOf 1 data s = .put data := rfl
  rw [e] at haa
  unfold chQ at haa
  rw [if_neg (by rw [hf.br]; simp)] at haa
  replace haa : putM (fuseQ q fuse fault) data = a := haa
  rw [← haa] at hc ⊢
  rw [putM_seq hc]
  show q.l.nx.toNat = _
  rw [hnx, Int.toNat_natCast]
 have hfull : a.1.es.length ≤ 1024 ∧ ((entM rs).length = 1024 → ∀ d, qsOf k data s = .put d → a.1.l = (fuseQ q fuse fault).l ∧ a.2.2 ≠ 0) := by
  have hel : q.es.length = (entM rs).length := by rw [← hg.es, List.length_map]
  refine ⟨?_, fun h1 d hd => ?_⟩
  ·have h1 := hst.len
   rw [haa] at h1
   replace h1 : a.1.es.length ≤ max q.es.length q.most.toNat := h1
   have h2 : q.es.length ≤ 1024 := hf.ln
   have h3 : q.most ≤ 1024 := hf.mo.2
   omega
  ·rw [hd] at haa
   unfold chQ at haa
   rw [if_neg (by rw [hf.br]; simp)] at haa
   replace haa : putM (fuseQ q fuse fault) d = a := haa
   unfold putM at haa
   rw [if_pos (by show q.most ≤ (q.es.length : Int); have := hf.mo.2; replace this : q.most ≤ 1024 := this; omega)] at haa
   rw [← haa]
   exact ⟨rfl, by simp⟩
 rw [haa] at hst hlast hsoft ⊢
 obtain ⟨fs2, fr2, rs2, hk2, hop, _, _, hP1, hP2, hP3⟩ := hlast
 have hrf : Right a.1.l.d.files := hst.Rf
 have hwl : (entM rs).length ≤ 1024 := by rw [← hg.es, List.length_map]; exact hg.ln
 have hl2 : (entM rs2).length ≤ 1024 := by
  rcases hP2 with e | e
  ·rw [e]; exact hwl
  ·rw [e]
   cases hq : qsOf k data s with
   | put d =>
    by_cases h4 : (entM rs).length = 1024
    ·obtain ⟨h5, h6⟩ := hfull.2 h4 d hq
     have := hP3 h5 h6
     rw [← hq, ← e, this]; exact hwl
    ·show ((entM rs) ++ [_]).length ≤ 1024
     rw [List.length_append, List.length_singleton]; omega
   | ack s => exact Nat.le_trans (List.length_filter_le _ _) hwl
   | lease => exact hwl
   | release s => exact hwl
   | none => exact hwl
 have hm : 1 ≤ most ∧ most ≤ 1024 := by rw [← hmo]; exact hg.mo
 refine ⟨fr + rs.length, hnx, hR, hrf, ⟨klr fs2 fr2 rs2 (-1) (-1) size, entM rs2, most⟩, ?_, opened_right (opened hop) hm hl2, fun hc => ?_, fun hc => ?_⟩
 ·unfold openQ
  rw [if_neg (fun hn => hn (right_crash hrf ks)), if_neg (fun hn => hn hm), hop]
  simp only [ne_eq, not_true_eq_false, if_false]
  rw [if_neg (by omega)]
 ·have e := hP1 hc
  rw [e]
  by_cases h1 : k = 1
  ·rw [hput h1 hc, aftE_aftM]; exact sameE_rfl _
  ·rw [← aftE_aftM]
   unfold aftE
   rw [if_neg h1, if_neg h1]
   exact sameE_rfl _
 ·by_cases hz : Soft (fuseQ q fuse fault) a.2.2
  ·left
   rcases hsoft hz with e | e
   ·rw [hP3 e hc]; exact sameE_rfl _
   ·rw [e, kk_crash hg.kk, open_kkr hg.kk hg.sz] at hop
    have e2 : rs = rs2 := congrArg (fun x => x.2.1) hop
    rw [← e2]; exact sameE_rfl _
  ·rcases hP2 with e | e
   ·left; rw [e]; exact sameE_rfl _
   ·right
    refine ⟨hz, ?_⟩
    rw [e, aftE_aftM]; exact sameE_rfl _
end Go.Proofs.YtlgbehagflnfgaaGreatDoor
