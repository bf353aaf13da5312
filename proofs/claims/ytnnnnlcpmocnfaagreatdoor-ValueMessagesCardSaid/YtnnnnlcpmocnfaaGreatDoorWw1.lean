/- MESSAGES OF VALUES: values without parts, WALKED. -/
import Derived.Test.YtnnnnlcpmocnfaaGreatDoorWp
import Derived.Outline
import Derived.WalkLawsBesides
import Derived.Deep.RegionLaw
import Derived.Deep.RegionHeld3
namespace Go.Proofs.YtnnnnlcpmocnfaaGreatDoor
open Go.RowKit
set_option linter.unusedVariables false
set_option linter.unusedSimpArgs false
attribute [local go_sem] run_store_float

theorem look_no {W : World} {r : Nat} (hb : W.heap[r]? = some (.map m7 7)) :
    (Instr.lookup 75 (.map (some r)) (.int .u8 0) true).run Tryz.prog W = .ok (.tuple #[fv 0 0, .bool false]) W := by
  have hc : (Instr.checkKey false 10000 22 (.int .u8 0)).run Tryz.prog W = .ok () W := MapKept.run_checkKey (k := .int .u8 0) Tryz.underlying22 (by simp [MapKept.IsKey]) false 9999
  have he : m7.isEmpty = false := rfl
  have hf : Instr.findNow (.int .u8) (.int .u8 0) m7.toList 0 = some none := by rfl
  have hz : (zeroValue 73).run Tryz.prog W = .ok (fv 0 0) W := by kernel_rfl
  simp [Instr.lookup, run_underlying Tryz.underlying75, MapKept.run_getObj_map hb, he, hc, MapKept.run_findKey Tryz.underlying22 hf, Result.andThen, hz]

set_option maxRecDepth 100000 in
set_option maxHeartbeats 4000000 in
theorem w_text (s : List UInt8) (b : Bool) (n : Int) (f m1 m2 c1 c2 : Nat) (a1 a2 : Option Addr) (hs : s.length ≤ 4096) (t : List UInt8) (hR : wrE [bf 1 s] = .ok t) (w : World) :
    Calls Tryz.prog 19 #[.agg (gv 1 ⟨s.toArray⟩ b n f (.slice a1 m1 c1) (.slice a2 m2 c2))] w (Wrote (.ok t) w) := by
  have hm : ∀ W (g : Nat), W.heap[g]? = some (.cells (fcells 1 2 0 s) 73 (0, 0)) → Calls Tryz.prog 53 #[.slice (some ⟨g, 0, none⟩) 1 1] W (Wrote (.ok t) W) := fun W g hg => message_fd W g _ 1 2 0 s (bf_fit 1 s (by omega) (by omega)) hg _ hR
  have Hm := Lib.hid hm
  clear hm hR
  have l1 : ∀ (X : World) (g : Nat), X.heap.size = g → (Instr.lookup 75 (.map (some g)) (.int .u8 1) true).run Tryz.prog (X.alloc (.map m7 7)).drew = .ok (.tuple #[fv 1 2, .bool true]) (X.alloc (.map m7 7)).drew := fun X g hg => by
    subst hg; exact look7 (W := (X.alloc (.map m7 7)).drew) (heap_alloc_new X _) 1 0 (fv 1 2) (by rfl)
  have l2 : ∀ (X : World) (o : Obj) (g : Nat), X.heap.size = g → (Instr.lookup 75 (.map (some g)) (.int .u8 1) true).run Tryz.prog ((X.alloc (.map m7 7)).alloc o).drew = .ok (.tuple #[fv 1 2, .bool true]) ((X.alloc (.map m7 7)).alloc o).drew := fun X o g hg => by
    subst hg; exact look7 (W := ((X.alloc (.map m7 7)).alloc o).drew) (blk_alloc (heap_alloc_new X _) o) 1 0 (fv 1 2) (by rfl)
  have hk0 : ((w.alloc (.cells (gv 1 ⟨s.toArray⟩ b n f (.slice a1 m1 c1) (.slice a2 m2 c2)) 27)).drew).cell? ⟨w.heap.size, 0, none⟩ = some (.int .u8 1) := cell_of_row _ w.heap.size 0 (gv 1 ⟨s.toArray⟩ b n f (.slice a1 m1 c1) (.slice a2 m2 c2)) 27 (0, 0) (blk_new w _)
  have h58 := Tryz.bits39
  go_enter Tryz.func19, Tryz.ntmps19
  go_wp2
  go_region_held3 (fun w' => w'.cell? ⟨w.heap.size, 0, none⟩ = some (.int .u8 1))
    (first | exact hk0 | go_keep)
    (first | (go_at_call 49; refine (places_any _).mono ?_; rintro e w8 ⟨rfl, rfl⟩) | fail)
  all_goals
    clear l1 l2 hk0
    go_wp2_with fail
    refine (Hm.out _ _ (by first | exact blk_at (by simp) | (refine blk_at ?_; simp))).mono ?_
    intro e w9 hc
    obtain ⟨rfl, hb9⟩ := hc.ok
    go_wp2
    go_ret
    refine Wrote.mk0 (Below.trans ?_ (hb9.mono (by simp <;> omega)))
    go_grown

set_option maxRecDepth 100000 in
set_option maxHeartbeats 4000000 in
theorem w_bytes (s : List UInt8) (b : Bool) (n : Int) (f m1 m2 c1 c2 : Nat) (a1 a2 : Option Addr) (hs : s.length ≤ 4096) (t : List UInt8) (hR : wrE [bf 7 s] = .ok t) (w : World) :
    Calls Tryz.prog 19 #[.agg (gv 7 ⟨s.toArray⟩ b n f (.slice a1 m1 c1) (.slice a2 m2 c2))] w (Wrote (.ok t) w) := by
  have hm : ∀ W (g : Nat), W.heap[g]? = some (.cells (fcells 7 2 0 s) 73 (0, 0)) → Calls Tryz.prog 53 #[.slice (some ⟨g, 0, none⟩) 1 1] W (Wrote (.ok t) W) := fun W g hg => message_fd W g _ 7 2 0 s (bf_fit 7 s (by omega) (by omega)) hg _ hR
  have Hm := Lib.hid hm
  clear hm hR
  have l1 : ∀ (X : World) (g : Nat), X.heap.size = g → (Instr.lookup 75 (.map (some g)) (.int .u8 7) true).run Tryz.prog (X.alloc (.map m7 7)).drew = .ok (.tuple #[fv 7 2, .bool true]) (X.alloc (.map m7 7)).drew := fun X g hg => by
    subst hg; exact look7 (W := (X.alloc (.map m7 7)).drew) (heap_alloc_new X _) 7 6 (fv 7 2) (by rfl)
  have l2 : ∀ (X : World) (o : Obj) (g : Nat), X.heap.size = g → (Instr.lookup 75 (.map (some g)) (.int .u8 7) true).run Tryz.prog ((X.alloc (.map m7 7)).alloc o).drew = .ok (.tuple #[fv 7 2, .bool true]) ((X.alloc (.map m7 7)).alloc o).drew := fun X o g hg => by
    subst hg; exact look7 (W := ((X.alloc (.map m7 7)).alloc o).drew) (blk_alloc (heap_alloc_new X _) o) 7 6 (fv 7 2) (by rfl)
  have hk0 : ((w.alloc (.cells (gv 7 ⟨s.toArray⟩ b n f (.slice a1 m1 c1) (.slice a2 m2 c2)) 27)).drew).cell? ⟨w.heap.size, 0, none⟩ = some (.int .u8 7) := cell_of_row _ w.heap.size 0 (gv 7 ⟨s.toArray⟩ b n f (.slice a1 m1 c1) (.slice a2 m2 c2)) 27 (0, 0) (blk_new w _)
  have h58 := Tryz.bits39
  go_enter Tryz.func19, Tryz.ntmps19
  go_wp2
  go_region_held3 (fun w' => w'.cell? ⟨w.heap.size, 0, none⟩ = some (.int .u8 7))
    (first | exact hk0 | go_keep)
    (first | (go_at_call 49; refine (places_any _).mono ?_; rintro e w8 ⟨rfl, rfl⟩) | fail)
  all_goals
    clear l1 l2 hk0
    go_wp2_with fail
    refine (Hm.out _ _ (by first | exact blk_at (by simp) | (refine blk_at ?_; simp))).mono ?_
    intro e w9 hc
    obtain ⟨rfl, hb9⟩ := hc.ok
    go_wp2
    go_ret
    refine Wrote.mk0 (Below.trans ?_ (hb9.mono (by simp <;> omega)))
    go_grown

set_option maxRecDepth 100000 in
set_option maxHeartbeats 4000000 in
theorem w_yes (s : List UInt8) (b : Bool) (n : Int) (f m1 m2 c1 c2 : Nat) (a1 a2 : Option Addr)  (t : List UInt8) (hR : wrE [⟨2, 0, 1, []⟩] = .ok t) (w : World) :
    Calls Tryz.prog 19 #[.agg (gv 2 ⟨s.toArray⟩ true n f (.slice a1 m1 c1) (.slice a2 m2 c2))] w (Wrote (.ok t) w) := by
  have hm : ∀ W (g : Nat), W.heap[g]? = some (.cells (fcells 2 0 1 []) 73 (0, 0)) → Calls Tryz.prog 53 #[.slice (some ⟨g, 0, none⟩) 1 1] W (Wrote (.ok t) W) := fun W g hg => message_fd W g _ 2 0 1 [] (⟨rfl, by decide, by decide, by decide, by decide, by decide, by decide, by decide⟩) hg _ hR
  have Hm := Lib.hid hm
  clear hm hR
  have l1 : ∀ (X : World) (g : Nat), X.heap.size = g → (Instr.lookup 75 (.map (some g)) (.int .u8 2) true).run Tryz.prog (X.alloc (.map m7 7)).drew = .ok (.tuple #[fv 2 0, .bool true]) (X.alloc (.map m7 7)).drew := fun X g hg => by
    subst hg; exact look7 (W := (X.alloc (.map m7 7)).drew) (heap_alloc_new X _) 2 1 (fv 2 0) (by rfl)
  have l2 : ∀ (X : World) (o : Obj) (g : Nat), X.heap.size = g → (Instr.lookup 75 (.map (some g)) (.int .u8 2) true).run Tryz.prog ((X.alloc (.map m7 7)).alloc o).drew = .ok (.tuple #[fv 2 0, .bool true]) ((X.alloc (.map m7 7)).alloc o).drew := fun X o g hg => by
    subst hg; exact look7 (W := ((X.alloc (.map m7 7)).alloc o).drew) (blk_alloc (heap_alloc_new X _) o) 2 1 (fv 2 0) (by rfl)
  have hk0 : ((w.alloc (.cells (gv 2 ⟨s.toArray⟩ true n f (.slice a1 m1 c1) (.slice a2 m2 c2)) 27)).drew).cell? ⟨w.heap.size, 0, none⟩ = some (.int .u8 2) := cell_of_row _ w.heap.size 0 (gv 2 ⟨s.toArray⟩ true n f (.slice a1 m1 c1) (.slice a2 m2 c2)) 27 (0, 0) (blk_new w _)
  have h58 := Tryz.bits39
  go_enter Tryz.func19, Tryz.ntmps19
  go_wp2
  go_region_held3 (fun w' => w'.cell? ⟨w.heap.size, 0, none⟩ = some (.int .u8 2))
    (first | exact hk0 | go_keep)
    (first | (go_at_call 49; refine (places_any _).mono ?_; rintro e w8 ⟨rfl, rfl⟩) | fail)
  all_goals
    clear l1 l2 hk0
    go_wp2_with fail
    refine (Hm.out _ _ (by first | exact blk_at (by simp) | (refine blk_at ?_; simp))).mono ?_
    intro e w9 hc
    obtain ⟨rfl, hb9⟩ := hc.ok
    go_wp2
    go_ret
    refine Wrote.mk0 (Below.trans ?_ (hb9.mono (by simp <;> omega)))
    go_grown

set_option maxRecDepth 100000 in
set_option maxHeartbeats 4000000 in
theorem w_not (s : List UInt8) (b : Bool) (n : Int) (f m1 m2 c1 c2 : Nat) (a1 a2 : Option Addr)  (t : List UInt8) (hR : wrE [⟨2, 0, 0, []⟩] = .ok t) (w : World) :
    Calls Tryz.prog 19 #[.agg (gv 2 ⟨s.toArray⟩ false n f (.slice a1 m1 c1) (.slice a2 m2 c2))] w (Wrote (.ok t) w) := by
  have hm : ∀ W (g : Nat), W.heap[g]? = some (.cells (fcells 2 0 0 []) 73 (0, 0)) → Calls Tryz.prog 53 #[.slice (some ⟨g, 0, none⟩) 1 1] W (Wrote (.ok t) W) := fun W g hg => message_fd W g _ 2 0 0 [] (⟨rfl, by decide, by decide, by decide, by decide, by decide, by decide, by decide⟩) hg _ hR
  have Hm := Lib.hid hm
  clear hm hR
  have l1 : ∀ (X : World) (g : Nat), X.heap.size = g → (Instr.lookup 75 (.map (some g)) (.int .u8 2) true).run Tryz.prog (X.alloc (.map m7 7)).drew = .ok (.tuple #[fv 2 0, .bool true]) (X.alloc (.map m7 7)).drew := fun X g hg => by
    subst hg; exact look7 (W := (X.alloc (.map m7 7)).drew) (heap_alloc_new X _) 2 1 (fv 2 0) (by rfl)
  have l2 : ∀ (X : World) (o : Obj) (g : Nat), X.heap.size = g → (Instr.lookup 75 (.map (some g)) (.int .u8 2) true).run Tryz.prog ((X.alloc (.map m7 7)).alloc o).drew = .ok (.tuple #[fv 2 0, .bool true]) ((X.alloc (.map m7 7)).alloc o).drew := fun X o g hg => by
    subst hg; exact look7 (W := ((X.alloc (.map m7 7)).alloc o).drew) (blk_alloc (heap_alloc_new X _) o) 2 1 (fv 2 0) (by rfl)
  have hk0 : ((w.alloc (.cells (gv 2 ⟨s.toArray⟩ false n f (.slice a1 m1 c1) (.slice a2 m2 c2)) 27)).drew).cell? ⟨w.heap.size, 0, none⟩ = some (.int .u8 2) := cell_of_row _ w.heap.size 0 (gv 2 ⟨s.toArray⟩ false n f (.slice a1 m1 c1) (.slice a2 m2 c2)) 27 (0, 0) (blk_new w _)
  have h58 := Tryz.bits39
  go_enter Tryz.func19, Tryz.ntmps19
  go_wp2
  go_region_held3 (fun w' => w'.cell? ⟨w.heap.size, 0, none⟩ = some (.int .u8 2))
    (first | exact hk0 | go_keep)
    (first | (go_at_call 49; refine (places_any _).mono ?_; rintro e w8 ⟨rfl, rfl⟩) | fail)
  all_goals
    clear l1 l2 hk0
    go_wp2_with fail
    refine (Hm.out _ _ (by first | exact blk_at (by simp) | (refine blk_at ?_; simp))).mono ?_
    intro e w9 hc
    obtain ⟨rfl, hb9⟩ := hc.ok
    go_wp2
    go_ret
    refine Wrote.mk0 (Below.trans ?_ (hb9.mono (by simp <;> omega)))
    go_grown

set_option maxRecDepth 100000 in
set_option maxHeartbeats 4000000 in
theorem w_int (s : List UInt8) (b : Bool) (n : Int) (f m1 m2 c1 c2 : Nat) (a1 a2 : Option Addr) (z : Int) (hz : IntKind.u64.wrap n = z) (hz0 : 0 ≤ z) (hz1 : z ≤ 18446744073709551615) (t : List UInt8) (hR : wrE [⟨3, 0, z.toNat, []⟩] = .ok t) (w : World) :
    Calls Tryz.prog 19 #[.agg (gv 3 ⟨s.toArray⟩ b n f (.slice a1 m1 c1) (.slice a2 m2 c2))] w (Wrote (.ok t) w) := by
  have hm : ∀ W (g : Nat), W.heap[g]? = some (.cells (fcells 3 0 z []) 73 (0, 0)) → Calls Tryz.prog 53 #[.slice (some ⟨g, 0, none⟩) 1 1] W (Wrote (.ok t) W) := fun W g hg => message_fd W g _ 3 0 z [] (⟨rfl, by decide, by decide, hz0, hz1, by decide, by decide, by decide⟩) hg _ hR
  have Hm := Lib.hid hm
  clear hm hR
  have l1 : ∀ (X : World) (g : Nat), X.heap.size = g → (Instr.lookup 75 (.map (some g)) (.int .u8 3) true).run Tryz.prog (X.alloc (.map m7 7)).drew = .ok (.tuple #[fv 3 0, .bool true]) (X.alloc (.map m7 7)).drew := fun X g hg => by
    subst hg; exact look7 (W := (X.alloc (.map m7 7)).drew) (heap_alloc_new X _) 3 2 (fv 3 0) (by rfl)
  have l2 : ∀ (X : World) (o : Obj) (g : Nat), X.heap.size = g → (Instr.lookup 75 (.map (some g)) (.int .u8 3) true).run Tryz.prog ((X.alloc (.map m7 7)).alloc o).drew = .ok (.tuple #[fv 3 0, .bool true]) ((X.alloc (.map m7 7)).alloc o).drew := fun X o g hg => by
    subst hg; exact look7 (W := ((X.alloc (.map m7 7)).alloc o).drew) (blk_alloc (heap_alloc_new X _) o) 3 2 (fv 3 0) (by rfl)
  have hk0 : ((w.alloc (.cells (gv 3 ⟨s.toArray⟩ b n f (.slice a1 m1 c1) (.slice a2 m2 c2)) 27)).drew).cell? ⟨w.heap.size, 0, none⟩ = some (.int .u8 3) := cell_of_row _ w.heap.size 0 (gv 3 ⟨s.toArray⟩ b n f (.slice a1 m1 c1) (.slice a2 m2 c2)) 27 (0, 0) (blk_new w _)
  have h58 := Tryz.bits39
  go_enter Tryz.func19, Tryz.ntmps19
  go_wp2
  go_region_held3 (fun w' => w'.cell? ⟨w.heap.size, 0, none⟩ = some (.int .u8 3))
    (first | exact hk0 | go_keep)
    (first | (go_at_call 49; refine (places_any _).mono ?_; rintro e w8 ⟨rfl, rfl⟩) | fail)
  all_goals
    clear l1 l2 hk0
    go_wp2_with fail
    refine (Hm.out _ _ (by first | exact blk_at (by simp) | (refine blk_at ?_; simp))).mono ?_
    intro e w9 hc
    obtain ⟨rfl, hb9⟩ := hc.ok
    go_wp2
    go_ret
    refine Wrote.mk0 (Below.trans ?_ (hb9.mono (by simp <;> omega)))
    go_grown

set_option maxRecDepth 100000 in
set_option maxHeartbeats 4000000 in
theorem w_float (s : List UInt8) (b : Bool) (n : Int) (f m1 m2 c1 c2 : Nat) (a1 a2 : Option Addr) (hf : f < 18446744073709551616) (t : List UInt8) (hR : wrE [⟨4, 1, f, []⟩] = .ok t) (w : World) :
    Calls Tryz.prog 19 #[.agg (gv 4 ⟨s.toArray⟩ b n f (.slice a1 m1 c1) (.slice a2 m2 c2))] w (Wrote (.ok t) w) := by
  have hm : ∀ W (g : Nat), W.heap[g]? = some (.cells (fcells 4 1 (f : Int) []) 73 (0, 0)) → Calls Tryz.prog 53 #[.slice (some ⟨g, 0, none⟩) 1 1] W (Wrote (.ok t) W) := fun W g hg => message_fd W g _ 4 1 (f : Int) [] (⟨rfl, by decide, by decide, by omega, by omega, by decide, by decide, by decide⟩) hg _ hR
  have Hm := Lib.hid hm
  clear hm hR
  have l1 : ∀ (X : World) (g : Nat), X.heap.size = g → (Instr.lookup 75 (.map (some g)) (.int .u8 4) true).run Tryz.prog (X.alloc (.map m7 7)).drew = .ok (.tuple #[fv 4 1, .bool true]) (X.alloc (.map m7 7)).drew := fun X g hg => by
    subst hg; exact look7 (W := (X.alloc (.map m7 7)).drew) (heap_alloc_new X _) 4 3 (fv 4 1) (by rfl)
  have l2 : ∀ (X : World) (o : Obj) (g : Nat), X.heap.size = g → (Instr.lookup 75 (.map (some g)) (.int .u8 4) true).run Tryz.prog ((X.alloc (.map m7 7)).alloc o).drew = .ok (.tuple #[fv 4 1, .bool true]) ((X.alloc (.map m7 7)).alloc o).drew := fun X o g hg => by
    subst hg; exact look7 (W := ((X.alloc (.map m7 7)).alloc o).drew) (blk_alloc (heap_alloc_new X _) o) 4 3 (fv 4 1) (by rfl)
  have hk0 : ((w.alloc (.cells (gv 4 ⟨s.toArray⟩ b n f (.slice a1 m1 c1) (.slice a2 m2 c2)) 27)).drew).cell? ⟨w.heap.size, 0, none⟩ = some (.int .u8 4) := cell_of_row _ w.heap.size 0 (gv 4 ⟨s.toArray⟩ b n f (.slice a1 m1 c1) (.slice a2 m2 c2)) 27 (0, 0) (blk_new w _)
  have h58 := Tryz.bits39
  go_enter Tryz.func19, Tryz.ntmps19
  go_wp2
  go_region_held3 (fun w' => w'.cell? ⟨w.heap.size, 0, none⟩ = some (.int .u8 4))
    (first | exact hk0 | go_keep)
    (first | (go_at_call 49; refine (places_any _).mono ?_; rintro e w8 ⟨rfl, rfl⟩) | fail)
  all_goals
    clear l1 l2 hk0
    go_wp2_with fail
    refine (Hm.out _ _ (by first | exact blk_at (by simp) | (refine blk_at ?_; simp))).mono ?_
    intro e w9 hc
    obtain ⟨rfl, hb9⟩ := hc.ok
    go_wp2
    go_ret
    refine Wrote.mk0 (Below.trans ?_ (hb9.mono (by simp <;> omega)))
    go_grown

set_option maxRecDepth 100000 in
set_option maxHeartbeats 4000000 in
theorem w_none (s : List UInt8) (b : Bool) (n : Int) (f m1 m2 c1 c2 : Nat) (a1 a2 : Option Addr) (w : World) :
    Calls Tryz.prog 19 #[.agg (gv 0 ⟨s.toArray⟩ b n f (.slice a1 m1 c1) (.slice a2 m2 c2))] w (Wrote (.ok []) w) := by
  have l1 : ∀ (X : World) (g : Nat), X.heap.size = g → (Instr.lookup 75 (.map (some g)) (.int .u8 0) true).run Tryz.prog (X.alloc (.map m7 7)).drew = .ok (.tuple #[fv 0 0, .bool false]) (X.alloc (.map m7 7)).drew := fun X g hg => by
    subst hg; exact look_no (W := (X.alloc (.map m7 7)).drew) (heap_alloc_new X _)
  have l2 : ∀ (X : World) (o : Obj) (g : Nat), X.heap.size = g → (Instr.lookup 75 (.map (some g)) (.int .u8 0) true).run Tryz.prog ((X.alloc (.map m7 7)).alloc o).drew = .ok (.tuple #[fv 0 0, .bool false]) ((X.alloc (.map m7 7)).alloc o).drew := fun X o g hg => by
    subst hg; exact look_no (W := ((X.alloc (.map m7 7)).alloc o).drew) (blk_alloc (heap_alloc_new X _) o)
  have hk0 : ((w.alloc (.cells (gv 0 ⟨s.toArray⟩ b n f (.slice a1 m1 c1) (.slice a2 m2 c2)) 27)).drew).cell? ⟨w.heap.size, 0, none⟩ = some (.int .u8 0) := cell_of_row _ w.heap.size 0 (gv 0 ⟨s.toArray⟩ b n f (.slice a1 m1 c1) (.slice a2 m2 c2)) 27 (0, 0) (blk_new w _)
  go_enter Tryz.func19, Tryz.ntmps19
  go_wp2
  go_region_held3 (fun w' => w'.cell? ⟨w.heap.size, 0, none⟩ = some (.int .u8 0))
    (first | exact hk0 | go_keep)
    (first | (go_at_call 49; refine (places_any _).mono ?_; rintro e w8 ⟨rfl, rfl⟩) | fail)
  all_goals
    clear l1 l2 hk0
    go_wp2
    go_ret
    refine Wrote.mk0 ?_
    go_grown
end Go.Proofs.YtnnnnlcpmocnfaaGreatDoor
