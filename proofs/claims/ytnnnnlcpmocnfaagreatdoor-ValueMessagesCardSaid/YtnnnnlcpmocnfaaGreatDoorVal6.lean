/- THE WALKS OVER value's checks AT A NUMBER. -/
import Derived.Test.YtnnnnlcpmocnfaaGreatDoorWr
import Derived.Handy
import Derived.Carry
import Derived.Laws.Externs
import Derived.MapKept
import Derived.WideMake
import Derived.Deep.RegionHeld3
import Derived.Defers
import Derived.Recover
import Derived.Laws.Tables
import Derived.Deep.WholeRow
namespace Go.Proofs.YtnnnnlcpmocnfaaGreatDoor
open Go.RowKit
set_option linter.unusedVariables false
set_option linter.unusedSimpArgs false

theorem Tryz.bits39 (b : Nat) (w : World) : (callFunc 39 #[.float .f64 b]).run Tryz.prog w = .ok (.value (.int .u64 (b : Int))) w :=
  run_callFunc_extern (e := Extern.MathFloatBits.float64bits) Tryz.func39 (by kernel_rfl) (by kernel_rfl) (by kernel_rfl) (by kernel_rfl) #[.float .f64 b] w
theorem Tryz.from60 (n : Int) (w : World) : (callFunc 60 #[.int .u64 n]).run Tryz.prog w = .ok (.value (.float .f64 n.toNat)) w :=
  run_callFunc_extern (e := Extern.MathFloatBits.float64frombits) Tryz.func60 (by kernel_rfl) (by kernel_rfl) (by kernel_rfl) (by kernel_rfl) #[.int .u64 n] w

/-- a number's cells: kind k, the int n, the float of the bits f -/
abbrev nv (k n : Int) (f : Nat) : Array Value := #[.int .u8 k, .string ⟨#[]⟩, .bool false, .int .i64 n, .float .f64 f, .slice none 0 0, .slice none 0 0]

theorem unless_yes (e : Int) (w : World) : Calls Tryz.prog 42 #[.bool true, .int .i64 e] w fun en w' => en = .returned (.tuple #[]) ∧ w = w' := by
  go_enter Tryz.func42, Tryz.ntmps42
  go_wp2
  go_returns
  exact ⟨rfl, rfl⟩

theorem long_nil (w : World) : Calls Tryz.prog 44 #[.string ⟨#[]⟩] w fun en w' => en = .returned (.tuple #[]) ∧ w = w' := by
  go_enter Tryz.func44, Tryz.ntmps44
  go_wp2
  go_returns
  exact ⟨rfl, rfl⟩
theorem many_nil (w : World) : Calls Tryz.prog 46 #[.int .i64 0] w fun en w' => en = .returned (.tuple #[]) ∧ w = w' := by
  go_enter Tryz.func46, Tryz.ntmps46
  go_wp2
  go_returns
  exact ⟨rfl, rfl⟩
set_option maxRecDepth 100000 in
theorem bare_int (n : Int) (w : World) : Calls Tryz.prog 43 #[.agg (nv 3 n 0)] w fun en w' => en = .returned (.bool true) ∧ w.alloc (.cells (nv 3 n 0) 27) = w' := by
  have h58 := Tryz.bits39
  go_enter Tryz.func43, Tryz.ntmps43
  go_wp2
  go_returns
  exact ⟨rfl, rfl⟩
set_option maxRecDepth 100000 in
theorem bare_float (f : Nat) (w : World) : Calls Tryz.prog 43 #[.agg (nv 4 0 f)] w fun en w' => en = .returned (.bool true) ∧ w.alloc (.cells (nv 4 0 f) 27) = w' := by
  have h58 := Tryz.bits39
  go_enter Tryz.func43, Tryz.ntmps43
  go_wp2
  go_returns
  exact ⟨rfl, rfl⟩
theorem once_nil (w : World) : Calls Tryz.prog 77 #[.slice none 0 0] w fun en w' => en = .returned (.tuple #[]) ∧ Below w.heap.size w w' := by
  have hmm := @run_makeMap Tryz.prog
  go_enter Tryz.func77, Tryz.ntmps77
  go_wp2
  go_rounds 1
  go_returns
  exact ⟨rfl, (Below.refl _ _).alloc (Nat.le_refl _) _⟩
theorem pairs_nil (d : Int) (w : World) : Calls Tryz.prog 48 #[.slice none 0 0, .int .i64 d] w fun en w' => en = .returned (.tuple #[]) ∧ Below w.heap.size w w' := by
  go_enter Tryz.func48, Tryz.ntmps48
  go_wp2_with (go_at_call 46; refine (many_nil _).mono ?_; rintro e w' ⟨rfl, rfl⟩)
  refine wp_loop_rounds 1 ?_
  rw [rounds_succ]
  go_wp2_with (go_at_call 77; refine (once_nil _).mono ?_; rintro e w' ⟨rfl, hb⟩)
  go_returns
  exact ⟨rfl, hb⟩
set_option maxHeartbeats 1000000 in
set_option maxRecDepth 100000 in
theorem check_num (k n : Int) (f : Nat) (d : Int) (w : World) (hk : k = 3 ∨ k = 4) (hd : 0 ≤ d ∧ d ≤ 100) (hbare : ∀ w, Calls Tryz.prog 43 #[.agg (nv k n f)] w fun en w' => en = .returned (.bool true) ∧ w.alloc (.cells (nv k n f) 27) = w') :
    Calls Tryz.prog 18 #[.agg (nv k n f), .int .i64 d] w fun en w' => en = .returned (.tuple #[]) ∧ Below w.heap.size w w' := by
  have Hb := Lib.hid hbare
  clear hbare
  obtain ⟨hd0, hd1⟩ := hd
  rcases hk with rfl | rfl
  all_goals
    go_enter Tryz.func18, Tryz.ntmps18
    go_wp2_with (first | (go_at_call 43; refine (Hb.out _).mono ?_; rintro e w' ⟨rfl, rfl⟩) | (go_at_call 42; refine (unless_yes _ _).mono ?_; rintro e w' ⟨rfl, rfl⟩) | (go_at_call 44; refine (long_nil _).mono ?_; rintro e w' ⟨rfl, rfl⟩) | (go_at_call 46; refine (many_nil _).mono ?_; rintro e w' ⟨rfl, rfl⟩))
    refine wp_loop_rounds 1 ?_
    rw [rounds_succ]
    go_wp2_with (go_at_call 48; refine (pairs_nil _ _).mono ?_; rintro e w1 ⟨rfl, hb⟩)
    go_returns
    exact ⟨rfl, (((Below.refl _ w).alloc (Nat.le_refl _) _).alloc (by simp) _).trans (hb.mono (by simp; omega))⟩
end Go.Proofs.YtnnnnlcpmocnfaaGreatDoor

/- THE WALK OVER value's places: a map of seven fields, made and asked. -/
namespace Go.Proofs.YtnnnnlcpmocnfaaGreatDoor
open Go.RowKit
set_option linter.unusedVariables false
set_option linter.unusedSimpArgs false

/-- a field of that number and wire, as a value -/
abbrev fv (n b : Int) : Value := .agg #[.int .i64 n, .int .u8 b, .int .u64 0, .string ⟨#[]⟩]
def entryL (i : Nat) (k n b : Int) : MapEntry := { key := .int .u8 k, val := fv n b, born := i }
def m0 : Array MapEntry := #[]
def m1 : Array MapEntry := m0.push (entryL 0 1 1 2)
def m2 : Array MapEntry := m1.push (entryL 1 2 2 0)
def m3 : Array MapEntry := m2.push (entryL 2 3 3 0)
def m4 : Array MapEntry := m3.push (entryL 3 4 4 1)
def m5 : Array MapEntry := m4.push (entryL 4 5 5 2)
def m6 : Array MapEntry := m5.push (entryL 5 6 6 2)
def m7 : Array MapEntry := m6.push (entryL 6 7 7 2)

theorem push_set (a : Array Obj) (x y : Obj) : (a.push x).setIfInBounds a.size y = a.push y := by
  apply Array.ext
  · simp
  · intro i h1 h2
    simp at h1 h2
    rw [Array.getElem_setIfInBounds (by simpa using h1)]
    by_cases e : i = a.size
    · subst e; simp
    · rw [if_neg (by omega), Array.getElem_push_lt (by omega), Array.getElem_push_lt (by omega)]

theorem ins_new {es : Array MapEntry} {c : Nat} {k : Int} (v : Value) (hf : Instr.findNow (.int .u8) (.int .u8 k) es.toList 0 = some none) (W : World) :
    (Instr.mapUpdate 75 (.map (some W.heap.size)) (.int .u8 k) v).run Tryz.prog (W.alloc (.map es c)) = .ok () (W.alloc (.map (es.push { key := .int .u8 k, val := v, born := c }) (c + 1))) := by
  have hb : (W.alloc (.map es c)).heap[W.heap.size]? = some (.map es c) := heap_alloc_new W _
  have hc : (Instr.checkKey false 10000 22 (.int .u8 k)).run Tryz.prog (W.alloc (.map es c)) = .ok () (W.alloc (.map es c)) := MapKept.run_checkKey (k := .int .u8 k) Tryz.underlying22 (by simp [MapKept.IsKey]) false 9999
  simp [Instr.mapUpdate, run_underlying Tryz.underlying75, MapKept.run_getObj_map hb, hc, MapKept.run_findKey Tryz.underlying22 hf, MapKept.run_setObj_map _ hb, Result.andThen]
  unfold World.alloc
  simp [push_set]

set_option maxRecDepth 100000 in
theorem places_any (w : World) : Calls Tryz.prog 49 #[] w fun en w' => en = .returned (.map (some w.heap.size)) ∧ w.alloc (.map m7 7) = w' := by
  have hmm : ∀ W, (Instr.makeMap 75 none).run Tryz.prog W = .ok (.map (some W.heap.size)) (W.alloc (.map m0 0)) := fun W => run_makeMap 75 W
  have h1 : ∀ W : World, (Instr.mapUpdate 75 (.map (some W.heap.size)) (.int .u8 1) (fv 1 2)).run Tryz.prog (W.alloc (.map m0 0)) = .ok () (W.alloc (.map m1 1)) := fun W => ins_new (fv 1 2) (by rfl) W
  have h2 : ∀ W : World, (Instr.mapUpdate 75 (.map (some W.heap.size)) (.int .u8 2) (fv 2 0)).run Tryz.prog (W.alloc (.map m1 1)) = .ok () (W.alloc (.map m2 2)) := fun W => ins_new (fv 2 0) (by rfl) W
  have h3 : ∀ W : World, (Instr.mapUpdate 75 (.map (some W.heap.size)) (.int .u8 3) (fv 3 0)).run Tryz.prog (W.alloc (.map m2 2)) = .ok () (W.alloc (.map m3 3)) := fun W => ins_new (fv 3 0) (by rfl) W
  have h4 : ∀ W : World, (Instr.mapUpdate 75 (.map (some W.heap.size)) (.int .u8 4) (fv 4 1)).run Tryz.prog (W.alloc (.map m3 3)) = .ok () (W.alloc (.map m4 4)) := fun W => ins_new (fv 4 1) (by rfl) W
  have h5 : ∀ W : World, (Instr.mapUpdate 75 (.map (some W.heap.size)) (.int .u8 5) (fv 5 2)).run Tryz.prog (W.alloc (.map m4 4)) = .ok () (W.alloc (.map m5 5)) := fun W => ins_new (fv 5 2) (by rfl) W
  have h6 : ∀ W : World, (Instr.mapUpdate 75 (.map (some W.heap.size)) (.int .u8 6) (fv 6 2)).run Tryz.prog (W.alloc (.map m5 5)) = .ok () (W.alloc (.map m6 6)) := fun W => ins_new (fv 6 2) (by rfl) W
  have h7 : ∀ W : World, (Instr.mapUpdate 75 (.map (some W.heap.size)) (.int .u8 7) (fv 7 2)).run Tryz.prog (W.alloc (.map m6 6)) = .ok () (W.alloc (.map m7 7)) := fun W => ins_new (fv 7 2) (by rfl) W
  go_enter Tryz.func49, Tryz.ntmps49
  go_wp2
  go_returns
  exact ⟨rfl, rfl⟩

theorem look7 {W : World} {r : Nat} (hb : W.heap[r]? = some (.map m7 7)) (k : Int) (i : Nat) (v : Value) (hf : Instr.findNow (.int .u8) (.int .u8 k) m7.toList 0 = some (some (i, v))) :
    (Instr.lookup 75 (.map (some r)) (.int .u8 k) true).run Tryz.prog W = .ok (.tuple #[v, .bool true]) W := by
  have hc : (Instr.checkKey false 10000 22 (.int .u8 k)).run Tryz.prog W = .ok () W := MapKept.run_checkKey (k := .int .u8 k) Tryz.underlying22 (by simp [MapKept.IsKey]) false 9999
  have he : m7.isEmpty = false := rfl
  simp [Instr.lookup, run_underlying Tryz.underlying75, MapKept.run_getObj_map hb, he, hc, MapKept.run_findKey Tryz.underlying22 hf, Result.andThen]

theorem blk_at {X : World} {o : Obj} {g : Nat} (hg : g = X.heap.size) : (X.alloc o).heap[g]? = some o := by subst hg; exact blk_new X o

theorem on_ok (w : World) : Calls Tryz.prog 79 #[.int .i64 0] w fun en w' => en = .returned (.tuple #[]) ∧ w = w' := by
  go_enter Tryz.func79, Tryz.ntmps79
  go_wp2_with (go_at_call 42; refine (unless_yes _ _).mono ?_; rintro e w' ⟨rfl, rfl⟩)
  go_returns
  exact ⟨rfl, rfl⟩

/-- one field, written -/
theorem message_one (w : World) (g : Nat) (f : M.Fd) (a b c : Int) (l xs : List UInt8) (hf : Fit f a b c l) (hg : w.heap[g]? = some (.cells (fcells a b c l) 73 (0, 0))) (hw : M.wr [f] = (0, xs)) :
    Calls Tryz.prog 53 #[.slice (some ⟨g, 0, none⟩) 1 1] w fun en w' => en = .returned (.string ⟨xs.toArray⟩) ∧ Below w.heap.size w w' := by
  have hx := box4 hg
  have hfl : Flds w w.heap.size (some ⟨g, 0, none⟩) [f] := by
    refine ⟨by simp, fun _ => ⟨g, 0, rfl, (Array.getElem?_eq_some_iff.1 hg).1, fun i f' hf' => ?_⟩⟩
    match i, hf' with
    | 0, hf' =>
      simp at hf'
      subst hf'
      exact ⟨a, b, c, l, hf, ⟨hx.1, hx.2.1, hx.2.2.1, hx.2.2.2⟩⟩
  have h := write_short w (some ⟨g, 0, none⟩) 1 1 [f] rfl hfl (by decide)
  rw [hw] at h
  have H := Lib.hid h
  clear h hfl hx hg hw hf
  go_enter Tryz.func53, Tryz.ntmps53
  go_wp2_with (first | (go_at_call 78; refine (H.out).mono ?_; rintro e w' ⟨rfl, hb⟩) | (go_at_call 79; refine (on_ok _).mono ?_; rintro e w' ⟨rfl, rfl⟩))
  go_returns
  exact ⟨rfl, hb⟩

theorem wr_one (f : M.Fd) (hm : M.may f = true) (hl : (M.enc1 f).length ≤ 65536) : M.wr [f] = (0, M.enc1 f) := by
  have he : M.enc [f] = M.enc1 f := by simp [M.enc]
  rw [M.wr, he, if_neg (by simp), if_neg (by simp [hm]), if_neg (by omega)]

set_option maxRecDepth 100000 in
set_option maxHeartbeats 4000000 in
theorem written_m1 (w : World)  : Calls Tryz.prog 19 #[.agg (nv 3 (-1) 0)] w fun en w' => en = .returned (.string ⟨(M.enc1 ⟨3, 0, 18446744073709551615, []⟩).toArray⟩) ∧ Below w.heap.size w w' := by
  have hmay : M.may ⟨3, 0, 18446744073709551615, []⟩ = true := by rfl
  have hlen : (M.enc1 ⟨3, 0, 18446744073709551615, []⟩).length ≤ 65536 := by
    have h1 := M.vnum_len10 24 (by omega)
    have h2 := M.vnum_len10 18446744073709551615 (by omega)
    rw [M.enc1, List.length_append]
    simp [M.key, M.body]; omega
  have hfit : Fit ⟨3, 0, 18446744073709551615, []⟩ 3 0 18446744073709551615 [] := ⟨rfl, by omega, by omega, by omega, by omega, by omega, by omega, by simp⟩
  obtain ⟨xs, hxs⟩ : ∃ xs, xs = M.enc1 ⟨3, 0, 18446744073709551615, []⟩ := ⟨_, rfl⟩
  have hwr : M.wr [⟨3, 0, 18446744073709551615, []⟩] = (0, xs) := by rw [hxs]; exact wr_one _ hmay hlen
  have hm : ∀ W (g : Nat), W.heap[g]? = some (.cells (fcells 3 0 18446744073709551615 []) 73 (0, 0)) → Calls Tryz.prog 53 #[.slice (some ⟨g, 0, none⟩) 1 1] W fun en w' => en = .returned (.string ⟨xs.toArray⟩) ∧ Below W.heap.size W w' := fun W g hg => message_one W g ⟨3, 0, 18446744073709551615, []⟩ 3 0 18446744073709551615 [] xs hfit hg hwr
  rw [← hxs]
  have Hm := Lib.hid hm
  clear hm hwr hxs hmay hlen hfit
  have l1 : ∀ (X : World) (g : Nat), X.heap.size = g → (Instr.lookup 75 (.map (some g)) (.int .u8 3) true).run Tryz.prog (X.alloc (.map m7 7)).drew = .ok (.tuple #[fv 3 0, .bool true]) (X.alloc (.map m7 7)).drew := fun X g hg => by
    subst hg; exact look7 (W := (X.alloc (.map m7 7)).drew) (heap_alloc_new X _) 3 2 (fv 3 0) (by rfl)
  have l2 : ∀ (X : World) (o : Obj) (g : Nat), X.heap.size = g → (Instr.lookup 75 (.map (some g)) (.int .u8 3) true).run Tryz.prog ((X.alloc (.map m7 7)).alloc o).drew = .ok (.tuple #[fv 3 0, .bool true]) ((X.alloc (.map m7 7)).alloc o).drew := fun X o g hg => by
    subst hg; exact look7 (W := ((X.alloc (.map m7 7)).alloc o).drew) (blk_alloc (heap_alloc_new X _) o) 3 2 (fv 3 0) (by rfl)
  have hk0 : ((w.alloc (.cells (nv 3 (-1) 0) 27)).drew).cell? ⟨w.heap.size, 0, none⟩ = some (.int .u8 3) := cell_of_row _ w.heap.size 0 (nv 3 (-1) 0) 27 (0, 0) (blk_new w _)
  have h58 := Tryz.bits39
  go_enter Tryz.func19, Tryz.ntmps19
  go_wp2
  go_region_held3 (fun w' => w'.cell? ⟨w.heap.size, 0, none⟩ = some (.int .u8 3))
    (first | exact hk0 | go_keep)
    (first | (go_at_call 49; refine (places_any _).mono ?_; rintro e w8 ⟨rfl, rfl⟩))
  all_goals
    clear l1 l2 hk0
    go_wp2_with (go_at_call 53; refine (Hm.out _ _ (by first | exact blk_at (by simp) | (refine blk_at ?_; simp))).mono ?_; rintro e w9 ⟨rfl, hb9⟩)
    go_returns
    refine ⟨rfl, Below.trans ?_ (hb9.mono (by simp <;> omega))⟩
    go_grown

set_option maxRecDepth 100000 in
set_option maxHeartbeats 4000000 in
theorem written_float (w : World) (f : Nat) (hf64 : f < 18446744073709551616) : Calls Tryz.prog 19 #[.agg (nv 4 0 f)] w fun en w' => en = .returned (.string ⟨(M.enc1 ⟨4, 1, f, []⟩).toArray⟩) ∧ Below w.heap.size w w' := by
  have hmay : M.may ⟨4, 1, f, []⟩ = true := by simp [M.may]
  have hlen : (M.enc1 ⟨4, 1, f, []⟩).length ≤ 65536 := by
    have h1 := M.vnum_len10 (M.key ⟨4, 1, f, []⟩) (by simp [M.key])
    rw [M.enc1, List.length_append]
    simp [M.body, M.le_len]; omega
  have hfit : Fit ⟨4, 1, f, []⟩ 4 1 (f : Int) [] := ⟨rfl, by omega, by omega, by omega, by omega, by omega, by omega, by simp⟩
  obtain ⟨xs, hxs⟩ : ∃ xs, xs = M.enc1 ⟨4, 1, f, []⟩ := ⟨_, rfl⟩
  have hwr : M.wr [⟨4, 1, f, []⟩] = (0, xs) := by rw [hxs]; exact wr_one _ hmay hlen
  have hm : ∀ W (g : Nat), W.heap[g]? = some (.cells (fcells 4 1 (f : Int) []) 73 (0, 0)) → Calls Tryz.prog 53 #[.slice (some ⟨g, 0, none⟩) 1 1] W fun en w' => en = .returned (.string ⟨xs.toArray⟩) ∧ Below W.heap.size W w' := fun W g hg => message_one W g ⟨4, 1, f, []⟩ 4 1 (f : Int) [] xs hfit hg hwr
  rw [← hxs]
  have Hm := Lib.hid hm
  clear hm hwr hxs hmay hlen hfit
  have l1 : ∀ (X : World) (g : Nat), X.heap.size = g → (Instr.lookup 75 (.map (some g)) (.int .u8 4) true).run Tryz.prog (X.alloc (.map m7 7)).drew = .ok (.tuple #[fv 4 1, .bool true]) (X.alloc (.map m7 7)).drew := fun X g hg => by
    subst hg; exact look7 (W := (X.alloc (.map m7 7)).drew) (heap_alloc_new X _) 4 3 (fv 4 1) (by rfl)
  have l2 : ∀ (X : World) (o : Obj) (g : Nat), X.heap.size = g → (Instr.lookup 75 (.map (some g)) (.int .u8 4) true).run Tryz.prog ((X.alloc (.map m7 7)).alloc o).drew = .ok (.tuple #[fv 4 1, .bool true]) ((X.alloc (.map m7 7)).alloc o).drew := fun X o g hg => by
    subst hg; exact look7 (W := ((X.alloc (.map m7 7)).alloc o).drew) (blk_alloc (heap_alloc_new X _) o) 4 3 (fv 4 1) (by rfl)
  have hk0 : ((w.alloc (.cells (nv 4 0 f) 27)).drew).cell? ⟨w.heap.size, 0, none⟩ = some (.int .u8 4) := cell_of_row _ w.heap.size 0 (nv 4 0 f) 27 (0, 0) (blk_new w _)
  have h58 := Tryz.bits39
  go_enter Tryz.func19, Tryz.ntmps19
  go_wp2
  go_region_held3 (fun w' => w'.cell? ⟨w.heap.size, 0, none⟩ = some (.int .u8 4))
    (first | exact hk0 | go_keep)
    (first | (go_at_call 49; refine (places_any _).mono ?_; rintro e w8 ⟨rfl, rfl⟩))
  all_goals
    clear l1 l2 hk0
    go_wp2_with (go_at_call 53; refine (Hm.out _ _ (by first | exact blk_at (by simp) | (refine blk_at ?_; simp))).mono ?_; rintro e w9 ⟨rfl, hb9⟩)
    go_returns
    refine ⟨rfl, Below.trans ?_ (hb9.mono (by simp <;> omega))⟩
    go_grown
end Go.Proofs.YtnnnnlcpmocnfaaGreatDoor

/- THE WALKS OVER fail.Caught AND value.Write AT A NUMBER. -/
namespace Go.Proofs.YtnnnnlcpmocnfaaGreatDoor
open Go.RowKit
set_option linter.unusedVariables false
set_option linter.unusedSimpArgs false

theorem catch_idle (p : Addr) (w : World) :
    CallsD Tryz.prog 41 #[.pointer (some p)] .returning w fun e u' w' => e = .returned (.tuple #[]) ∧ u' = .returning ∧ w' = w := by
  refine callsD_of_wpS Tryz.func41 rfl fun c₀ cs hu => ?_
  apply wpS_seq
  apply wpS_region
  simp [wpOpsS, go_sem, recoverD, hu, Tryz.ntmps41, Exit.thenS]
  apply wpS_seq
  apply wpS_seq
  apply wpS_region
  simp [wpOpsS, go_sem, Exit.thenS, Array.replicate]
  refine wpS_cond (t := true) (by simp [Act.eval]) ?_
  simp only [if_true]
  refine wpS_of_wp (wp_ret ?_)
  cases c₀
  simp_all [bodyPostS, results, Tryz.results41, Exit.thenS]

/-- Caught of a closure that returns -/
def CaughtOk (w : World) (R : World → Prop) (en : Ending) (w' : World) : Prop := en = .returned (.int .i64 0) ∧ ∃ w1, R w1 ∧ w1.heap[w.heap.size]? = some (.cells #[.int .i64 0] 31 (0, 0)) ∧ w' = w1.setCell ⟨w.heap.size, 0, none⟩ (.int .i64 0)
set_option maxRecDepth 100000 in
set_option maxHeartbeats 4000000 in
theorem caught_ok (w : World) (C : Nat) (cap : Array Value) (R : World → Prop) (hent : ∀ W, (callFunc C cap).run Tryz.prog W = .ok (.enter C cap) W)
    (hcl : Calls Tryz.prog C cap (w.alloc (.cells #[.int .i64 0] 31)) fun en w1 => en = .returned (.tuple #[]) ∧ w1.heap[w.heap.size]? = some (.cells #[.int .i64 0] 31 (0, 0)) ∧ R w1) :
    Calls Tryz.prog 16 #[.func (Fn.func C) #[] cap] w (CaughtOk w R) := by
  have hmf : ∀ (fn : Fn) (first cap : Array Value) (w : World), (Instr.makeFunc fn first cap).run Tryz.prog w = .ok (.func fn first cap) w := fun _ _ _ _ => rfl
  have Hc := Lib.hid hcl
  clear hcl
  go_enter_defers Tryz.func16, Tryz.ntmps16
  go_wp2_with fail
  refine (Hc.out).mono ?_
  rintro e w1 ⟨rfl, hw1, hR⟩
  have HR := Lib.hid hR
  have Hw1 := Lib.hid hw1
  have kc := cell_of_one hw1
  have kf := free_of_one hw1
  have k2 := cell_of_one (one_setCell (u := .int .i64 0) hw1)
  clear hR hw1
  go_wp2
  refine leaves_cons (f := 41) (args := #[.pointer (some ⟨w.heap.size, 0, none⟩)]) (by simp) (by simp [go_sem]) ?_
  refine (catch_idle _ _).mono ?_
  rintro e u' w'' ⟨rfl, rfl, rfl⟩
  simp [Leaves, settle, results, Tryz.results16, go_sem, k2]
  exact ⟨rfl, _, HR.out, Hw1.out, rfl⟩

/-- what Write's closure leaves -/
def WrLeft (w : World) (h : Nat) (xs : List UInt8) (w1 : World) : Prop := w1.heap[h]? = some (.cells #[.string ⟨xs.toArray⟩] 9 (0, 0)) ∧ Below h w w1

set_option maxHeartbeats 4000000 in
theorem write_clo (w : World) (g h : Nat) (k n : Int) (f : Nat) (xs : List UInt8) (hgh : g < h) (hg : w.heap[g]? = some (.cells (nv k n f) 27 (0, 0))) (hh : w.heap[h]? = some (.cells #[.string ⟨#[]⟩] 9 (0, 0)))
    (hchk : ∀ w, Calls Tryz.prog 18 #[.agg (nv k n f), .int .i64 0] w fun en w' => en = .returned (.tuple #[]) ∧ Below w.heap.size w w')
    (hwr : ∀ w, Calls Tryz.prog 19 #[.agg (nv k n f)] w fun en w' => en = .returned (.string ⟨xs.toArray⟩) ∧ Below w.heap.size w w') :
    Calls Tryz.prog 17 #[.pointer (some ⟨g, 0, none⟩), .pointer (some ⟨h, 0, none⟩)] w fun en w' => en = .returned (.tuple #[]) ∧ ∃ w2, Below w.heap.size w w2 ∧ w' = w2.setCell ⟨h, 0, none⟩ (.string ⟨xs.toArray⟩) := by
  have Hc := Lib.hid hchk
  have Hw := Lib.hid hwr
  have hlg : g < w.heap.size := (Array.getElem?_eq_some_iff.1 hg).1
  have hlh : h < w.heap.size := (Array.getElem?_eq_some_iff.1 hh).1
  have q := fun j => cell_of_row w g j (nv k n f) 27 (0, 0) hg
  have q0 := q 0
  have q1 := q 1
  have q2 := q 2
  have q3 := q 3
  have q4 := q 4
  have q5 := q 5
  have q6 := q 6
  simp at q0 q1 q2 q3 q4 q5 q6
  have Hg := Lib.hid hg
  have Hh := Lib.hid hh
  clear hchk hwr q hg hh
  go_enter Tryz.func17, Tryz.ntmps17
  go_wp2_with fail
  refine (Hc.out _).mono ?_
  rintro e w1 ⟨rfl, hb1⟩
  have hg1 := (hb1.block g hlg).trans Hg.out
  have hh1 := (hb1.block h hlh).trans Hh.out
  have Hb1 := Lib.hid hb1
  clear hb1 q0 q1 q2 q3 q4 q5 q6
  have q := fun j => cell_of_row w1 g j (nv k n f) 27 (0, 0) hg1
  have q0 := q 0
  have q1 := q 1
  have q2 := q 2
  have q3 := q 3
  have q4 := q 4
  have q5 := q 5
  have q6 := q 6
  simp at q0 q1 q2 q3 q4 q5 q6
  have Hh1 := Lib.hid hh1
  clear q hg1 hh1
  go_wp2_with fail
  refine (Hw.out _).mono ?_
  rintro e w2 ⟨rfl, hb2⟩
  have hh2 := (hb2.block h (Nat.lt_of_lt_of_le hlh Hb1.out.size)).trans Hh1.out
  have kc := cell_of_one hh2
  have kf := free_of_one hh2
  have Hb2 := Lib.hid (Hb1.out.trans (hb2.mono Hb1.out.size))
  clear hb2 hh2 q0 q1 q2 q3 q4 q5 q6
  go_wp2
  go_returns
  exact ⟨rfl, _, Hb2.out, rfl⟩

/-- Write of a number -/
def WroteNum (w : World) (xs : List UInt8) (en : Ending) (w' : World) : Prop := en = .returned (.tuple #[.string ⟨xs.toArray⟩, .int .i64 0]) ∧ Below w.heap.size w w'
set_option maxRecDepth 100000 in
set_option maxHeartbeats 4000000 in
theorem write_num (w : World) (k n : Int) (f : Nat) (xs : List UInt8)
    (hchk : ∀ w, Calls Tryz.prog 18 #[.agg (nv k n f), .int .i64 0] w fun en w' => en = .returned (.tuple #[]) ∧ Below w.heap.size w w')
    (hwr : ∀ w, Calls Tryz.prog 19 #[.agg (nv k n f)] w fun en w' => en = .returned (.string ⟨xs.toArray⟩) ∧ Below w.heap.size w w') :
    Calls Tryz.prog 5 #[.agg (nv k n f)] w (WroteNum w xs) := by
  have hmf : ∀ (fn : Fn) (first cap : Array Value) (w : World), (Instr.makeFunc fn first cap).run Tryz.prog w = .ok (.func fn first cap) w := fun _ _ _ _ => rfl
  obtain ⟨W, hW⟩ : ∃ W, W = (w.alloc (.cells (nv k n f) 27)).alloc (.cells #[.string ⟨#[]⟩] 9) := ⟨_, rfl⟩
  have hg : (W.alloc (.cells #[.int .i64 0] 31)).heap[w.heap.size]? = some (.cells (nv k n f) 27 (0, 0)) := by rw [hW]; exact blk_alloc (blk_alloc (blk_new w _) _) _
  have hh : (W.alloc (.cells #[.int .i64 0] 31)).heap[w.heap.size + 1]? = some (.cells #[.string ⟨#[]⟩] 9 (0, 0)) := by rw [hW]; exact blk_alloc (blk_at (by simp)) _
  have hcl := write_clo (W.alloc (.cells #[.int .i64 0] 31)) w.heap.size (w.heap.size + 1) k n f xs (by omega) hg hh hchk hwr
  have hca := caught_ok W 17 #[.pointer (some ⟨w.heap.size, 0, none⟩), .pointer (some ⟨w.heap.size + 1, 0, none⟩)]
    (fun w1 => w1.heap[w.heap.size + 1]? = some (.cells #[.string ⟨xs.toArray⟩] 9 (0, 0)) ∧ Below w.heap.size w w1) (fun W => by kernel_rfl) (hcl.mono fun en w' h => by
      obtain ⟨he, w2, hb, rfl⟩ := h
      have hsz : W.heap.size = w.heap.size + 2 := by rw [hW]; simp
      refine ⟨he, ?_, ?_, ?_⟩
      · rw [Below.heap_setCell _ _ _ _ (by simp; omega), hb.block _ (by simp)]; exact blk_new W _
      · exact one_setCell ((hb.block _ (by simp; omega)).trans hh)
      · refine Below.setCell ?_ (by simp) _
        refine Below.trans ?_ (hb.mono (by simp; omega))
        rw [hW]
        go_grown)
  rw [hW] at hca
  have Hca := Lib.hid hca
  clear hca hcl hg hh hchk hwr
  go_enter Tryz.func5, Tryz.ntmps5
  go_wp2_with fail
  refine (Hca.out).mono ?_
  rintro e w' ⟨rfl, w1, ⟨hx, hb⟩, hy, rfl⟩
  have hc : (w1.setCell ⟨w.heap.size + 2, 0, none⟩ (.int .i64 0)).cell? ⟨w.heap.size + 1, 0, none⟩ = some (.string ⟨xs.toArray⟩) := by
    refine cell_of_one (t := 9) ?_
    rw [Below.heap_setCell _ _ _ _ (by simp)]; exact hx
  have Hb := Lib.hid (hb.setCell (p := ⟨w.heap.size + 2, 0, none⟩) (by simp <;> omega) (.int .i64 0))
  clear hb hx hy
  go_wp2
  go_ret2
  exact ⟨rfl, Hb.out⟩
end Go.Proofs.YtnnnnlcpmocnfaaGreatDoor

/- THE WALKS OVER value.Hash, AND value.Compare AT THE NUMBERS OF lives. -/
namespace Go.Proofs.YtnnnnlcpmocnfaaGreatDoor
open Go.RowKit
set_option linter.unusedVariables false
set_option linter.unusedSimpArgs false

/-- one byte more of a hash -/
def hstep (h c : Int) : Int := IntKind.u64.wrap (bits .xor .u64 h c * 1099511628211)
def hashI (l : List UInt8) : Int := l.foldl (fun h b => hstep h (b.toNat : Int)) 14695981039346656037
theorem hashI_snoc (l : List UInt8) (b : UInt8) : hashI (l ++ [b]) = hstep (hashI l) (b.toNat : Int) := by unfold hashI; rw [List.foldl_append]; rfl
theorem hstep_bd (h c : Int) : 0 ≤ hstep h c ∧ hstep h c ≤ 18446744073709551615 := by unfold hstep; rw [IntKind.wrap_u64]; omega
theorem hashI_bd (l : List UInt8) : 0 ≤ hashI l ∧ hashI l ≤ 18446744073709551615 := by
  rcases List.eq_nil_or_concat l with h | ⟨m, b, h⟩
  · subst h; unfold hashI; simp
  · rw [h, List.concat_eq_append, hashI_snoc]; exact hstep_bd _ _
theorem index_str {P : Program} {T : TypeId} (hT : P.underlying T = some .string) (l : List UInt8) (k : Nat) (h : k < l.length) (c : Int) (hc : c = (l[k].toNat : Int)) (W : World) :
    (Instr.index T (.string ⟨l.toArray⟩) (.int .i64 (k : Int))).run P W = .ok (.int .u8 c) W := by
  rw [run_index_string _ _ _ _ _ hT, dif_pos ⟨by omega, by simp [ByteArray.size]; omega⟩, hc]
  rfl

set_option maxHeartbeats 1000000 in
theorem hash_any (l : List UInt8) (w : World) (hl : l.length ≤ 9223372036854775807) :
    Calls Tryz.prog 38 #[.string ⟨l.toArray⟩] w fun e w' => e = .returned (.int .u64 (hashI l)) ∧ w = w' := by
  go_enter Tryz.func38, Tryz.ntmps38
  go_wp2
  go_loop [3, 7] (fun h i => ∃ (k : Nat) (x : Int), k ≤ l.length ∧ i = .int .i64 (k : Int) ∧ h = .int .u64 x ∧ x = hashI (l.take k)) (fun _ i => l.length - (intOf i).toNat)
  case atStart => exact ⟨0, 14695981039346656037, by omega, rfl, rfl, rfl⟩
  case round =>
    obtain ⟨k, x, hk, rfl, rfl, hx⟩ := hrel
    by_cases hlt : k < l.length
    · obtain ⟨c, hc⟩ : ∃ c : Int, c = (l[k].toNat : Int) := ⟨_, rfl⟩
      have hc0 : 0 ≤ c := by omega
      have hc1 : c ≤ 255 := by have := l[k].toNat_lt; omega
      have hix := fun W => index_str (P := Tryz.prog) Tryz.underlying9 l k hlt c hc W
      have hn : hstep x c = hashI (l.take (k + 1)) := by rw [List.take_succ_eq_append_getElem hlt, hashI_snoc, ← hx, hc]
      have Hn := Lib.hid hn
      clear hx hc hn
      go_wp2
      go_round
      case rel => exact ⟨k + 1, hstep x c, by omega, by go_num, rfl, Hn.out⟩
      case measure => simp [intOf]; omega
    · have hf : x = hashI l := by rw [hx, List.take_of_length_le (by omega)]
      have Hf := Lib.hid hf
      clear hx hf
      go_wp2
      go_ret
      exact ⟨by rw [Hf.out]; rfl, rfl⟩
end Go.Proofs.YtnnnnlcpmocnfaaGreatDoor

/- THE WALKS OVER value.Compare AT FLOATS, AND AT THE NUMBERS OF lives; lives. -/
namespace Go.Proofs.YtnnnnlcpmocnfaaGreatDoor
open Go.RowKit
set_option linter.unusedVariables false
set_option linter.unusedSimpArgs false

theorem run_store_float {P : Program} (w : World) (a : Addr) (k : FloatKind) (b : Nat) (m : Mode) : (store a (.float k b) m).run P w = stored P w a (.float k b) m := run_store P w a _ m rfl
attribute [local go_sem] run_store_float

def ordI : Ordering → Int | .lt => -1 | .eq => 0 | .gt => 1
theorem cmpF_any (a b : Nat) (o : Ordering) (w : World) (ha : FloatKind.f64.format.order a a = some .eq) (hb : FloatKind.f64.format.order b b = some .eq) (ho : FloatKind.f64.format.order a b = some o) :
    Calls Tryz.prog 73 #[.float .f64 a, .float .f64 b] w fun e w' => e = .returned (.int .i64 (ordI o)) ∧ w = w' := by
  cases o
  all_goals
    go_enter Tryz.func73, Tryz.ntmps73
    go_wp2
    go_ret
    exact ⟨rfl, rfl⟩
theorem isNaN_any (a : Nat) (w : World) (b : Bool) (h : (FloatKind.f64.format.order a a != some .eq) = b) : Calls Tryz.prog 87 #[.float .f64 a] w fun e w' => e = .returned (.bool b) ∧ w = w' := by
  go_enter Tryz.func87, Tryz.ntmps87
  go_wp2
  go_ret
  exact ⟨by rw [← h]; rfl, rfl⟩
theorem ordered_int (n : Int) (w : World) : Calls Tryz.prog 72 #[.agg (nv 3 n 0)] w fun e w' => e = .returned (.bool true) ∧ w.alloc (.cells (nv 3 n 0) 27) = w' := by
  go_enter Tryz.func72, Tryz.ntmps72
  go_wp2
  go_ret
  exact ⟨rfl, rfl⟩
theorem ordered_float (f : Nat) (w : World) (b : Bool) (h : (FloatKind.f64.format.order f f != some .eq) = b) : Calls Tryz.prog 72 #[.agg (nv 4 0 f)] w fun e w' => e = .returned (.bool (!b)) ∧ w.alloc (.cells (nv 4 0 f) 27) = w' := by
  have hn := fun W => isNaN_any f W b h
  have Hn := Lib.hid hn
  clear hn h
  cases b
  all_goals
    go_enter Tryz.func72, Tryz.ntmps72
    go_wp2_with (go_at_call 87; refine (Hn.out _).mono ?_; rintro e w' ⟨rfl, rfl⟩)
    go_ret
    exact ⟨rfl, rfl⟩

set_option maxRecDepth 100000 in
set_option maxHeartbeats 1000000 in
/-- two floats that are no NaN -/
theorem cmp_ff (a b : Nat) (o : Ordering) (w : World) (ha : FloatKind.f64.format.order a a = some .eq) (hb : FloatKind.f64.format.order b b = some .eq) (ho : FloatKind.f64.format.order a b = some o) :
    Calls Tryz.prog 33 #[.agg (nv 4 0 a), .agg (nv 4 0 b)] w fun e w' => e = .returned (.tuple #[.int .i64 (ordI o), .bool true]) ∧ Below w.heap.size w w' := by
  have h1 := fun W => ordered_float a W false (by rw [ha]; rfl)
  have h2 := fun W => ordered_float b W false (by rw [hb]; rfl)
  have h3 := fun W => cmpF_any a b o W ha hb ho
  have H1 := Lib.hid h1
  have H2 := Lib.hid h2
  have H3 := Lib.hid h3
  clear h1 h2 h3 ha hb ho
  go_enter Tryz.func33, Tryz.ntmps33
  go_wp2_with fail
  refine (H1.out _).mono ?_
  rintro e w' ⟨rfl, rfl⟩
  go_wp2_with fail
  refine (H2.out _).mono ?_
  rintro e w' ⟨rfl, rfl⟩
  go_wp2_with fail
  refine (H3.out _).mono ?_
  rintro e w' ⟨rfl, rfl⟩
  go_wp2
  go_ret2
  refine ⟨rfl, ?_⟩
  go_grown

set_option maxRecDepth 100000 in
set_option maxHeartbeats 1000000 in
/-- two floats, one of them a NaN -/
theorem cmp_nan (a b : Nat) (w : World) (h : (FloatKind.f64.format.order a a != some .eq) = true ∨ (FloatKind.f64.format.order a a != some .eq) = false ∧ (FloatKind.f64.format.order b b != some .eq) = true) :
    Calls Tryz.prog 33 #[.agg (nv 4 0 a), .agg (nv 4 0 b)] w fun e w' => e = .returned (.tuple #[.int .i64 0, .bool false]) ∧ Below w.heap.size w w' := by
  rcases h with h | ⟨h, h'⟩
  · have h1 := fun W => ordered_float a W true h
    have H1 := Lib.hid h1
    clear h1 h
    go_enter Tryz.func33, Tryz.ntmps33
    go_wp2_with fail
    refine (H1.out _).mono ?_
    rintro e w' ⟨rfl, rfl⟩
    go_wp2
    go_ret2
    refine ⟨rfl, ?_⟩
    go_grown
  · have h1 := fun W => ordered_float a W false h
    have h2 := fun W => ordered_float b W true h'
    have H1 := Lib.hid h1
    have H2 := Lib.hid h2
    clear h1 h2 h h'
    go_enter Tryz.func33, Tryz.ntmps33
    go_wp2_with fail
    refine (H1.out _).mono ?_
    rintro e w' ⟨rfl, rfl⟩
    go_wp2_with fail
    refine (H2.out _).mono ?_
    rintro e w' ⟨rfl, rfl⟩
    go_wp2
    go_ret2
    refine ⟨rfl, ?_⟩
    go_grown

/-- the two numbers of lives -/
theorem mixed_live (w : World) : Calls Tryz.prog 74 #[.int .i64 9007199254740993, .float .f64 4845873199050653696] w fun e w' => e = .returned (.int .i64 1) ∧ w = w' := by
  have hcv : ∀ W, (convert 23 2 (.float .f64 4845873199050653696)).run Tryz.prog W = .ok (.int .i64 9007199254740992) W := fun W => by kernel_rfl
  have ho1 : FloatKind.f64.format.order 4845873199050653696 4890909195324358656 = some .lt := by kernel_rfl
  have ho2 : FloatKind.f64.format.order 4845873199050653696 14114281232179134464 = some .gt := by kernel_rfl
  go_enter Tryz.func74, Tryz.ntmps74
  go_wp2
  go_ret
  exact ⟨rfl, rfl⟩
set_option maxRecDepth 100000 in
set_option maxHeartbeats 1000000 in
theorem cmp_live (w : World) : Calls Tryz.prog 33 #[.agg (nv 3 9007199254740993 0), .agg (nv 4 0 4845873199050653696)] w fun e w' => e = .returned (.tuple #[.int .i64 1, .bool true]) ∧ Below w.heap.size w w' := by
  have h2 := fun W => ordered_float 4845873199050653696 W false (by kernel_rfl)
  have H2 := Lib.hid h2
  clear h2
  go_enter Tryz.func33, Tryz.ntmps33
  go_wp2_with fail
  refine (ordered_int _ _).mono ?_
  rintro e w' ⟨rfl, rfl⟩
  go_wp2_with fail
  refine (H2.out _).mono ?_
  rintro e w' ⟨rfl, rfl⟩
  go_wp2_with fail
  refine (mixed_live _).mono ?_
  rintro e w' ⟨rfl, rfl⟩
  go_wp2
  go_ret2
  refine ⟨rfl, ?_⟩
  go_grown

theorem part_any (f : Nat) (w : World) : Calls Tryz.prog 35 #[.float .f64 f] w fun e w' => e = .returned (.agg (nv 4 0 f)) ∧ Below w.heap.size w w' := by
  go_enter Tryz.func35, Tryz.ntmps35
  go_wp2
  refine bodyPost_ret (v := .agg (nv 4 0 f)) (by simp [results, Tryz.results35, go_sem]) rfl ⟨rfl, ?_⟩
  go_grown
theorem whole_any (n : Int) (w : World) : Calls Tryz.prog 34 #[.int .i64 n] w fun e w' => e = .returned (.agg (nv 3 n 0)) ∧ Below w.heap.size w w' := by
  go_enter Tryz.func34, Tryz.ntmps34
  go_wp2
  refine bodyPost_ret (v := .agg (nv 3 n 0)) (by simp [results, Tryz.results34, go_sem]) rfl ⟨rfl, ?_⟩
  go_grown
theorem nan_any (w : World) : Calls Tryz.prog 37 #[] w fun e w' => e = .returned (.float .f64 9221120237041090561) ∧ w = w' := by
  have h38 := Tryz.from60
  go_enter Tryz.func37, Tryz.ntmps37
  go_wp2
  go_ret
  exact ⟨rfl, rfl⟩
theorem copysign_live (w : World) : Calls Tryz.prog 36 #[.float .f64 0, .float .f64 13830554455654793216] w fun e w' => e = .returned (.float .f64 9223372036854775808) ∧ w = w' := by
  have h38 := Tryz.from60
  have h58 := Tryz.bits39
  go_enter Tryz.func36, Tryz.ntmps36
  go_wp2
  go_ret
  exact ⟨rfl, rfl⟩
end Go.Proofs.YtnnnnlcpmocnfaaGreatDoor

/- THE WALK OVER value's lives. -/
namespace Go.Proofs.YtnnnnlcpmocnfaaGreatDoor
open Go.RowKit
set_option linter.unusedVariables false
set_option linter.unusedSimpArgs false

theorem vnum24 : M.vnum 24 = [24] := by rw [M.vnum_lt (by decide)]; rfl
theorem vstep (n q r : Nat) (l : List UInt8) (hn : n = 128 * q + r) (hr : r < 128) (hq : 1 ≤ q) (hl : M.vnum q = l) : M.vnum n = M.by8 (r + 128) :: l := by
  rw [M.vnum_ge (by omega), show n % 128 = r by omega, show n / 128 = q by omega, hl]
theorem by255 : M.by8 (127 + 128) = 255 := rfl
theorem vn0 : M.vnum 1 = [1] := by rw [M.vnum_lt (by decide)]; rfl
theorem vn1 : M.vnum 255 = [255, 1] := (vstep 255 1 127 [1] (by omega) (by omega) (by omega) vn0).trans (by rw [by255])
theorem vn2 : M.vnum 32767 = [255, 255, 1] := (vstep 32767 255 127 [255, 1] (by omega) (by omega) (by omega) vn1).trans (by rw [by255])
theorem vn3 : M.vnum 4194303 = [255, 255, 255, 1] := (vstep 4194303 32767 127 [255, 255, 1] (by omega) (by omega) (by omega) vn2).trans (by rw [by255])
theorem vn4 : M.vnum 536870911 = [255, 255, 255, 255, 1] := (vstep 536870911 4194303 127 [255, 255, 255, 1] (by omega) (by omega) (by omega) vn3).trans (by rw [by255])
theorem vn5 : M.vnum 68719476735 = [255, 255, 255, 255, 255, 1] := (vstep 68719476735 536870911 127 [255, 255, 255, 255, 1] (by omega) (by omega) (by omega) vn4).trans (by rw [by255])
theorem vn6 : M.vnum 8796093022207 = [255, 255, 255, 255, 255, 255, 1] := (vstep 8796093022207 68719476735 127 [255, 255, 255, 255, 255, 1] (by omega) (by omega) (by omega) vn5).trans (by rw [by255])
theorem vn7 : M.vnum 1125899906842623 = [255, 255, 255, 255, 255, 255, 255, 1] := (vstep 1125899906842623 8796093022207 127 [255, 255, 255, 255, 255, 255, 1] (by omega) (by omega) (by omega) vn6).trans (by rw [by255])
theorem vn8 : M.vnum 144115188075855871 = [255, 255, 255, 255, 255, 255, 255, 255, 1] := (vstep 144115188075855871 1125899906842623 127 [255, 255, 255, 255, 255, 255, 255, 1] (by omega) (by omega) (by omega) vn7).trans (by rw [by255])
theorem vn9 : M.vnum 18446744073709551615 = [255, 255, 255, 255, 255, 255, 255, 255, 255, 1] := (vstep 18446744073709551615 144115188075855871 127 [255, 255, 255, 255, 255, 255, 255, 255, 1] (by omega) (by omega) (by omega) vn8).trans (by rw [by255])
theorem vnumm1 : M.vnum 18446744073709551615 = [255, 255, 255, 255, 255, 255, 255, 255, 255, 1] := vn9
theorem encm1 : M.enc1 ⟨3, 0, 18446744073709551615, []⟩ = [24, 255, 255, 255, 255, 255, 255, 255, 255, 255, 1] := by
  have hk : M.key ⟨3, 0, 18446744073709551615, []⟩ = 24 := by simp [M.key]
  have hb : M.body ⟨3, 0, 18446744073709551615, []⟩ = M.vnum 18446744073709551615 := by unfold M.body; rw [if_pos rfl]
  rw [M.enc1, hk, hb, vnum24, vnumm1]
  rfl
theorem write_m1 (w : World) : Calls Tryz.prog 5 #[.agg (nv 3 (-1) 0)] w fun e w' => e = .returned (.tuple #[.string ⟨#[24, 255, 255, 255, 255, 255, 255, 255, 255, 255, 1]⟩, .int .i64 0]) ∧ Below w.heap.size w w' := by
  have h := write_num w 3 (-1) 0 (M.enc1 ⟨3, 0, 18446744073709551615, []⟩) (fun w => check_num 3 (-1) 0 0 w (.inl rfl) (by omega) (bare_int (-1))) (fun w => written_m1 w)
  rw [encm1] at h
  exact h.mono fun e w' ⟨he, hb⟩ => ⟨he, hb⟩
theorem hash_a (w : World) : Calls Tryz.prog 38 #[.string ⟨#[97]⟩] w fun e w' => e = .returned (.int .u64 12638187200555641996) ∧ w = w' := by
  have h := hash_any [97] w (by decide)
  have e : hashI [97] = 12638187200555641996 := by kernel_rfl
  rw [e] at h
  exact h
theorem cmp_zeros (w : World) : Calls Tryz.prog 33 #[.agg (nv 4 0 0), .agg (nv 4 0 9223372036854775808)] w fun e w' => e = .returned (.tuple #[.int .i64 0, .bool true]) ∧ Below w.heap.size w w' :=
  cmp_ff 0 9223372036854775808 .eq w (by kernel_rfl) (by kernel_rfl) (by kernel_rfl)
theorem cmp_nans (w : World) : Calls Tryz.prog 33 #[.agg (nv 4 0 9221120237041090561), .agg (nv 4 0 9221120237041090561)] w fun e w' => e = .returned (.tuple #[.int .i64 0, .bool false]) ∧ Below w.heap.size w w' :=
  cmp_nan 9221120237041090561 9221120237041090561 w (.inl (by kernel_rfl))

set_option maxRecDepth 100000 in
set_option maxHeartbeats 4000000 in
theorem lives_any (w : World) : Calls Tryz.prog 13 #[] w fun e w' => e = .returned (.bool true) ∧ Below w.heap.size w w' := by
  go_enter Tryz.func13, Tryz.ntmps13
  go_wp2_with fail
  refine (whole_any _ _).mono ?_
  rintro e w1 ⟨rfl, hb1⟩
  have Hb1 := Lib.hid hb1
  clear hb1
  go_wp2_with fail
  refine (part_any _ _).mono ?_
  rintro e w2 ⟨rfl, hb2⟩
  have Hb2 := Lib.hid (Hb1.out.trans (hb2.mono Hb1.out.size))
  clear hb2
  go_wp2_with fail
  refine (cmp_live _).mono ?_
  rintro e w3 ⟨rfl, hb3⟩
  have Hb3 := Lib.hid (Hb2.out.trans (hb3.mono Hb2.out.size))
  clear hb3
  go_wp2_with fail
  refine (part_any _ _).mono ?_
  rintro e w4 ⟨rfl, hb4⟩
  have Hb4 := Lib.hid (Hb3.out.trans (hb4.mono Hb3.out.size))
  clear hb4
  go_wp2_with fail
  refine (copysign_live _).mono ?_
  rintro e w' ⟨rfl, rfl⟩
  go_wp2_with fail
  refine (part_any _ _).mono ?_
  rintro e w5 ⟨rfl, hb5⟩
  have Hb5 := Lib.hid (Hb4.out.trans (hb5.mono Hb4.out.size))
  clear hb5
  go_wp2_with fail
  refine (cmp_zeros _).mono ?_
  rintro e w6 ⟨rfl, hb6⟩
  have Hb6 := Lib.hid (Hb5.out.trans (hb6.mono Hb5.out.size))
  clear hb6
  go_wp2_with fail
  refine (nan_any _).mono ?_
  rintro e w' ⟨rfl, rfl⟩
  go_wp2_with fail
  refine (part_any _ _).mono ?_
  rintro e w7 ⟨rfl, hb7⟩
  have Hb7 := Lib.hid (Hb6.out.trans (hb7.mono Hb6.out.size))
  clear hb7
  go_wp2_with fail
  refine (nan_any _).mono ?_
  rintro e w' ⟨rfl, rfl⟩
  go_wp2_with fail
  refine (part_any _ _).mono ?_
  rintro e w8 ⟨rfl, hb8⟩
  have Hb8 := Lib.hid (Hb7.out.trans (hb8.mono Hb7.out.size))
  clear hb8
  go_wp2_with fail
  refine (cmp_nans _).mono ?_
  rintro e w9 ⟨rfl, hb9⟩
  have Hb9 := Lib.hid (Hb8.out.trans (hb9.mono Hb8.out.size))
  clear hb9
  go_wp2_with fail
  refine (whole_any _ _).mono ?_
  rintro e w10 ⟨rfl, hb10⟩
  have Hb10 := Lib.hid (Hb9.out.trans (hb10.mono Hb9.out.size))
  clear hb10
  go_wp2_with fail
  refine (write_m1 _).mono ?_
  rintro e w11 ⟨rfl, hb11⟩
  have Hb11 := Lib.hid (Hb10.out.trans (hb11.mono Hb10.out.size))
  clear hb11
  go_wp2_with fail
  refine (hash_a _).mono ?_
  rintro e w' ⟨rfl, rfl⟩
  go_wp2
  go_ret
  exact ⟨rfl, Hb11.out⟩
end Go.Proofs.YtnnnnlcpmocnfaaGreatDoor
