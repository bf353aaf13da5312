/- THE WALK OVER value's places: a map of seven fields, made and asked. -/
import Derived.Test.YtnnnnlcpmocnfaaDoorVal1
import Derived.MapKept
import Derived.WideMake
import Derived.Deep.RegionHeld3
namespace Go.Proofs.YtnnnnlcpmocnfaaDoor
open Go.RowKit
set_option linter.unusedVariables false
set_option linter.unusedSimpArgs false

/-- a field of that number and wire, as a value -/
abbrev fv (n b : Int) : Value := .agg #[.int .i64 n, .int .u8 b, .int .u64 0, .string ⟨#[]⟩]
def entryL (i : Nat) (k n b : Int) : MapEntry := { key := .int .u8 k, val := fv n b, born := i }
def m0 : Array MapEntry := #[]
def m1 : Array MapEntry := m0.push (entryL 0 1 1 2)
def m2 : Array MapEntry := m1.push (entryL 1 2 2 0)
def m3 : Array MapEntry := m2.push (entryL 2 3 3 0)
def m4 : Array MapEntry := m3.push (entryL 3 4 4 1)
def m5 : Array MapEntry := m4.push (entryL 4 5 5 2)
def m6 : Array MapEntry := m5.push (entryL 5 6 6 2)
def m7 : Array MapEntry := m6.push (entryL 6 7 7 2)

theorem push_set (a : Array Obj) (x y : Obj) : (a.push x).setIfInBounds a.size y = a.push y := by
  apply Array.ext
  · simp
  · intro i h1 h2
    simp at h1 h2
    rw [Array.getElem_setIfInBounds (by simpa using h1)]
    by_cases e : i = a.size
    · subst e; simp
    · rw [if_neg (by omega), Array.getElem_push_lt (by omega), Array.getElem_push_lt (by omega)]

theorem ins_new {es : Array MapEntry} {c : Nat} {k : Int} (v : Value) (hf : Instr.findNow (.int .u8) (.int .u8 k) es.toList 0 = some none) (W : World) :
    (Instr.mapUpdate 107 (.map (some W.heap.size)) (.int .u8 k) v).run Tryd.prog (W.alloc (.map es c)) = .ok () (W.alloc (.map (es.push { key := .int .u8 k, val := v, born := c }) (c + 1))) := by
  have hb : (W.alloc (.map es c)).heap[W.heap.size]? = some (.map es c) := heap_alloc_new W _
  have hc : (Instr.checkKey false 10000 22 (.int .u8 k)).run Tryd.prog (W.alloc (.map es c)) = .ok () (W.alloc (.map es c)) := MapKept.run_checkKey (k := .int .u8 k) Tryd.underlying22 (by simp [MapKept.IsKey]) false 9999
  simp [Instr.mapUpdate, run_underlying Tryd.underlying107, MapKept.run_getObj_map hb, hc, MapKept.run_findKey Tryd.underlying22 hf, MapKept.run_setObj_map _ hb, Result.andThen]
  unfold World.alloc
  simp [push_set]

set_option maxRecDepth 100000 in
theorem places_any (w : World) : Calls Tryd.prog 94 #[] w fun en w' => en = .returned (.map (some w.heap.size)) ∧ w.alloc (.map m7 7) = w' := by
  have hmm : ∀ W, (Instr.makeMap 107 none).run Tryd.prog W = .ok (.map (some W.heap.size)) (W.alloc (.map m0 0)) := fun W => run_makeMap 107 W
  have h1 : ∀ W : World, (Instr.mapUpdate 107 (.map (some W.heap.size)) (.int .u8 1) (fv 1 2)).run Tryd.prog (W.alloc (.map m0 0)) = .ok () (W.alloc (.map m1 1)) := fun W => ins_new (fv 1 2) (by rfl) W
  have h2 : ∀ W : World, (Instr.mapUpdate 107 (.map (some W.heap.size)) (.int .u8 2) (fv 2 0)).run Tryd.prog (W.alloc (.map m1 1)) = .ok () (W.alloc (.map m2 2)) := fun W => ins_new (fv 2 0) (by rfl) W
  have h3 : ∀ W : World, (Instr.mapUpdate 107 (.map (some W.heap.size)) (.int .u8 3) (fv 3 0)).run Tryd.prog (W.alloc (.map m2 2)) = .ok () (W.alloc (.map m3 3)) := fun W => ins_new (fv 3 0) (by rfl) W
  have h4 : ∀ W : World, (Instr.mapUpdate 107 (.map (some W.heap.size)) (.int .u8 4) (fv 4 1)).run Tryd.prog (W.alloc (.map m3 3)) = .ok () (W.alloc (.map m4 4)) := fun W => ins_new (fv 4 1) (by rfl) W
  have h5 : ∀ W : World, (Instr.mapUpdate 107 (.map (some W.heap.size)) (.int .u8 5) (fv 5 2)).run Tryd.prog (W.alloc (.map m4 4)) = .ok () (W.alloc (.map m5 5)) := fun W => ins_new (fv 5 2) (by rfl) W
  have h6 : ∀ W : World, (Instr.mapUpdate 107 (.map (some W.heap.size)) (.int .u8 6) (fv 6 2)).run Tryd.prog (W.alloc (.map m5 5)) = .ok () (W.alloc (.map m6 6)) := fun W => ins_new (fv 6 2) (by rfl) W
  have h7 : ∀ W : World, (Instr.mapUpdate 107 (.map (some W.heap.size)) (.int .u8 7) (fv 7 2)).run Tryd.prog (W.alloc (.map m6 6)) = .ok () (W.alloc (.map m7 7)) := fun W => ins_new (fv 7 2) (by rfl) W
  go_enter Tryd.func94, Tryd.ntmps94
  go_wp2
  go_returns
  exact ⟨rfl, rfl⟩

theorem look7 {W : World} {r : Nat} (hb : W.heap[r]? = some (.map m7 7)) (k : Int) (i : Nat) (v : Value) (hf : Instr.findNow (.int .u8) (.int .u8 k) m7.toList 0 = some (some (i, v))) :
    (Instr.lookup 107 (.map (some r)) (.int .u8 k) true).run Tryd.prog W = .ok (.tuple #[v, .bool true]) W := by
  have hc : (Instr.checkKey false 10000 22 (.int .u8 k)).run Tryd.prog W = .ok () W := MapKept.run_checkKey (k := .int .u8 k) Tryd.underlying22 (by simp [MapKept.IsKey]) false 9999
  have he : m7.isEmpty = false := rfl
  simp [Instr.lookup, run_underlying Tryd.underlying107, MapKept.run_getObj_map hb, he, hc, MapKept.run_findKey Tryd.underlying22 hf, Result.andThen]

theorem blk_at {X : World} {o : Obj} {g : Nat} (hg : g = X.heap.size) : (X.alloc o).heap[g]? = some o := by subst hg; exact blk_new X o

theorem on_ok (w : World) : Calls Tryd.prog 114 #[.int .i64 0] w fun en w' => en = .returned (.tuple #[]) ∧ w = w' := by
  go_enter Tryd.func114, Tryd.ntmps114
  go_wp2_with (go_at_call 84; refine (unless_yes _ _).mono ?_; rintro e w' ⟨rfl, rfl⟩)
  go_returns
  exact ⟨rfl, rfl⟩

/-- one field, written -/
theorem message_one (w : World) (g : Nat) (f : M.Fd) (a b c : Int) (l xs : List UInt8) (hf : Fit f a b c l) (hg : w.heap[g]? = some (.cells (fcells a b c l) 69 (0, 0))) (hw : M.wr [f] = (0, xs)) :
    Calls Tryd.prog 98 #[.slice (some ⟨g, 0, none⟩) 1 1] w fun en w' => en = .returned (.string ⟨xs.toArray⟩) ∧ Below w.heap.size w w' := by
  have hx := box4 hg
  have hfl : Flds w w.heap.size (some ⟨g, 0, none⟩) [f] := by
    refine ⟨by simp, fun _ => ⟨g, 0, rfl, (Array.getElem?_eq_some_iff.1 hg).1, fun i f' hf' => ?_⟩⟩
    match i, hf' with
    | 0, hf' =>
      simp at hf'
      subst hf'
      exact ⟨a, b, c, l, hf, ⟨hx.1, hx.2.1, hx.2.2.1, hx.2.2.2⟩⟩
  have h := write_short w (some ⟨g, 0, none⟩) 1 1 [f] rfl hfl (by decide)
  rw [hw] at h
  have H := Lib.hid h
  clear h hfl hx hg hw hf
  go_enter Tryd.func98, Tryd.ntmps98
  go_wp2_with (first | (go_at_call 41; refine (H.out).mono ?_; rintro e w' ⟨rfl, hb⟩) | (go_at_call 114; refine (on_ok _).mono ?_; rintro e w' ⟨rfl, rfl⟩))
  go_returns
  exact ⟨rfl, hb⟩

theorem wr_one (f : M.Fd) (hm : M.may f = true) (hl : (M.enc1 f).length ≤ 65536) : M.wr [f] = (0, M.enc1 f) := by
  have he : M.enc [f] = M.enc1 f := by simp [M.enc]
  rw [M.wr, he, if_neg (by simp), if_neg (by simp [hm]), if_neg (by omega)]

set_option maxRecDepth 100000 in
set_option maxHeartbeats 4000000 in
theorem written_m1 (w : World)  : Calls Tryd.prog 64 #[.agg (nv 3 (-1) 0)] w fun en w' => en = .returned (.string ⟨(M.enc1 ⟨3, 0, 18446744073709551615, []⟩).toArray⟩) ∧ Below w.heap.size w w' := by
  have hmay : M.may ⟨3, 0, 18446744073709551615, []⟩ = true := by rfl
  have hlen : (M.enc1 ⟨3, 0, 18446744073709551615, []⟩).length ≤ 65536 := by
    have h1 := M.vnum_len10 24 (by omega)
    have h2 := M.vnum_len10 18446744073709551615 (by omega)
    rw [M.enc1, List.length_append]
    simp [M.key, M.body]; omega
  have hfit : Fit ⟨3, 0, 18446744073709551615, []⟩ 3 0 18446744073709551615 [] := ⟨rfl, by omega, by omega, by omega, by omega, by omega, by omega, by simp⟩
  obtain ⟨xs, hxs⟩ : ∃ xs, xs = M.enc1 ⟨3, 0, 18446744073709551615, []⟩ := ⟨_, rfl⟩
  have hwr : M.wr [⟨3, 0, 18446744073709551615, []⟩] = (0, xs) := by rw [hxs]; exact wr_one _ hmay hlen
  have hm : ∀ W (g : Nat), W.heap[g]? = some (.cells (fcells 3 0 18446744073709551615 []) 69 (0, 0)) → Calls Tryd.prog 98 #[.slice (some ⟨g, 0, none⟩) 1 1] W fun en w' => en = .returned (.string ⟨xs.toArray⟩) ∧ Below W.heap.size W w' := fun W g hg => message_one W g ⟨3, 0, 18446744073709551615, []⟩ 3 0 18446744073709551615 [] xs hfit hg hwr
  rw [← hxs]
  have Hm := Lib.hid hm
  clear hm hwr hxs hmay hlen hfit
  have l1 : ∀ (X : World) (g : Nat), X.heap.size = g → (Instr.lookup 107 (.map (some g)) (.int .u8 3) true).run Tryd.prog (X.alloc (.map m7 7)).drew = .ok (.tuple #[fv 3 0, .bool true]) (X.alloc (.map m7 7)).drew := fun X g hg => by
    subst hg; exact look7 (W := (X.alloc (.map m7 7)).drew) (heap_alloc_new X _) 3 2 (fv 3 0) (by rfl)
  have l2 : ∀ (X : World) (o : Obj) (g : Nat), X.heap.size = g → (Instr.lookup 107 (.map (some g)) (.int .u8 3) true).run Tryd.prog ((X.alloc (.map m7 7)).alloc o).drew = .ok (.tuple #[fv 3 0, .bool true]) ((X.alloc (.map m7 7)).alloc o).drew := fun X o g hg => by
    subst hg; exact look7 (W := ((X.alloc (.map m7 7)).alloc o).drew) (blk_alloc (heap_alloc_new X _) o) 3 2 (fv 3 0) (by rfl)
  have hk0 : ((w.alloc (.cells (nv 3 (-1) 0) 27)).drew).cell? ⟨w.heap.size, 0, none⟩ = some (.int .u8 3) := cell_of_row _ w.heap.size 0 (nv 3 (-1) 0) 27 (0, 0) (blk_new w _)
  have h58 := Tryd.bits58
  go_enter Tryd.func64, Tryd.ntmps64
  go_wp2
  go_region_held3 (fun w' => w'.cell? ⟨w.heap.size, 0, none⟩ = some (.int .u8 3))
    (first | exact hk0 | go_keep)
    (first | (go_at_call 94; refine (places_any _).mono ?_; rintro e w8 ⟨rfl, rfl⟩))
  all_goals
    clear l1 l2 hk0
    go_wp2_with (go_at_call 98; refine (Hm.out _ _ (by first | exact blk_at (by simp) | (refine blk_at ?_; simp))).mono ?_; rintro e w9 ⟨rfl, hb9⟩)
    go_returns
    refine ⟨rfl, Below.trans ?_ (hb9.mono (by simp <;> omega))⟩
    go_grown

set_option maxRecDepth 100000 in
set_option maxHeartbeats 4000000 in
theorem written_float (w : World) (f : Nat) (hf64 : f < 18446744073709551616) : Calls Tryd.prog 64 #[.agg (nv 4 0 f)] w fun en w' => en = .returned (.string ⟨(M.enc1 ⟨4, 1, f, []⟩).toArray⟩) ∧ Below w.heap.size w w' := by
  have hmay : M.may ⟨4, 1, f, []⟩ = true := by simp [M.may]
  have hlen : (M.enc1 ⟨4, 1, f, []⟩).length ≤ 65536 := by
    have h1 := M.vnum_len10 (M.key ⟨4, 1, f, []⟩) (by simp [M.key])
    rw [M.enc1, List.length_append]
    simp [M.body, M.le_len]; omega
  have hfit : Fit ⟨4, 1, f, []⟩ 4 1 (f : Int) [] := ⟨rfl, by omega, by omega, by omega, by omega, by omega, by omega, by simp⟩
  obtain ⟨xs, hxs⟩ : ∃ xs, xs = M.enc1 ⟨4, 1, f, []⟩ := ⟨_, rfl⟩
  have hwr : M.wr [⟨4, 1, f, []⟩] = (0, xs) := by rw [hxs]; exact wr_one _ hmay hlen
  have hm : ∀ W (g : Nat), W.heap[g]? = some (.cells (fcells 4 1 (f : Int) []) 69 (0, 0)) → Calls Tryd.prog 98 #[.slice (some ⟨g, 0, none⟩) 1 1] W fun en w' => en = .returned (.string ⟨xs.toArray⟩) ∧ Below W.heap.size W w' := fun W g hg => message_one W g ⟨4, 1, f, []⟩ 4 1 (f : Int) [] xs hfit hg hwr
  rw [← hxs]
  have Hm := Lib.hid hm
  clear hm hwr hxs hmay hlen hfit
  have l1 : ∀ (X : World) (g : Nat), X.heap.size = g → (Instr.lookup 107 (.map (some g)) (.int .u8 4) true).run Tryd.prog (X.alloc (.map m7 7)).drew = .ok (.tuple #[fv 4 1, .bool true]) (X.alloc (.map m7 7)).drew := fun X g hg => by
    subst hg; exact look7 (W := (X.alloc (.map m7 7)).drew) (heap_alloc_new X _) 4 3 (fv 4 1) (by rfl)
  have l2 : ∀ (X : World) (o : Obj) (g : Nat), X.heap.size = g → (Instr.lookup 107 (.map (some g)) (.int .u8 4) true).run Tryd.prog ((X.alloc (.map m7 7)).alloc o).drew = .ok (.tuple #[fv 4 1, .bool true]) ((X.alloc (.map m7 7)).alloc o).drew := fun X o g hg => by
    subst hg; exact look7 (W := ((X.alloc (.map m7 7)).alloc o).drew) (blk_alloc (heap_alloc_new X _) o) 4 3 (fv 4 1) (by rfl)
  have hk0 : ((w.alloc (.cells (nv 4 0 f) 27)).drew).cell? ⟨w.heap.size, 0, none⟩ = some (.int .u8 4) := cell_of_row _ w.heap.size 0 (nv 4 0 f) 27 (0, 0) (blk_new w _)
  have h58 := Tryd.bits58
  go_enter Tryd.func64, Tryd.ntmps64
  go_wp2
  go_region_held3 (fun w' => w'.cell? ⟨w.heap.size, 0, none⟩ = some (.int .u8 4))
    (first | exact hk0 | go_keep)
    (first | (go_at_call 94; refine (places_any _).mono ?_; rintro e w8 ⟨rfl, rfl⟩))
  all_goals
    clear l1 l2 hk0
    go_wp2_with (go_at_call 98; refine (Hm.out _ _ (by first | exact blk_at (by simp) | (refine blk_at ?_; simp))).mono ?_; rintro e w9 ⟨rfl, hb9⟩)
    go_returns
    refine ⟨rfl, Below.trans ?_ (hb9.mono (by simp <;> omega))⟩
    go_grown
end Go.Proofs.YtnnnnlcpmocnfaaDoor
