/- THE WALKS OVER comes, changeOf, what the changes refuse. -/
import Derived.Test.YtcefhcailhediaaBeg
namespace Go.Proofs.Ytcefhcailhediaa
open Go.RowKit
set_option linter.unusedVariables false
set_option linter.unusedSimpArgs false

theorem Dk.set2 {w : World} {g T : Nat} {v : Value} {down : Bool} {fuse fault : Int} (h : Dk w g T v down fuse fault) (x : Int) : Dk (w.setCell ⟨g, 2, none⟩ (.int .i64 x)) g T v down x fault := heap_setCell_same w g 2 _ T _ h
theorem Dk.set3 {w : World} {g T : Nat} {v : Value} {down : Bool} {fuse fault : Int} (h : Dk w g T v down fuse fault) (x : Int) : Dk (w.setCell ⟨g, 3, none⟩ (.int .i64 x)) g T v down fuse x := heap_setCell_same w g 3 _ T _ h
theorem Dk.set1 {w : World} {g T : Nat} {v : Value} {down : Bool} {fuse fault : Int} (h : Dk w g T v down fuse fault) (x : Bool) : Dk (w.setCell ⟨g, 1, none⟩ (.bool x)) g T v x fuse fault := heap_setCell_same w g 1 _ T _ h
theorem Dk.set0 {w : World} {g T : Nat} {v : Value} {down : Bool} {fuse fault : Int} (h : Dk w g T v down fuse fault) (x : Value) : Dk (w.setCell ⟨g, 0, none⟩ x) g T x down fuse fault := heap_setCell_same w g 0 _ T _ h
theorem grown_set (w : World) (g o : Nat) (v : Value) : w.grownBy (w.setCell ⟨g, o, none⟩ v) (some g) :=
  ⟨rfl, rfl, rfl, by simp [World.setCell], fun k _ hk => Below.heap_setCell w _ v k (by intro e; exact hk (by rw [e]))⟩
theorem grown_refl (w : World) (r : Option Nat) : w.grownBy w r := ⟨rfl, rfl, rfl, Nat.le_refl _, fun _ _ _ => rfl⟩

theorem comes_cell (w : World) (g o : Nat) (n : Int) (h : w.cell? ⟨g, o, none⟩ = some (.int .i64 n)) (hf : w.frozen? ⟨g, o, none⟩ = false) (h0 : -9223372036854775808 ≤ n) (h1 : n ≤ 9223372036854775807) :
    Calls Try.prog 51 #[.pointer (some ⟨g, o, none⟩)] w fun e w' => e = .returned (.bool (decide (n = 0))) ∧ w' = (if 0 < n then w.setCell ⟨g, o, none⟩ (.int .i64 (n - 1)) else w) := by
  obtain ⟨b, hb⟩ : ∃ b, decide (n = 0) = b := ⟨_, rfl⟩
  obtain ⟨z, hz⟩ : ∃ z, (if 0 < n then w.setCell ⟨g, o, none⟩ (.int .i64 (n - 1)) else w) = z := ⟨_, rfl⟩
  rw [hb, hz]
  have Hb := Lib.hid hb; clear hb
  have Hz := Lib.hid hz; clear hz
  by_cases c0 : n = 0
  · subst c0
    go_enter Try.func51, Try.ntmps51
    go_wp2
    go_ret
    exact ⟨ret_bool (by rw [← Hb.out]; rfl), by rw [← Hz.out]; rfl⟩
  · by_cases c1 : 0 < n
    · go_enter Try.func51, Try.ntmps51
      go_wp2
      go_ret
      exact ⟨ret_bool (by rw [← Hb.out]; simp [c0]), by rw [← Hz.out, if_pos c1]⟩
    · go_enter Try.func51, Try.ntmps51
      go_wp2
      go_ret
      exact ⟨ret_bool (by rw [← Hb.out]; simp [c0]), by rw [← Hz.out, if_neg (by omega)]⟩
def isZero (n : Int) : Bool := decide (n = 0)
theorem comes_fault (w : World) (g T : Nat) (v : Value) (down : Bool) (fuse fault : Int) (h : Dk w g T v down fuse fault) (h0 : -9223372036854775808 ≤ fault) (h1 : fault ≤ 9223372036854775807) :
    Calls Try.prog 51 #[.pointer (some ⟨g, 3, none⟩)] w fun e w' => e = .returned (.bool (isZero fault)) ∧ Dk w' g T v down fuse (dec fault) ∧ w.grownBy w' (some g) := by
  obtain ⟨⟨d0, d1, d2, d3⟩, f0, f1, f2, f3⟩ := h.facts
  refine (comes_cell w g 3 fault d3 f3 h0 h1).mono ?_
  rintro e w' ⟨he, hw⟩
  by_cases c : 0 < fault
  · rw [if_pos c] at hw; subst hw; rw [dec_pos c]; exact ⟨he, h.set3 _, grown_set _ _ _ _⟩
  · rw [if_neg c] at hw; subst hw; rw [dec_neg c]; exact ⟨he, h, grown_refl _ _⟩
theorem comes_fuse (w : World) (g T : Nat) (v : Value) (down : Bool) (fuse fault : Int) (h : Dk w g T v down fuse fault) (h0 : -9223372036854775808 ≤ fuse) (h1 : fuse ≤ 9223372036854775807) :
    Calls Try.prog 51 #[.pointer (some ⟨g, 2, none⟩)] w fun e w' => e = .returned (.bool (isZero fuse)) ∧ Dk w' g T v down (dec fuse) fault ∧ w.grownBy w' (some g) := by
  obtain ⟨⟨d0, d1, d2, d3⟩, f0, f1, f2, f3⟩ := h.facts
  refine (comes_cell w g 2 fuse d2 f2 h0 h1).mono ?_
  rintro e w' ⟨he, hw⟩
  by_cases c : 0 < fuse
  · rw [if_pos c] at hw; subst hw; rw [dec_pos c]; exact ⟨he, h.set2 _, grown_set _ _ _ _⟩
  · rw [if_neg c] at hw; subst hw; rw [dec_neg c]; exact ⟨he, h, grown_refl _ _⟩

theorem run_store_func (P : Program) (w : World) (a : Addr) (m : Mode) (f : Fn) (x y : Array Value) : (store a (.func f x y) m).run P w = stored P w a (.func f x y) m := run_store P w a _ m rfl
theorem run_store_nilf (P : Program) (w : World) (a : Addr) (m : Mode) : (store a .nilFunc m).run P w = stored P w a .nilFunc m := run_store P w a _ m rfl
attribute [local go_sem] run_store_func run_store_nilf
abbrev fnv (k : Nat) : Value := .func (.func k) #[] #[]
/-- the functions of a kind -/
def fn3 (k : Int) : Nat × Nat × Nat := if k = 1 then (42, 43, 41) else if k = 2 then (44, 45, 45) else if k = 3 then (46, 47, 41) else if k = 4 then (48, 49, 41) else (46, 50, 41)
abbrev chv (a b c : Nat) : Value := .agg #[fnv a, fnv b, fnv c]
theorem changeOf_1 (w : World) : Calls Try.prog 28 #[.int .u8 1] w fun e w' => e = .returned (.tuple #[chv 42 43 41, .bool true]) ∧ Below w.heap.size w w' := by
  go_enter Try.func28, Try.ntmps28
  go_wp2
  refine bodyPost_ret (v := .tuple #[chv 42 43 41, .bool true]) (by simp [results, Try.results28, go_sem]) rfl ⟨rfl, ?_⟩
  exact (Below.refl _ w).alloc (Nat.le_refl _) _
theorem changeOf_2 (w : World) : Calls Try.prog 28 #[.int .u8 2] w fun e w' => e = .returned (.tuple #[chv 44 45 45, .bool true]) ∧ Below w.heap.size w w' := by
  go_enter Try.func28, Try.ntmps28
  go_wp2
  refine bodyPost_ret (v := .tuple #[chv 44 45 45, .bool true]) (by simp [results, Try.results28, go_sem]) rfl ⟨rfl, ?_⟩
  exact (Below.refl _ w).alloc (Nat.le_refl _) _
theorem changeOf_3 (w : World) : Calls Try.prog 28 #[.int .u8 3] w fun e w' => e = .returned (.tuple #[chv 46 47 41, .bool true]) ∧ Below w.heap.size w w' := by
  go_enter Try.func28, Try.ntmps28
  go_wp2
  refine bodyPost_ret (v := .tuple #[chv 46 47 41, .bool true]) (by simp [results, Try.results28, go_sem]) rfl ⟨rfl, ?_⟩
  exact (Below.refl _ w).alloc (Nat.le_refl _) _
theorem changeOf_4 (w : World) : Calls Try.prog 28 #[.int .u8 4] w fun e w' => e = .returned (.tuple #[chv 48 49 41, .bool true]) ∧ Below w.heap.size w w' := by
  go_enter Try.func28, Try.ntmps28
  go_wp2
  refine bodyPost_ret (v := .tuple #[chv 48 49 41, .bool true]) (by simp [results, Try.results28, go_sem]) rfl ⟨rfl, ?_⟩
  exact (Below.refl _ w).alloc (Nat.le_refl _) _
theorem changeOf_5 (w : World) : Calls Try.prog 28 #[.int .u8 5] w fun e w' => e = .returned (.tuple #[chv 46 50 41, .bool true]) ∧ Below w.heap.size w w' := by
  go_enter Try.func28, Try.ntmps28
  go_wp2
  refine bodyPost_ret (v := .tuple #[chv 46 50 41, .bool true]) (by simp [results, Try.results28, go_sem]) rfl ⟨rfl, ?_⟩
  exact (Below.refl _ w).alloc (Nat.le_refl _) _
theorem changeOf_no (k : Int) (w : World) (h1 : ¬ k = 1) (h2 : ¬ k = 2) (h3 : ¬ k = 3) (h4 : ¬ k = 4) (h5 : ¬ k = 5) : Calls Try.prog 28 #[.int .u8 k] w fun e w' => e = .returned (.tuple #[.agg #[.nilFunc, .nilFunc, .nilFunc], .bool false]) ∧ Below w.heap.size w w' := by
  go_enter Try.func28, Try.ntmps28
  go_wp2
  refine bodyPost_ret (v := .tuple #[.agg #[.nilFunc, .nilFunc, .nilFunc], .bool false]) (by simp [results, Try.results28, go_sem]) rfl ⟨rfl, ?_⟩
  exact (Below.refl _ w).alloc (Nat.le_refl _) _

theorem nothing_any (x : Value) (k : Int) (n d : ByteArray) (z : Int) (w : World) : Calls Try.prog 41 #[x, .agg #[.int .u8 k, .string n, .string d, .int .i64 z]] w fun e w' => e = .returned (.tuple #[]) ∧ Below w.heap.size w w' := by
  go_enter Try.func41, Try.ntmps41
  go_wp2
  go_end0
  exact ⟨rfl, (Below.refl _ _).alloc (Nat.le_refl _) _⟩
end Go.Proofs.Ytcefhcailhediaa
