/- HTTP: BOXES; THE WALKS OVER small, isLetter, isDigit, inTarget, inValue, alike, isStatus, Unless. -/
import Derived.Test.YtomicdkmbgckkaaGreatDoorGaa
import Derived.Maps.AppendAt
import Derived.Deep.Cut
import Derived.StillTailTactics
namespace Go.Proofs.YtomicdkmbgckkaaGreatDoor
open Go.RowKit
set_option linter.unusedVariables false
set_option linter.unusedSimpArgs false
set_option maxRecDepth 100000

/-- a text as a value -/
abbrev S (l : H.T) : Value := .string ⟨l.toArray⟩
theorem S_inj {a b : H.T} : (⟨a.toArray⟩ : ByteArray) = ⟨b.toArray⟩ ↔ a = b := by
  constructor
  · intro h; injection h with h; simpa using h
  · rintro rfl; rfl
theorem S_data (s : ByteArray) : (⟨s.data.toList.toArray⟩ : ByteArray) = s := by simp
theorem S_size (l : H.T) : (⟨l.toArray⟩ : ByteArray).size = l.length := by simp [ByteArray.size]
theorem index_str (l : H.T) (k : Nat) (h : k < l.length) (c : Int) (hc : c = (l[k].toNat : Int)) (W : World) : (Instr.index 9 (S l) (.int .i64 (k : Int))).run Tryz.prog W = .ok (.int .u8 c) W := by
  rw [run_index_string _ _ _ _ _ Tryz.underlying9, dif_pos ⟨by omega, by simp [ByteArray.size]; omega⟩, hc]
  rfl
theorem blk_new (w : World) (o : Obj) : (w.alloc o).heap[w.heap.size]? = some o := heap_alloc_new w o
theorem blk_alloc {w : World} {g : Nat} {o : Obj} (h : w.heap[g]? = some o) (o' : Obj) : (w.alloc o').heap[g]? = some o := (Below.heap_alloc w o' g (Array.getElem?_eq_some_iff.1 h).1).trans h
theorem blk_lt {w : World} {g : Nat} {o : Obj} (h : w.heap[g]? = some o) : g < w.heap.size := (Array.getElem?_eq_some_iff.1 h).1
theorem blk_under {w w' : World} {g : Nat} {o : Obj} (h : w.heap[g]? = some o) (hb : Below w.heap.size w w') : w'.heap[g]? = some o := (hb.block _ (blk_lt h)).trans h

theorem small_any (w : World) (x : Nat) (hx : x ≤ 1114111) : Calls Tryz.prog 61 #[.int .i32 (x : Int)] w fun e w' => e = .returned (.int .i32 (H.small x : Int)) ∧ w' = w := by
  unfold H.small
  by_cases h1 : 65 ≤ x
  · by_cases h2 : x ≤ 90
    · rw [if_pos ⟨h1, h2⟩]
      have h1' : (65 : Int) ≤ (x : Int) := by omega
      have h2' : (x : Int) ≤ 90 := by omega
      go_enter Tryz.func61, Tryz.ntmps61
      go_wp2
      go_ret
      exact ⟨by show Ending.returned (Value.int .i32 ((x : Int) + 97 - 65)) = _; rw [show (x : Int) + 97 - 65 = ((x + 32 : Nat) : Int) from by omega], rfl⟩
    · rw [if_neg (by omega)]
      have h1' : (65 : Int) ≤ (x : Int) := by omega
      have h2' : ¬ (x : Int) ≤ 90 := by omega
      go_enter Tryz.func61, Tryz.ntmps61
      go_wp2
      go_ret
      exact ⟨rfl, rfl⟩
  · rw [if_neg (by omega)]
    have h1' : ¬ (65 : Int) ≤ (x : Int) := by omega
    go_enter Tryz.func61, Tryz.ntmps61
    go_wp2
    go_ret
    exact ⟨rfl, rfl⟩
theorem small_le (x : Nat) (hx : x ≤ 1114111) : H.small x ≤ 1114111 := by unfold H.small; split <;> omega
theorem letter_any (w : World) (x : Nat) (hx : x ≤ 1114111) : Calls Tryz.prog 55 #[.int .i32 (x : Int)] w fun e w' => e = .returned (.bool (H.letter x)) ∧ w' = w := by
  have hs := small_any w x hx
  have hl := small_le x hx
  unfold H.letter
  obtain ⟨y, hy⟩ : ∃ y, H.small x = y := ⟨_, rfl⟩
  rw [hy] at hs hl ⊢
  clear hy
  by_cases h1 : 97 ≤ y
  · have h1' : (97 : Int) ≤ (y : Int) := by omega
    by_cases h2 : y ≤ 122
    · have h2' : (y : Int) ≤ 122 := by omega
      go_enter Tryz.func55, Tryz.ntmps55
      go_wp2_with (refine hs.mono ?_; rintro e w' ⟨rfl, rfl⟩)
      go_ret
      exact ⟨by simp [h1, h2] <;> omega, rfl⟩
    · have h2' : ¬ (y : Int) ≤ 122 := by omega
      go_enter Tryz.func55, Tryz.ntmps55
      go_wp2_with (refine hs.mono ?_; rintro e w' ⟨rfl, rfl⟩)
      go_ret
      exact ⟨by simp [h1, h2] <;> omega, rfl⟩
  · have h1' : ¬ (97 : Int) ≤ (y : Int) := by omega
    go_enter Tryz.func55, Tryz.ntmps55
    go_wp2_with (refine hs.mono ?_; rintro e w' ⟨rfl, rfl⟩)
    go_ret
    exact ⟨by simp [h1] <;> omega, rfl⟩
theorem digit_any (w : World) (x : Nat) (hx : x ≤ 1114111) : Calls Tryz.prog 56 #[.int .i32 (x : Int)] w fun e w' => e = .returned (.bool (H.digit x)) ∧ w' = w := by
  unfold H.digit
  by_cases h1 : 48 ≤ x
  · have h1' : (48 : Int) ≤ (x : Int) := by omega
    by_cases h2 : x ≤ 57
    · have h2' : (x : Int) ≤ 57 := by omega
      go_enter Tryz.func56, Tryz.ntmps56
      go_wp2
      go_ret
      exact ⟨by simp [h1, h2] <;> omega, rfl⟩
    · have h2' : ¬ (x : Int) ≤ 57 := by omega
      go_enter Tryz.func56, Tryz.ntmps56
      go_wp2
      go_ret
      exact ⟨by simp [h1, h2] <;> omega, rfl⟩
  · have h1' : ¬ (48 : Int) ≤ (x : Int) := by omega
    go_enter Tryz.func56, Tryz.ntmps56
    go_wp2
    go_ret
    exact ⟨by simp [h1] <;> omega, rfl⟩
theorem tgt_any (w : World) (x : Nat) (hx : x ≤ 1114111) : Calls Tryz.prog 34 #[.int .i32 (x : Int)] w fun e w' => e = .returned (.bool (H.tgt x)) ∧ w' = w := by
  unfold H.tgt
  by_cases h1 : 33 ≤ x
  · have h1' : (33 : Int) ≤ (x : Int) := by omega
    by_cases h2 : x ≤ 126
    · have h2' : (x : Int) ≤ 126 := by omega
      go_enter Tryz.func34, Tryz.ntmps34
      go_wp2
      go_ret
      exact ⟨by simp [h1, h2] <;> omega, rfl⟩
    · have h2' : ¬ (x : Int) ≤ 126 := by omega
      go_enter Tryz.func34, Tryz.ntmps34
      go_wp2
      go_ret
      exact ⟨by simp [h1, h2] <;> omega, rfl⟩
  · have h1' : ¬ (33 : Int) ≤ (x : Int) := by omega
    go_enter Tryz.func34, Tryz.ntmps34
    go_wp2
    go_ret
    exact ⟨by simp [h1] <;> omega, rfl⟩
theorem val_any (w : World) (x : Nat) (hx : x ≤ 1114111) : Calls Tryz.prog 86 #[.int .i32 (x : Int)] w fun e w' => e = .returned (.bool (H.val x)) ∧ w' = w := by
  by_cases h0 : x = 9
  · subst h0
    go_enter Tryz.func86, Tryz.ntmps86
    go_wp2
    go_ret
    exact ⟨rfl, rfl⟩
  · have h0' : ¬ (x : Int) = 9 := by omega
    by_cases h1 : 32 ≤ x
    · have h1' : (32 : Int) ≤ (x : Int) := by omega
      by_cases h2 : x = 127
      · subst h2
        go_enter Tryz.func86, Tryz.ntmps86
        go_wp2
        go_ret
        exact ⟨rfl, rfl⟩
      · have h2' : ¬ (x : Int) = 127 := by omega
        go_enter Tryz.func86, Tryz.ntmps86
        go_wp2
        go_ret
        exact ⟨by simp [H.val, h0, h1, h2] <;> omega, rfl⟩
    · have h1' : ¬ (32 : Int) ≤ (x : Int) := by omega
      go_enter Tryz.func86, Tryz.ntmps86
      go_wp2
      go_ret
      exact ⟨by simp [H.val, h0, h1] <;> omega, rfl⟩
/-- a panic with an error's number -/
abbrev pan (c : Int) : Ending := .panicked [{ v := .iface 28 (.int .i64 c), recovered := false }]
theorem unless_yes (w : World) (c : Int) : Calls Tryz.prog 29 #[.bool true, .int .i64 c] w fun e w' => e = .returned (.tuple #[]) ∧ w' = w := by
  go_enter Tryz.func29, Tryz.ntmps29
  go_wp2
  go_end0
  exact ⟨rfl, rfl⟩
theorem unless_no (w : World) (c : Int) : Calls Tryz.prog 29 #[.bool false, .int .i64 c] w fun e w' => e = pan c ∧ w' = w := by
  go_enter Tryz.func29, Tryz.ntmps29
  go_wp2
  exact ⟨rfl, rfl, rfl⟩
theorem status_any (w : World) (n : Int) : Calls Tryz.prog 44 #[.int .i64 n] w fun e w' => e = .returned (.bool (decide (100 ≤ n) && decide (n ≤ 599))) ∧ w' = w := by
  by_cases h1 : 100 ≤ n
  · by_cases h2 : n ≤ 599
    · go_enter Tryz.func44, Tryz.ntmps44
      go_wp2
      go_ret
      exact ⟨by simp [h1, h2] <;> omega, rfl⟩
    · go_enter Tryz.func44, Tryz.ntmps44
      go_wp2
      go_ret
      exact ⟨by simp [h1, h2] <;> omega, rfl⟩
  · go_enter Tryz.func44, Tryz.ntmps44
    go_wp2
    go_ret
    exact ⟨by simp [h1] <;> omega, rfl⟩
end Go.Proofs.YtomicdkmbgckkaaGreatDoor
