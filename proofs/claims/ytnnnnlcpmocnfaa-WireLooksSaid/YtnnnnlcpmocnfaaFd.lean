/- THE WALKS OVER mayBe, key, numSize, Size. -/
import Derived.Test.YtnnnnlcpmocnfaaNum
import Derived.Test.YtnnnnlcpmocnfaaShelf
import Derived.BigQuiet
import Derived.Deep.QuietTactic
namespace Go.Proofs.Ytnnnnlcpmocnfaa
open Go.RowKit

/-- a field's cells -/
abbrev fcells (a b c : Int) (l : List UInt8) : Array Value := #[.int .i64 a, .int .u8 b, .int .u64 c, .string ⟨l.toArray⟩]

theorem ret_bool {a b : Bool} (h : a = b) : Ending.returned (.bool a) = .returned (.bool b) := by rw [h]

theorem may_of {a b c : Int} {l : List UInt8} (h1 : 1 ≤ a) (h2 : a ≤ 536870911) : M.may ⟨a, b.toNat, c.toNat, l⟩ = (if b.toNat = 0 ∨ b.toNat = 1 then l.isEmpty else if b.toNat = 5 then l.isEmpty && decide (c.toNat < 4294967296) else if b.toNat = 2 then decide (c.toNat = 0) && decide (l.length ≤ 65536) else false) := by
  simp [M.may, h1, h2]

set_option maxHeartbeats 1000000 in
theorem mayBe_any (a b c : Int) (l : List UInt8) (w : World) (hb0 : 0 ≤ b) (hb1 : b ≤ 255) (hc0 : 0 ≤ c) (hl : l.length ≤ 9223372036854775807) :
    Calls Try.prog 32 #[.agg (fcells a b c l)] w fun e w' => e = .returned (.bool (M.may ⟨a, b.toNat, c.toNat, l⟩)) ∧ w.alloc (.cells (fcells a b c l) 39) = w' := by
  obtain ⟨r, hr⟩ : ∃ r, M.may ⟨a, b.toNat, c.toNat, l⟩ = r := ⟨_, rfl⟩
  rw [hr]
  have Hr := Lib.hid hr; clear hr
  by_cases h1 : a < 1
  · go_enter Try.func32, Try.ntmps32
    go_wp2
    go_ret
    exact ⟨ret_bool (by rw [← Hr.out]; simp [M.may]; omega), rfl⟩
  · by_cases h2 : 536870911 < a
    · go_enter Try.func32, Try.ntmps32
      go_wp2
      go_ret
      exact ⟨ret_bool (by rw [← Hr.out]; simp [M.may]; omega), rfl⟩
    · have g1 : 1 ≤ a := by omega
      have g2 : a ≤ 536870911 := by omega
      clear h1 h2
      by_cases b0 : b = 0
      · subst b0
        go_enter Try.func32, Try.ntmps32
        go_wp2
        go_ret
        exact ⟨ret_bool (by rw [← Hr.out, may_of g1 g2]; simp), rfl⟩
      · by_cases b1 : b = 1
        · subst b1
          go_enter Try.func32, Try.ntmps32
          go_wp2
          go_ret
          exact ⟨ret_bool (by rw [← Hr.out, may_of g1 g2]; simp), rfl⟩
        · by_cases b5 : b = 5
          · subst b5
            cases l with
            | nil =>
              go_enter Try.func32, Try.ntmps32
              go_wp2
              go_ret
              exact ⟨ret_bool (by rw [← Hr.out, may_of g1 g2]; simp), rfl⟩
            | cons x t =>
              go_enter Try.func32, Try.ntmps32
              go_wp2
              go_ret
              exact ⟨ret_bool (by rw [← Hr.out, may_of g1 g2]; simp), rfl⟩
          · by_cases b2 : b = 2
            · subst b2
              by_cases c0 : c = 0
              · subst c0
                go_enter Try.func32, Try.ntmps32
                go_wp2
                go_ret
                exact ⟨ret_bool (by rw [← Hr.out, may_of g1 g2]; simp; omega), rfl⟩
              · have hc : (c == 0) = false := by simp [c0]
                go_enter Try.func32, Try.ntmps32
                go_wp2
                go_ret
                exact ⟨ret_bool (by rw [← Hr.out, may_of g1 g2]; simp; omega), rfl⟩
            · have e0 : (b == 0) = false := by simp [b0]
              have e1 : (b == 1) = false := by simp [b1]
              have e5 : (b == 5) = false := by simp [b5]
              have e2 : (b == 2) = false := by simp [b2]
              go_enter Try.func32, Try.ntmps32
              go_wp2
              go_ret
              exact ⟨ret_bool (by rw [← Hr.out, may_of g1 g2, if_neg (by omega), if_neg (by omega), if_neg (by omega)]), rfl⟩

theorem bitLen_le (x : Nat) : Lib.bitLen x ≤ 64 := by
  have aux : ∀ f x, Lib.bitLenAux f x ≤ f := by
    intro f
    induction f with
    | zero => intro x; simp [Lib.bitLenAux]
    | succ f ih => intro x; rw [Lib.bitLenAux]; split; omega; have := ih (x / 2); omega
  exact aux 64 x
theorem bitLen_pos (x : Nat) (h : x ≠ 0) (hx : x < 2 ^ 64) : 1 ≤ Lib.bitLen x := by rw [Lib.bitLen_half x h hx]; omega
theorem bitLen_lt (x : Nat) (h : x < 128) : Lib.bitLen x ≤ 7 := by
  have : ∀ n : Fin 128, Lib.bitLen n.val ≤ 7 := by decide +kernel
  exact this ⟨x, h⟩
theorem vnum_bits : ∀ (x : Nat), x < 2 ^ 64 → (M.vnum x).length = max 1 ((Lib.bitLen x + 6) / 7) := by
  intro x
  induction x using Nat.strongRecOn with
  | ind x ih =>
    intro hx
    by_cases h : x < 128
    · rw [M.vnum_lt h]
      have := bitLen_lt x h
      simp only [List.length_cons, List.length_nil]
      omega
    · rw [M.vnum_ge h, List.length_cons, ih (x / 128) (by omega) (by omega), Lib.bitLen_shift 7 x (by omega) hx]
      have := bitLen_pos (x / 128) (by omega) (by omega)
      simp only [Nat.reducePow]
      omega
theorem len64_any (x : Int) (w : World) (h0 : 0 ≤ x) (h1 : x ≤ 18446744073709551615) :
    Calls Try.prog 45 #[.int .u64 x] w fun e w' => e = .returned (.int .i64 (Lib.bitLen x.toNat)) ∧ w = w' := (Try.bits_Len64 x w h0 h1).mono fun _ _ ⟨a, b⟩ => ⟨a, b.symm⟩

theorem numSize_any (m : Int) (w : World) (h0 : 0 ≤ m) (h1 : m ≤ 18446744073709551615) :
    Calls Try.prog 38 #[.int .u64 m] w fun e w' => e = .returned (.int .i64 ((M.vnum m.toNat).length : Int)) ∧ w = w' := by
  obtain ⟨b, hb⟩ : ∃ b : Int, b = (Lib.bitLen m.toNat : Int) := ⟨_, rfl⟩
  have b0 : 0 ≤ b := by omega
  have b1 : b ≤ 64 := by have := bitLen_le m.toNat; omega
  have hv := vnum_bits m.toNat (by omega)
  have hc : ∀ w, Calls Try.prog 45 #[.int .u64 m] w fun e w' => e = .returned (.int .i64 b) ∧ w = w' := fun w => by rw [hb]; exact len64_any m w h0 h1
  obtain ⟨r, hr⟩ : ∃ r : Int, r = ((M.vnum m.toNat).length : Int) := ⟨_, rfl⟩
  have hrb : r = max 1 ((b + 6) / 7) := by rw [hr, hv, hb]; omega
  rw [← hr]
  have Hrb := Lib.hid hrb
  have Hc := Lib.hid hc
  clear hb hv hc hrb hr
  go_enter Try.func38, Try.ntmps38
  go_wp2_with fail
  refine (Hc.out _).mono ?_
  rintro e w' ⟨rfl, rfl⟩
  go_wp2
  all_goals
    go_ret
    exact ⟨ret_int (by rw [Hrb.out]; omega), rfl⟩
end Go.Proofs.Ytnnnnlcpmocnfaa
