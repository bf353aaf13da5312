/- CONF: THE WALKS OVER Millis, Bytes. -/
import Derived.Lib.ParseIntB
import Derived.Test.YtegobomfhdfodaaGreatDoorCg
namespace Go.Proofs.YtegobomfhdfodaaGreatDoor
open Go.RowKit
set_option maxRecDepth 100000
set_option linter.unusedVariables false
set_option linter.unusedSimpArgs false

namespace K
def digits : T := [48, 49, 50, 51, 52, 53, 54, 55, 56, 57]
def mil (u : T) : Nat := if u = [109, 115] then 1 else if u = [115] then 1000 else if u = [109] then 60000 else if u = [104] then 3600000 else 0
def byt (u : T) : Nat := if u = [] then 1 else if u = [66] then 1 else if u = [75, 105, 66] then 1024 else if u = [77, 105, 66] then 1048576 else if u = [71, 105, 66] then 1073741824 else 0
end K
theorem S_ne {a b : K.T} (h : ¬ a = b) : ¬ (⟨a.toArray⟩ : ByteArray) = ⟨b.toArray⟩ := fun e => h (by injection e with e; simpa using e)
theorem mil_any (u : K.T) (w : World) : Calls Tryz.prog 22 #[S u] w fun e w' => e = .returned (.int .u64 (K.mil u : Int)) ∧ w = w' := by
  by_cases h1 : u = [109, 115]
  · subst h1
    go_enter Tryz.func22, Tryz.ntmps22
    go_wp2
    go_ret
    exact ⟨rfl, rfl⟩
  · by_cases h2 : u = [115]
    · subst h2
      go_enter Tryz.func22, Tryz.ntmps22
      go_wp2
      go_ret
      exact ⟨rfl, rfl⟩
    · by_cases h3 : u = [109]
      · subst h3
        go_enter Tryz.func22, Tryz.ntmps22
        go_wp2
        go_ret
        exact ⟨rfl, rfl⟩
      · by_cases h4 : u = [104]
        · subst h4
          go_enter Tryz.func22, Tryz.ntmps22
          go_wp2
          go_ret
          exact ⟨rfl, rfl⟩
        · rw [show K.mil u = 0 from by unfold K.mil; rw [if_neg h1, if_neg h2, if_neg h3, if_neg h4]]
          have e1 : (u == [109, 115]) = false := beq_eq_false_iff_ne.2 h1
          have e2 : (u == [115]) = false := beq_eq_false_iff_ne.2 h2
          have e3 : (u == [109]) = false := beq_eq_false_iff_ne.2 h3
          have e4 : (u == [104]) = false := beq_eq_false_iff_ne.2 h4
          go_enter Tryz.func22, Tryz.ntmps22
          go_wp2
          go_ret
          exact ⟨rfl, rfl⟩
theorem byt_any (u : K.T) (w : World) : Calls Tryz.prog 24 #[S u] w fun e w' => e = .returned (.int .u64 (K.byt u : Int)) ∧ w = w' := by
  by_cases h0 : u = []
  · subst h0
    go_enter Tryz.func24, Tryz.ntmps24
    go_wp2
    go_ret
    exact ⟨rfl, rfl⟩
  · by_cases h1 : u = [66]
    · subst h1
      go_enter Tryz.func24, Tryz.ntmps24
      go_wp2
      go_ret
      exact ⟨rfl, rfl⟩
    · by_cases h2 : u = [75, 105, 66]
      · subst h2
        go_enter Tryz.func24, Tryz.ntmps24
        go_wp2
        go_ret
        exact ⟨rfl, rfl⟩
      · by_cases h3 : u = [77, 105, 66]
        · subst h3
          go_enter Tryz.func24, Tryz.ntmps24
          go_wp2
          go_ret
          exact ⟨rfl, rfl⟩
        · by_cases h4 : u = [71, 105, 66]
          · subst h4
            go_enter Tryz.func24, Tryz.ntmps24
            go_wp2
            go_ret
            exact ⟨rfl, rfl⟩
          · rw [show K.byt u = 0 from by unfold K.byt; rw [if_neg h0, if_neg h1, if_neg h2, if_neg h3, if_neg h4]]
            have e0 : List.isEmpty u = false := by cases u with | nil => exact absurd rfl h0 | cons => rfl
            have e1 : (u == [66]) = false := beq_eq_false_iff_ne.2 h1
            have e2 : (u == [75, 105, 66]) = false := beq_eq_false_iff_ne.2 h2
            have e3 : (u == [77, 105, 66]) = false := beq_eq_false_iff_ne.2 h3
            have e4 : (u == [71, 105, 66]) = false := beq_eq_false_iff_ne.2 h4
            go_enter Tryz.func24, Tryz.ntmps24
            go_wp2
            go_ret
            exact ⟨rfl, rfl⟩
namespace K
def unit (l : T) : T := Lib.trimLeftS l digits
def size (l : T) : Nat := l.length - (unit l).length
/-- a number's digits, read -/
def dec : Nat → T → Nat
  | acc, [] => acc
  | acc, c :: r => dec (acc * 10 + (c.toNat - 48)) r
/-- a number with a unit -/
def meas (f : T → Nat) (l : T) : Nat × Int := if size l < 1 ∨ 9 < size l ∨ f (unit l) = 0 then (0, 15) else (dec 0 (l.take (size l)) * f (unit l), 0)
theorem unit_len (l : T) : (unit l).length ≤ l.length := by
  unfold unit Lib.trimLeftS
  exact (List.dropWhile_suffix _).length_le
theorem take_digits (l : T) : ∀ c ∈ l.take (size l), 48 ≤ c.toNat ∧ c.toNat ≤ 57 := by
  have key : ∀ l : T, l.take (l.length - (l.dropWhile (digits.contains ·)).length) = l.takeWhile (digits.contains ·) := by
    intro l
    have h := List.takeWhile_append_dropWhile (p := (digits.contains ·)) (l := l)
    have hl := congrArg List.length h
    rw [List.length_append] at hl
    have : l.length - (l.dropWhile (digits.contains ·)).length = (l.takeWhile (digits.contains ·)).length := by omega
    rw [this]
    exact (List.prefix_iff_eq_take.1 (List.takeWhile_prefix _)).symm
  intro c hc
  unfold size unit Lib.trimLeftS at hc
  rw [key] at hc
  have hd : digits.contains c = true := List.all_eq_true.1 (List.all_takeWhile (p := (digits.contains ·)) (l := l)) c hc
  have : ∀ x ∈ digits, 48 ≤ x.toNat ∧ x.toNat ≤ 57 := by decide
  exact this c (by simpa using hd)
theorem parse_cons (M acc : Nat) (c : UInt8) (r : T) (h1 : 48 ≤ c.toNat ∧ c.toNat ≤ 57) (h2 : ¬ 1844674407370955162 ≤ acc) (h3 : ¬ M < acc * 10 + (c.toNat - 48)) : Lib.parseUintM M acc (c :: r) = Lib.parseUintM M (acc * 10 + (c.toNat - 48)) r := by
  rw [Lib.parseUintM, if_pos h1, if_neg h2, if_neg h3]
theorem dec_parse (N M : Nat) (hN : N = 1000000000) (hM : N ≤ M) : ∀ (k : Nat) (l : T) (acc : Nat), l.length = k → (∀ c ∈ l, 48 ≤ c.toNat ∧ c.toNat ≤ 57) → (acc + 1) * 10 ^ k ≤ N → Lib.parseUintM M acc l = .ok (dec acc l) ∧ dec acc l < N
  | 0, l, acc, hl, _, hb => by
    obtain rfl := List.length_eq_zero_iff.1 hl
    rw [Nat.pow_zero, Nat.mul_one] at hb
    exact ⟨rfl, by show acc < N; omega⟩
  | k + 1, l, acc, hl, hd, hb => by
    cases l with
    | nil => simp at hl
    | cons c r =>
      obtain ⟨h1, h2⟩ := hd c (by simp)
      have hp : 1 ≤ 10 ^ k := Nat.one_le_pow _ _ (by decide)
      have hb2 : (acc * 10 + (c.toNat - 48) + 1) * 10 ^ k ≤ N := by
        refine Nat.le_trans ?_ hb
        rw [Nat.pow_succ, Nat.mul_comm (10 ^ k) 10, ← Nat.mul_assoc]
        exact Nat.mul_le_mul_right _ (by omega)
      have hacc : acc + 1 ≤ N := Nat.le_trans (Nat.le_mul_of_pos_right _ (Nat.one_le_pow (k + 1) 10 (by decide))) hb
      have ih := dec_parse N M hN hM k r (acc * 10 + (c.toNat - 48)) (by simpa using hl) (fun x hx => hd x (by simp [hx])) hb2
      have hlt : acc * 10 + (c.toNat - 48) + 1 ≤ N := Nat.le_trans (Nat.le_mul_of_pos_right _ hp) hb2
      rw [parse_cons M acc c r ⟨h1, h2⟩ (by omega) (by omega)]
      exact ih
end K
end Go.Proofs.YtegobomfhdfodaaGreatDoor
