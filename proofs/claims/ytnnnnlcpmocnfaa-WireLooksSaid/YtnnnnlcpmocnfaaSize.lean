/- THE WALKS OVER key, Size. -/
import Derived.Test.YtnnnnlcpmocnfaaFd
namespace Go.Proofs.Ytnnnnlcpmocnfaa
open Go.RowKit

theorem key_any (a b c : Int) (l : List UInt8) (w : World) (h1 : 1 ≤ a) (h2 : a ≤ 536870911) (hb0 : 0 ≤ b) (hb1 : b ≤ 255) :
    Calls Try.prog 39 #[.agg (fcells a b c l)] w fun e w' => e = .returned (.int .u64 (8 * a + b)) ∧ w.alloc (.cells (fcells a b c l) 39) = w' := by
  go_enter Try.func39, Try.ntmps39
  go_wp2
  go_ret
  exact ⟨rfl, rfl⟩

theorem may_cases {a b c : Int} {l : List UInt8} (hb0 : 0 ≤ b) (hc0 : 0 ≤ c) (h : M.may ⟨a, b.toNat, c.toNat, l⟩ = true) :
    1 ≤ a ∧ a ≤ 536870911 ∧ ((b = 0 ∧ l = []) ∨ (b = 1 ∧ l = []) ∨ (b = 5 ∧ l = [] ∧ c < 4294967296) ∨ (b = 2 ∧ c = 0 ∧ l.length ≤ 65536)) := by
  simp only [M.may, Bool.and_eq_true, decide_eq_true_eq] at h
  obtain ⟨⟨h1, h2⟩, h3⟩ := h
  refine ⟨h1, h2, ?_⟩
  by_cases e01 : b.toNat = 0 ∨ b.toNat = 1
  · rw [if_pos e01] at h3
    have : l = [] := by simpa using h3
    rcases e01 with e | e
    · exact .inl ⟨by omega, this⟩
    · exact .inr (.inl ⟨by omega, this⟩)
  · rw [if_neg e01] at h3
    by_cases e5 : b.toNat = 5
    · rw [if_pos e5] at h3
      simp only [Bool.and_eq_true, decide_eq_true_eq, List.isEmpty_iff] at h3
      exact .inr (.inr (.inl ⟨by omega, h3.1, by omega⟩))
    · rw [if_neg e5] at h3
      by_cases e2 : b.toNat = 2
      · rw [if_pos e2] at h3
        simp only [Bool.and_eq_true, decide_eq_true_eq] at h3
        exact .inr (.inr (.inr ⟨by omega, by omega, h3.2⟩))
      · rw [if_neg e2] at h3; cases h3

theorem numSize_quiet (m : Int) (w : World) (h0 : 0 ≤ m) (h1 : m ≤ 18446744073709551615) :
    Calls Try.prog 38 #[.int .u64 m] w fun e w' => e = .returned (.int .i64 ((M.vnum m.toNat).length : Int)) ∧ w' = w := (numSize_any m w h0 h1).mono fun _ _ ⟨a, b⟩ => ⟨a, b.symm⟩

set_option maxHeartbeats 1000000 in
theorem size_no (a b c : Int) (l : List UInt8) (w : World) (hb0 : 0 ≤ b) (hb1 : b ≤ 255) (hc0 : 0 ≤ c) (hl : l.length ≤ 9223372036854775807) (hm : M.may ⟨a, b.toNat, c.toNat, l⟩ = false) :
    Calls Try.prog 25 #[.agg (fcells a b c l)] w fun e w' => e = .returned (.int .i64 0) ∧ Below w.heap.size w w' := by
  have hc : ∀ w, Calls Try.prog 32 #[.agg (fcells a b c l)] w fun e w' => e = .returned (.bool false) ∧ w.alloc (.cells (fcells a b c l) 39) = w' := fun w => by rw [← hm]; exact mayBe_any a b c l w hb0 hb1 hc0 hl
  have Hc := Lib.hid hc
  clear hc hm
  go_enter Try.func25, Try.ntmps25
  go_wp2_with fail
  refine (Hc.out _).mono ?_
  rintro e w' ⟨rfl, rfl⟩
  go_wp2
  go_ret
  exact ⟨rfl, ((Below.refl _ _).alloc (Nat.le_refl _) _).alloc (by simp) _⟩

set_option maxHeartbeats 2000000 in
theorem size_yes (a b c : Int) (l : List UInt8) (w : World) (hb0 : 0 ≤ b) (hb1 : b ≤ 255) (hc0 : 0 ≤ c) (hc1 : c ≤ 18446744073709551615) (hl : l.length ≤ 9223372036854775807) (hm : M.may ⟨a, b.toNat, c.toNat, l⟩ = true) :
    Calls Try.prog 25 #[.agg (fcells a b c l)] w fun e w' => e = .returned (.int .i64 ((M.enc1 ⟨a, b.toNat, c.toNat, l⟩).length : Int)) ∧ Below w.heap.size w w' := by
  have hc : ∀ w, Calls Try.prog 32 #[.agg (fcells a b c l)] w fun e w' => e = .returned (.bool true) ∧ w.alloc (.cells (fcells a b c l) 39) = w' := fun w => by rw [← hm]; exact mayBe_any a b c l w hb0 hb1 hc0 hl
  have Hc := Lib.hid hc
  clear hc
  obtain ⟨h1, h2, hcase⟩ := may_cases hb0 hc0 hm
  clear hm
  obtain ⟨r, hr⟩ : ∃ r : Int, r = ((M.enc1 ⟨a, b.toNat, c.toNat, l⟩).length : Int) := ⟨_, rfl⟩
  rw [← hr]
  have hr2 : r = (M.vnum (8 * a + b).toNat).length + (M.body ⟨a, b.toNat, c.toNat, l⟩).length := by
    rw [hr, M.enc1, List.length_append, M.key]
    simp only [Int.natCast_add]
    congr 4
    omega
  have Hr := Lib.hid hr2
  clear hr hr2
  obtain ⟨k, hk⟩ : ∃ k : Nat, k = (M.vnum (8 * a + b).toNat).length := ⟨_, rfl⟩
  have hkn : ∀ w, Calls Try.prog 38 #[.int .u64 (8 * a + b)] w fun e w' => e = .returned (.int .i64 (k : Int)) ∧ w = w' := fun w => by rw [hk]; exact numSize_any _ w (by omega) (by omega)
  have hk10 : k ≤ 10 := by rw [hk]; exact M.vnum_len10 _ (by omega)
  have Hkn := Lib.hid hkn
  have Hk := Lib.hid hk
  clear hkn hk
  rcases hcase with ⟨rfl, rfl⟩ | ⟨rfl, rfl⟩ | ⟨rfl, rfl, hcl⟩ | ⟨rfl, rfl, hll⟩
  · have g10 : (M.vnum c.toNat).length ≤ 10 := M.vnum_len10 _ (by omega)
    obtain ⟨g, hg⟩ : ∃ g : Nat, g = (M.vnum c.toNat).length := ⟨_, rfl⟩
    rw [← hg] at g10
    have hgn : ∀ w, Calls Try.prog 38 #[.int .u64 c] w fun e w' => e = .returned (.int .i64 (g : Int)) ∧ w = w' := fun w => by rw [hg]; exact numSize_any _ w (by omega) (by omega)
    have Hgn := Lib.hid hgn
    have Hg := Lib.hid hg
    clear hgn hg
    have hk0 := Hkn.out
    simp only [Int.add_zero] at hk0
    have Hk0 := Lib.hid hk0
    clear hk0
    go_enter Try.func25, Try.ntmps25
    go_wp2_with fail
    refine (Hc.out _).mono ?_
    rintro e w' ⟨rfl, rfl⟩
    go_wp2_with fail
    refine (key_any _ _ _ _ _ h1 h2 hb0 hb1).mono ?_
    rintro e w' ⟨rfl, rfl⟩
    go_wp2_with fail
    refine (Hk0.out _).mono ?_
    rintro e w' ⟨rfl, rfl⟩
    go_wp2_with fail
    refine (Hgn.out _).mono ?_
    rintro e w' ⟨rfl, rfl⟩
    go_wp2
    go_ret
    refine ⟨ret_int ?_, (((Below.refl _ _).alloc (Nat.le_refl _) _).alloc (by simp) _).alloc (by simp; omega) _⟩
    rw [Hr.out, ← Hk.out]
    simp [M.body, Hg.out]
  · go_enter Try.func25, Try.ntmps25
    go_wp2_with fail
    refine (Hc.out _).mono ?_
    rintro e w' ⟨rfl, rfl⟩
    go_wp2_with fail
    refine (key_any _ _ _ _ _ h1 h2 hb0 hb1).mono ?_
    rintro e w' ⟨rfl, rfl⟩
    go_wp2_with fail
    refine (Hkn.out _).mono ?_
    rintro e w' ⟨rfl, rfl⟩
    go_wp2
    go_ret
    refine ⟨ret_int ?_, (((Below.refl _ _).alloc (Nat.le_refl _) _).alloc (by simp) _).alloc (by simp; omega) _⟩
    rw [Hr.out, ← Hk.out]
    simp [M.body, M.le_len]
  · go_enter Try.func25, Try.ntmps25
    go_wp2_with fail
    refine (Hc.out _).mono ?_
    rintro e w' ⟨rfl, rfl⟩
    go_wp2_with fail
    refine (key_any _ _ _ _ _ h1 h2 hb0 hb1).mono ?_
    rintro e w' ⟨rfl, rfl⟩
    go_wp2_with fail
    refine (Hkn.out _).mono ?_
    rintro e w' ⟨rfl, rfl⟩
    go_wp2
    go_ret
    refine ⟨ret_int ?_, (((Below.refl _ _).alloc (Nat.le_refl _) _).alloc (by simp) _).alloc (by simp; omega) _⟩
    rw [Hr.out, ← Hk.out]
    simp [M.body, M.le_len]
  · have g10 : (M.vnum l.length).length ≤ 10 := M.vnum_len10 _ (by omega)
    obtain ⟨g, hg⟩ : ∃ g : Nat, g = (M.vnum l.length).length := ⟨_, rfl⟩
    rw [← hg] at g10
    have hgn : ∀ w, Calls Try.prog 38 #[.int .u64 (l.length : Int)] w fun e w' => e = .returned (.int .i64 (g : Int)) ∧ w' = w := fun w => by rw [hg]; exact (numSize_quiet _ w (by omega) (by omega))
    have Hgn := Lib.hid hgn
    have Hg := Lib.hid hg
    clear hgn hg
    go_enter Try.func25, Try.ntmps25
    go_wp2_with fail
    refine (Hc.out _).mono ?_
    rintro e w' ⟨rfl, rfl⟩
    go_wp2_with fail
    refine (key_any _ _ _ _ _ h1 h2 hb0 hb1).mono ?_
    rintro e w' ⟨rfl, rfl⟩
    go_wp2_with fail
    refine (Hkn.out _).mono ?_
    rintro e w' ⟨rfl, rfl⟩
    go_wp2
    go_quiet ((go_at_call 38; exact Calls.quiet_of_same (Hgn.out _)))
    go_wp2
    go_ret
    refine ⟨ret_int ?_, Below.trans ((((Below.refl _ _).alloc (Nat.le_refl _) _).alloc (by simp) _).alloc (by simp; omega) _) ⟨rfl, rfl, rfl, Nat.le_refl _, fun _ _ => rfl⟩⟩
    rw [Hr.out, ← Hk.out]
    simp [M.body, Hg.out]
end Go.Proofs.Ytnnnnlcpmocnfaa
