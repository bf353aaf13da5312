/- CONF: THE WALKS OVER measure, Millis, Bytes. -/
import Derived.Shelf.Strings.SlTrimAscii
import Derived.Test.YtegobomfhdfodaaGreatDoorCsp
import Derived.Test.YtegobomfhdfodaaGreatDoorCh
namespace Go.Proofs.YtegobomfhdfodaaGreatDoor
open Go.RowKit
set_option maxRecDepth 100000
set_option linter.unusedVariables false
set_option linter.unusedSimpArgs false

theorem below_bytes (w : World) (s : ByteArray) : Below w.heap.size w (Lib.bytesWorld w 5 s) := Lib.bytesWorld_below w 5 s
theorem trd_any (l : K.T) (w : World) : Calls Tryz.prog 37 #[S l, .string ⟨#[48, 49, 50, 51, 52, 53, 54, 55, 56, 57]⟩] w fun e w' => e = .returned (S (K.unit l)) ∧ Below w.heap.size w w' :=
  Any.strings_TrimLeft_laid Tryz.lays161 (by kernel_rfl) ⟨l.toArray⟩ ⟨#[48, 49, 50, 51, 52, 53, 54, 55, 56, 57]⟩ w (by decide) (ascii_of_all (by decide))
theorem pu_any (l : K.T) (hl : l.length ≤ 140737488355328) (h1 : 1 ≤ K.size l) (h9 : K.size l ≤ 9) (w : World) : Calls Tryz.prog 38 #[S (l.take (K.size l)), .int .i64 10, .int .i64 64] w fun e w' => e = .returned (.tuple #[.int .u64 (K.dec 0 (l.take (K.size l)) : Int), .nilIface]) ∧ Below w.heap.size w w' := by
  have hlen : (l.take (K.size l)).length = K.size l := by rw [List.length_take]; have : K.size l ≤ l.length := by unfold K.size; omega
                                                          omega
  have hp : (10 : Nat) ^ K.size l ≤ 10 ^ 9 := Nat.pow_le_pow_right (by decide) h9
  have hd := (K.dec_parse 1000000000 18446744073709551615 rfl (by decide) (K.size l) _ 0 hlen (K.take_digits l) (by rw [Nat.zero_add, Nat.one_mul]; exact hp)).1
  have hne : l.take (K.size l) ≠ [] := fun e => by rw [e] at hlen; simp at hlen; omega
  refine (Tryz.strconv_ParseUint_10_at64_ok ⟨(l.take (K.size l)).toArray⟩ (by rw [S_size, hlen]; omega) _ (by show Lib.parseUintB 64 (l.take (K.size l)) = _; unfold Lib.parseUintB; rw [if_neg hne]; exact hd) w).mono fun e w' h => ⟨h.1, ?_⟩
  rcases h.2 with rfl | rfl
  · exact Below.refl _ _
  · exact below_bytes w _
theorem K.mil_le (u : K.T) : K.mil u ≤ 1073741824 := by unfold K.mil; (repeat' split) <;> decide
theorem K.byt_le (u : K.T) : K.byt u ≤ 1073741824 := by unfold K.byt; (repeat' split) <;> decide
theorem meas_mil (l : K.T) (hl : l.length ≤ 140737488355328) (w : World) : Calls Tryz.prog 21 #[S l, .func (.func 22) #[] #[]] w fun e w' => e = .returned (.tuple #[.int .u64 ((K.meas K.mil l).1 : Int), .int .i64 (K.meas K.mil l).2]) ∧ Below w.heap.size w w' := by
  have htr := trd_any l w
  have hul := K.unit_len l
  have hms : K.meas K.mil l = if K.size l < 1 ∨ 9 < K.size l ∨ K.mil (K.unit l) = 0 then (0, 15) else (K.dec 0 (l.take (K.size l)) * K.mil (K.unit l), 0) := rfl
  have hsz : (l.length : Int) - ((K.unit l).length : Int) = (K.size l : Int) := by unfold K.size; omega
  have hszl : K.size l ≤ l.length := by unfold K.size; omega
  have hpu := fun h1 h9 w => pu_any l hl h1 h9 w
  have hd9 : 1 ≤ K.size l → K.size l ≤ 9 → K.dec 0 (l.take (K.size l)) < 1000000000 := fun h1 h9 => by
    have hlen : (l.take (K.size l)).length = K.size l := by rw [List.length_take]; omega
    have hp : (10 : Nat) ^ K.size l ≤ 10 ^ 9 := Nat.pow_le_pow_right (by decide) h9
    exact (K.dec_parse 1000000000 18446744073709551615 rfl (by decide) (K.size l) _ 0 hlen (K.take_digits l) (by rw [Nat.zero_add, Nat.one_mul]; exact hp)).2
  have hsl : ∀ W, (Instr.slice 9 (S l) none (some (.int .i64 (K.size l : Int))) none).run Tryz.prog W = .ok (S (l.take (K.size l))) W := slice_to l .i64 (K.size l) hszl
  obtain ⟨u, hu⟩ : ∃ u, K.unit l = u := ⟨_, rfl⟩
  rw [hu] at htr hms hsz hul
  obtain ⟨z, hz⟩ : ∃ z, K.size l = z := ⟨_, rfl⟩
  rw [hz] at hms hsz hsl hd9 hszl
  have hcl := fun w => mil_any u w
  have hfu := K.mil_le u
  obtain ⟨f, hf⟩ : ∃ f, K.mil u = f := ⟨_, rfl⟩
  rw [hf] at hms hfu
  simp only [hf] at hcl
  rw [hz] at hpu
  obtain ⟨d, hd⟩ : ∃ d, K.dec 0 (l.take z) = d := ⟨_, rfl⟩
  rw [hd] at hms hd9
  simp only [hd] at hpu
  obtain ⟨R, hR⟩ : ∃ R, K.meas K.mil l = R := ⟨_, rfl⟩
  rw [hR]
  rw [hR] at hms
  have HR := Lib.hid hms
  clear hms hR hd hf hz hu
  have hsl' : ∀ W, (Instr.slice 9 (S l) none (some (.int .i64 ((l.length : Int) - (u.length : Int)))) none).run Tryz.prog W = .ok (S (l.take z)) W := by rw [hsz]; exact hsl
  have HS := Lib.hid hsz
  clear hsl
  by_cases h1 : z < 1
  · have h1' : (l.length : Int) - (u.length : Int) < 1 := by rw [HS.out]; omega
    clear hsz
    have hR' := HR.out
    rw [if_pos (.inl h1)] at hR'
    subst hR'
    go_enter Tryz.func21, Tryz.ntmps21
    go_wp2_with (first | (go_at_call 37; refine htr.mono ?_; rintro e w1 ⟨rfl, hb⟩) | (refine (hcl _).mono ?_; rintro e w2 ⟨rfl, rfl⟩))
    go_ret2
    exact ⟨rfl, hb⟩
  · by_cases h9 : 9 < z
    · have h1' : ¬ (l.length : Int) - (u.length : Int) < 1 := by rw [HS.out]; omega
      have h9' : 9 < (l.length : Int) - (u.length : Int) := by rw [HS.out]; omega
      clear hsz
      have hR' := HR.out
      rw [if_pos (.inr (.inl h9))] at hR'
      subst hR'
      go_enter Tryz.func21, Tryz.ntmps21
      go_wp2_with (first | (go_at_call 37; refine htr.mono ?_; rintro e w1 ⟨rfl, hb⟩) | (refine (hcl _).mono ?_; rintro e w2 ⟨rfl, rfl⟩))
      go_ret2
      exact ⟨rfl, hb⟩
    · have h1' : ¬ (l.length : Int) - (u.length : Int) < 1 := by rw [HS.out]; omega
      have h9' : ¬ 9 < (l.length : Int) - (u.length : Int) := by rw [HS.out]; omega
      clear hsz
      by_cases hf0 : f = 0
      · subst hf0
        have hR' := HR.out
        rw [if_pos (.inr (.inr rfl))] at hR'
        subst hR'
        go_enter Tryz.func21, Tryz.ntmps21
        go_wp2_with (first | (go_at_call 37; refine htr.mono ?_; rintro e w1 ⟨rfl, hb⟩) | (refine (hcl _).mono ?_; rintro e w2 ⟨rfl, rfl⟩))
        go_ret2
        exact ⟨rfl, hb⟩
      · have hf' : ((f : Int) == 0) = false := beq_eq_false_iff_ne.2 (by omega)
        have hR' := HR.out
        rw [if_neg (by omega)] at hR'
        have hdz := hd9 (by omega) (by omega)
        have hp := fun w => hpu (by omega) (by omega) w
        have hmul : d * f < 18446744073709551616 := Nat.lt_of_le_of_lt (Nat.mul_le_mul (Nat.le_of_lt hdz) hfu) (by decide)
        have hw : IntKind.u64.wrap ((d : Int) * (f : Int)) = ((d * f : Nat) : Int) := by rw [IntKind.wrap_u64, ← Int.natCast_mul]; omega
        have HD := Lib.hid (And.intro hmul hdz)
        subst hR'
        clear hmul hdz hd9 hpu hfu
        go_enter Tryz.func21, Tryz.ntmps21
        go_wp2_with (first | (go_at_call 37; refine htr.mono ?_; rintro e w1 ⟨rfl, hb⟩) | (go_at_call 38; refine (hp _).mono ?_; rintro e w3 ⟨rfl, hb3⟩) | (refine (hcl _).mono ?_; rintro e w2 ⟨rfl, rfl⟩))
        go_ret2
        exact ⟨by first | rfl | simp [hw], hb.trans (hb3.mono hb.size)⟩
theorem meas_byt (l : K.T) (hl : l.length ≤ 140737488355328) (w : World) : Calls Tryz.prog 21 #[S l, .func (.func 24) #[] #[]] w fun e w' => e = .returned (.tuple #[.int .u64 ((K.meas K.byt l).1 : Int), .int .i64 (K.meas K.byt l).2]) ∧ Below w.heap.size w w' := by
  have htr := trd_any l w
  have hul := K.unit_len l
  have hms : K.meas K.byt l = if K.size l < 1 ∨ 9 < K.size l ∨ K.byt (K.unit l) = 0 then (0, 15) else (K.dec 0 (l.take (K.size l)) * K.byt (K.unit l), 0) := rfl
  have hsz : (l.length : Int) - ((K.unit l).length : Int) = (K.size l : Int) := by unfold K.size; omega
  have hszl : K.size l ≤ l.length := by unfold K.size; omega
  have hpu := fun h1 h9 w => pu_any l hl h1 h9 w
  have hd9 : 1 ≤ K.size l → K.size l ≤ 9 → K.dec 0 (l.take (K.size l)) < 1000000000 := fun h1 h9 => by
    have hlen : (l.take (K.size l)).length = K.size l := by rw [List.length_take]; omega
    have hp : (10 : Nat) ^ K.size l ≤ 10 ^ 9 := Nat.pow_le_pow_right (by decide) h9
    exact (K.dec_parse 1000000000 18446744073709551615 rfl (by decide) (K.size l) _ 0 hlen (K.take_digits l) (by rw [Nat.zero_add, Nat.one_mul]; exact hp)).2
  have hsl : ∀ W, (Instr.slice 9 (S l) none (some (.int .i64 (K.size l : Int))) none).run Tryz.prog W = .ok (S (l.take (K.size l))) W := slice_to l .i64 (K.size l) hszl
  obtain ⟨u, hu⟩ : ∃ u, K.unit l = u := ⟨_, rfl⟩
  rw [hu] at htr hms hsz hul
  obtain ⟨z, hz⟩ : ∃ z, K.size l = z := ⟨_, rfl⟩
  rw [hz] at hms hsz hsl hd9 hszl
  have hcl := fun w => byt_any u w
  have hfu := K.byt_le u
  obtain ⟨f, hf⟩ : ∃ f, K.byt u = f := ⟨_, rfl⟩
  rw [hf] at hms hfu
  simp only [hf] at hcl
  rw [hz] at hpu
  obtain ⟨d, hd⟩ : ∃ d, K.dec 0 (l.take z) = d := ⟨_, rfl⟩
  rw [hd] at hms hd9
  simp only [hd] at hpu
  obtain ⟨R, hR⟩ : ∃ R, K.meas K.byt l = R := ⟨_, rfl⟩
  rw [hR]
  rw [hR] at hms
  have HR := Lib.hid hms
  clear hms hR hd hf hz hu
  have hsl' : ∀ W, (Instr.slice 9 (S l) none (some (.int .i64 ((l.length : Int) - (u.length : Int)))) none).run Tryz.prog W = .ok (S (l.take z)) W := by rw [hsz]; exact hsl
  have HS := Lib.hid hsz
  clear hsl
  by_cases h1 : z < 1
  · have h1' : (l.length : Int) - (u.length : Int) < 1 := by rw [HS.out]; omega
    clear hsz
    have hR' := HR.out
    rw [if_pos (.inl h1)] at hR'
    subst hR'
    go_enter Tryz.func21, Tryz.ntmps21
    go_wp2_with (first | (go_at_call 37; refine htr.mono ?_; rintro e w1 ⟨rfl, hb⟩) | (refine (hcl _).mono ?_; rintro e w2 ⟨rfl, rfl⟩))
    go_ret2
    exact ⟨rfl, hb⟩
  · by_cases h9 : 9 < z
    · have h1' : ¬ (l.length : Int) - (u.length : Int) < 1 := by rw [HS.out]; omega
      have h9' : 9 < (l.length : Int) - (u.length : Int) := by rw [HS.out]; omega
      clear hsz
      have hR' := HR.out
      rw [if_pos (.inr (.inl h9))] at hR'
      subst hR'
      go_enter Tryz.func21, Tryz.ntmps21
      go_wp2_with (first | (go_at_call 37; refine htr.mono ?_; rintro e w1 ⟨rfl, hb⟩) | (refine (hcl _).mono ?_; rintro e w2 ⟨rfl, rfl⟩))
      go_ret2
      exact ⟨rfl, hb⟩
    · have h1' : ¬ (l.length : Int) - (u.length : Int) < 1 := by rw [HS.out]; omega
      have h9' : ¬ 9 < (l.length : Int) - (u.length : Int) := by rw [HS.out]; omega
      clear hsz
      by_cases hf0 : f = 0
      · subst hf0
        have hR' := HR.out
        rw [if_pos (.inr (.inr rfl))] at hR'
        subst hR'
        go_enter Tryz.func21, Tryz.ntmps21
        go_wp2_with (first | (go_at_call 37; refine htr.mono ?_; rintro e w1 ⟨rfl, hb⟩) | (refine (hcl _).mono ?_; rintro e w2 ⟨rfl, rfl⟩))
        go_ret2
        exact ⟨rfl, hb⟩
      · have hf' : ((f : Int) == 0) = false := beq_eq_false_iff_ne.2 (by omega)
        have hR' := HR.out
        rw [if_neg (by omega)] at hR'
        have hdz := hd9 (by omega) (by omega)
        have hp := fun w => hpu (by omega) (by omega) w
        have hmul : d * f < 18446744073709551616 := Nat.lt_of_le_of_lt (Nat.mul_le_mul (Nat.le_of_lt hdz) hfu) (by decide)
        have hw : IntKind.u64.wrap ((d : Int) * (f : Int)) = ((d * f : Nat) : Int) := by rw [IntKind.wrap_u64, ← Int.natCast_mul]; omega
        have HD := Lib.hid (And.intro hmul hdz)
        subst hR'
        clear hmul hdz hd9 hpu hfu
        go_enter Tryz.func21, Tryz.ntmps21
        go_wp2_with (first | (go_at_call 37; refine htr.mono ?_; rintro e w1 ⟨rfl, hb⟩) | (go_at_call 38; refine (hp _).mono ?_; rintro e w3 ⟨rfl, hb3⟩) | (refine (hcl _).mono ?_; rintro e w2 ⟨rfl, rfl⟩))
        go_ret2
        exact ⟨by first | rfl | simp [hw], hb.trans (hb3.mono hb.size)⟩
theorem millis_any (l : K.T) (hl : l.length ≤ 140737488355328) (w : World) : Calls Tryz.prog 10 #[S l] w fun e w' => e = .returned (.tuple #[.int .u64 ((K.meas K.mil l).1 : Int), .int .i64 (K.meas K.mil l).2]) ∧ Below w.heap.size w w' := by
  have h := meas_mil l hl w
  obtain ⟨R, hR⟩ : ∃ R, K.meas K.mil l = R := ⟨_, rfl⟩
  rw [hR] at h ⊢
  clear hR
  obtain ⟨a, b⟩ := R
  simp only at h ⊢
  go_enter Tryz.func10, Tryz.ntmps10
  go_wp2_with (refine h.mono ?_; rintro e w1 ⟨rfl, hb⟩)
  go_ret2
  exact ⟨rfl, hb⟩
theorem bytes_any (l : K.T) (hl : l.length ≤ 140737488355328) (w : World) : Calls Tryz.prog 12 #[S l] w fun e w' => e = .returned (.tuple #[.int .u64 ((K.meas K.byt l).1 : Int), .int .i64 (K.meas K.byt l).2]) ∧ Below w.heap.size w w' := by
  have h := meas_byt l hl w
  obtain ⟨R, hR⟩ : ∃ R, K.meas K.byt l = R := ⟨_, rfl⟩
  rw [hR] at h ⊢
  clear hR
  obtain ⟨a, b⟩ := R
  simp only at h ⊢
  go_enter Tryz.func12, Tryz.ntmps12
  go_wp2_with (refine h.mono ?_; rintro e w1 ⟨rfl, hb⟩)
  go_ret2
  exact ⟨rfl, hb⟩
end Go.Proofs.YtegobomfhdfodaaGreatDoor
