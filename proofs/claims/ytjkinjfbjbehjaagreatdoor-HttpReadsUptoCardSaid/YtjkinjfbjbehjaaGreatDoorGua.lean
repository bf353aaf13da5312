/- HTTP: THE DOCUMENT'S OWN letter, digit, one, token, target, blank, value. -/
import Derived.Test.YtjkinjfbjbehjaaGreatDoorGat
namespace Go.Proofs.YtjkinjfbjbehjaaGreatDoor
open Go.RowKit
set_option maxRecDepth 100000
set_option linter.unusedVariables false
set_option linter.unusedSimpArgs false

theorem dletter (w : World) (x : Nat) (hx : x < 256) : Calls Tryz.prog 63 #[.int .u8 (x : Int)] w fun e w' => e = .returned (.bool (H.letter x)) ∧ w' = w := by
  by_cases h1 : 97 ≤ x
  · have h1i : (97 : Int) ≤ (x : Int) := by omega
    by_cases h2 : x ≤ 122
    · have h2i : (x : Int) ≤ 122 := by omega
      by_cases h3 : 65 ≤ x
      · have h3i : (65 : Int) ≤ (x : Int) := by omega
        by_cases h4 : x ≤ 90
        · have h4i : (x : Int) ≤ 90 := by omega
          have hv : H.letter x = true := by unfold H.letter H.small; split <;> simp <;> omega
          rw [hv]
          clear hv
          go_enter Tryz.func63, Tryz.ntmps63
          go_wp2
          go_ret
          exact ⟨rfl, rfl⟩
        · have h4i : ¬ (x : Int) ≤ 90 := by omega
          have hv : H.letter x = true := by unfold H.letter H.small; split <;> simp <;> omega
          rw [hv]
          clear hv
          go_enter Tryz.func63, Tryz.ntmps63
          go_wp2
          go_ret
          exact ⟨rfl, rfl⟩
      · have h3i : ¬ (65 : Int) ≤ (x : Int) := by omega
        by_cases h4 : x ≤ 90
        · have h4i : (x : Int) ≤ 90 := by omega
          have hv : H.letter x = true := by unfold H.letter H.small; split <;> simp <;> omega
          rw [hv]
          clear hv
          go_enter Tryz.func63, Tryz.ntmps63
          go_wp2
          go_ret
          exact ⟨rfl, rfl⟩
        · have h4i : ¬ (x : Int) ≤ 90 := by omega
          have hv : H.letter x = true := by unfold H.letter H.small; split <;> simp <;> omega
          rw [hv]
          clear hv
          go_enter Tryz.func63, Tryz.ntmps63
          go_wp2
          go_ret
          exact ⟨rfl, rfl⟩
    · have h2i : ¬ (x : Int) ≤ 122 := by omega
      by_cases h3 : 65 ≤ x
      · have h3i : (65 : Int) ≤ (x : Int) := by omega
        by_cases h4 : x ≤ 90
        · have h4i : (x : Int) ≤ 90 := by omega
          have hv : H.letter x = true := by unfold H.letter H.small; split <;> simp <;> omega
          rw [hv]
          clear hv
          go_enter Tryz.func63, Tryz.ntmps63
          go_wp2
          go_ret
          exact ⟨rfl, rfl⟩
        · have h4i : ¬ (x : Int) ≤ 90 := by omega
          have hv : H.letter x = false := by unfold H.letter H.small; split <;> simp <;> omega
          rw [hv]
          clear hv
          go_enter Tryz.func63, Tryz.ntmps63
          go_wp2
          go_ret
          exact ⟨rfl, rfl⟩
      · have h3i : ¬ (65 : Int) ≤ (x : Int) := by omega
        by_cases h4 : x ≤ 90
        · have h4i : (x : Int) ≤ 90 := by omega
          have hv : H.letter x = false := by unfold H.letter H.small; split <;> simp <;> omega
          rw [hv]
          clear hv
          go_enter Tryz.func63, Tryz.ntmps63
          go_wp2
          go_ret
          exact ⟨rfl, rfl⟩
        · have h4i : ¬ (x : Int) ≤ 90 := by omega
          have hv : H.letter x = false := by unfold H.letter H.small; split <;> simp <;> omega
          rw [hv]
          clear hv
          go_enter Tryz.func63, Tryz.ntmps63
          go_wp2
          go_ret
          exact ⟨rfl, rfl⟩
  · have h1i : ¬ (97 : Int) ≤ (x : Int) := by omega
    by_cases h2 : x ≤ 122
    · have h2i : (x : Int) ≤ 122 := by omega
      by_cases h3 : 65 ≤ x
      · have h3i : (65 : Int) ≤ (x : Int) := by omega
        by_cases h4 : x ≤ 90
        · have h4i : (x : Int) ≤ 90 := by omega
          have hv : H.letter x = true := by unfold H.letter H.small; split <;> simp <;> omega
          rw [hv]
          clear hv
          go_enter Tryz.func63, Tryz.ntmps63
          go_wp2
          go_ret
          exact ⟨rfl, rfl⟩
        · have h4i : ¬ (x : Int) ≤ 90 := by omega
          have hv : H.letter x = false := by unfold H.letter H.small; split <;> simp <;> omega
          rw [hv]
          clear hv
          go_enter Tryz.func63, Tryz.ntmps63
          go_wp2
          go_ret
          exact ⟨rfl, rfl⟩
      · have h3i : ¬ (65 : Int) ≤ (x : Int) := by omega
        by_cases h4 : x ≤ 90
        · have h4i : (x : Int) ≤ 90 := by omega
          have hv : H.letter x = false := by unfold H.letter H.small; split <;> simp <;> omega
          rw [hv]
          clear hv
          go_enter Tryz.func63, Tryz.ntmps63
          go_wp2
          go_ret
          exact ⟨rfl, rfl⟩
        · have h4i : ¬ (x : Int) ≤ 90 := by omega
          have hv : H.letter x = false := by unfold H.letter H.small; split <;> simp <;> omega
          rw [hv]
          clear hv
          go_enter Tryz.func63, Tryz.ntmps63
          go_wp2
          go_ret
          exact ⟨rfl, rfl⟩
    · have h2i : ¬ (x : Int) ≤ 122 := by omega
      by_cases h3 : 65 ≤ x
      · have h3i : (65 : Int) ≤ (x : Int) := by omega
        by_cases h4 : x ≤ 90
        · have h4i : (x : Int) ≤ 90 := by omega
          have hv : H.letter x = true := by unfold H.letter H.small; split <;> simp <;> omega
          rw [hv]
          clear hv
          go_enter Tryz.func63, Tryz.ntmps63
          go_wp2
          go_ret
          exact ⟨rfl, rfl⟩
        · have h4i : ¬ (x : Int) ≤ 90 := by omega
          have hv : H.letter x = false := by unfold H.letter H.small; split <;> simp <;> omega
          rw [hv]
          clear hv
          go_enter Tryz.func63, Tryz.ntmps63
          go_wp2
          go_ret
          exact ⟨rfl, rfl⟩
      · have h3i : ¬ (65 : Int) ≤ (x : Int) := by omega
        by_cases h4 : x ≤ 90
        · have h4i : (x : Int) ≤ 90 := by omega
          have hv : H.letter x = false := by unfold H.letter H.small; split <;> simp <;> omega
          rw [hv]
          clear hv
          go_enter Tryz.func63, Tryz.ntmps63
          go_wp2
          go_ret
          exact ⟨rfl, rfl⟩
        · have h4i : ¬ (x : Int) ≤ 90 := by omega
          have hv : H.letter x = false := by unfold H.letter H.small; split <;> simp <;> omega
          rw [hv]
          clear hv
          go_enter Tryz.func63, Tryz.ntmps63
          go_wp2
          go_ret
          exact ⟨rfl, rfl⟩
theorem ddigit (w : World) (x : Nat) (hx : x < 256) : Calls Tryz.prog 38 #[.int .u8 (x : Int)] w fun e w' => e = .returned (.bool (H.digit x)) ∧ w' = w := by
  by_cases h1 : 48 ≤ x
  · have h1i : (48 : Int) ≤ (x : Int) := by omega
    by_cases h2 : x ≤ 57
    · have h2i : (x : Int) ≤ 57 := by omega
      have hv : H.digit x = true := by unfold H.digit; simp <;> omega
      rw [hv]
      clear hv
      go_enter Tryz.func38, Tryz.ntmps38
      go_wp2
      go_ret
      exact ⟨rfl, rfl⟩
    · have h2i : ¬ (x : Int) ≤ 57 := by omega
      have hv : H.digit x = false := by unfold H.digit; simp <;> omega
      rw [hv]
      clear hv
      go_enter Tryz.func38, Tryz.ntmps38
      go_wp2
      go_ret
      exact ⟨rfl, rfl⟩
  · have h1i : ¬ (48 : Int) ≤ (x : Int) := by omega
    by_cases h2 : x ≤ 57
    · have h2i : (x : Int) ≤ 57 := by omega
      have hv : H.digit x = false := by unfold H.digit; simp <;> omega
      rw [hv]
      clear hv
      go_enter Tryz.func38, Tryz.ntmps38
      go_wp2
      go_ret
      exact ⟨rfl, rfl⟩
    · have h2i : ¬ (x : Int) ≤ 57 := by omega
      have hv : H.digit x = false := by unfold H.digit; simp <;> omega
      rw [hv]
      clear hv
      go_enter Tryz.func38, Tryz.ntmps38
      go_wp2
      go_ret
      exact ⟨rfl, rfl⟩
def H.blank (x : Nat) : Bool := decide (x = 32) || decide (x = 9)
theorem dblank (w : World) (x : Nat) (hx : x < 256) : Calls Tryz.prog 100 #[.int .u8 (x : Int)] w fun e w' => e = .returned (.bool (H.blank x)) ∧ w' = w := by
  by_cases h1 : x = 32
  · subst h1
    go_enter Tryz.func100, Tryz.ntmps100
    go_wp2
    go_ret
    exact ⟨rfl, rfl⟩
  · have h1' : ¬ (x : Int) = 32 := by omega
    have hv : H.blank x = (((x : Int) == 32) || ((x : Int) == 9)) := by unfold H.blank; by_cases h2 : x = 9 <;> simp [h1, h2] <;> omega
    rw [hv]
    clear hv
    go_enter Tryz.func100, Tryz.ntmps100
    go_wp2
    go_ret
    exact ⟨rfl, rfl⟩
def H.has (l : H.T) (c : Nat) : Bool := l.any (fun b => b.toNat == c)
theorem H.any_at (p : UInt8 → Bool) (l : H.T) (j : Nat) (hj : j < l.length) : (l.drop j).any p = (p l[j] || (l.drop (j + 1)).any p) := by
  rw [List.drop_eq_getElem_cons hj, List.any_cons]
theorem H.all_at (p : UInt8 → Bool) (l : H.T) (j : Nat) (hj : j < l.length) : (l.drop j).all p = (p l[j] && (l.drop (j + 1)).all p) := by
  rw [List.drop_eq_getElem_cons hj, List.all_cons]
theorem done_one (w : World) (l : H.T) (c : Nat) (hc : c < 256) (hl : l.length ≤ 281474976710656) : Calls Tryz.prog 64 #[S l, .int .u8 (c : Int)] w fun e w' => e = .returned (.bool (H.has l c)) ∧ w' = w := by
  obtain ⟨z, hz⟩ : ∃ z : Int, ((l.length : Nat) : Int) = z := ⟨_, rfl⟩
  obtain ⟨R, hR⟩ : ∃ R, H.has l c = R := ⟨_, rfl⟩
  have HR := Lib.hid hR
  rw [hR]
  clear hR
  go_enter Tryz.func64, Tryz.ntmps64
  go_wp2
  go_loopw [5] (fun u wr => ∃ j : Nat, u = .int .i64 (j : Int) ∧ j ≤ l.length ∧ H.has (l.drop j) c = R ∧ wr = w) (fun u _ => l.length - (intOf u).toNat)
  case atStart => exact ⟨0, rfl, Nat.zero_le _, by simpa using HR.out, rfl⟩
  case round =>
    obtain ⟨j, rfl, hj, hr, rfl⟩ := hrel
    by_cases hlt : j < l.length
    · have hjz : (j : Int) < z := by omega
      obtain ⟨x, hx⟩ : ∃ x : Nat, l[j].toNat = x := ⟨_, rfl⟩
      have i1 := fun W => index_str l j hlt (x : Int) (by rw [hx]) W
      unfold H.has at hr
      rw [H.any_at _ l j hlt, hx] at hr
      have Hr := Lib.hid hr
      clear hr hx
      by_cases hxc : x = c
      · subst hxc
        have hv : R = true := by rw [← Hr.out]; simp
        subst hv
        go_wp2
        go_ret
        exact ⟨rfl, rfl⟩
      · have hxc' : ¬ (x : Int) = (c : Int) := by omega
        have hv : H.has (l.drop (j + 1)) c = R := by unfold H.has; rw [← Hr.out]; simp [hxc]
        have Hv := Lib.hid hv
        clear hv
        go_wp2
        go_roundw
        case rel => exact ⟨j + 1, by go_num, by omega, Hv.out, by first | rfl | trivial⟩
        case measure => simp [intOf]; omega
    · have hjz : ¬ (j : Int) < z := by omega
      have hv : R = false := by rw [← hr, List.drop_of_length_le (by omega)]; rfl
      subst hv
      clear hr
      go_wp2
      go_ret
      exact ⟨rfl, rfl⟩
theorem H.tok_byte : ∀ b : Fin 256, H.tok b.1 = (H.letter b.1 || H.digit b.1 || H.has H.signs b.1) := by decide +kernel
set_option maxHeartbeats 1000000 in
theorem dtoken (w : World) (l : H.T) (hl : l.length ≤ 281474976710656) : Calls Tryz.prog 32 #[S l] w fun e w' => e = .returned (.bool (H.isOf l H.tok)) ∧ w' = w := by
  by_cases h0 : l = []
  · subst h0
    go_enter Tryz.func32, Tryz.ntmps32
    go_wp2
    go_loopw [3] (fun u wr => u = .int .i64 0 ∧ wr = w) (fun _ _ => 0)
    case atStart => exact ⟨rfl, rfl⟩
    case round =>
      obtain ⟨rfl, rfl⟩ := hrel
      go_wp2
      go_ret
      exact ⟨rfl, rfl⟩
  have hne : ¬ (⟨l.toArray⟩ : ByteArray) = ⟨#[]⟩ := fun h => h0 ((S_inj (b := [])).1 h)
  have hie : l.isEmpty = false := by cases l with | nil => exact absurd rfl h0 | cons => rfl
  have hpos : 0 < l.length := List.length_pos_iff.2 h0
  obtain ⟨z, hz⟩ : ∃ z : Int, ((l.length : Nat) : Int) = z := ⟨_, rfl⟩
  obtain ⟨R, hR⟩ : ∃ R, l.all (fun b => H.tok b.toNat) = R := ⟨_, rfl⟩
  have HR := Lib.hid hR
  have hres : H.isOf l H.tok = R := by unfold H.isOf; rw [hR, hie]; rfl
  rw [hres]
  clear hR hres
  have Hne := Lib.hid hne
  have Hie := Lib.hid hie
  clear hne h0 hie
  go_enter Tryz.func32, Tryz.ntmps32
  go_wp2
  go_loopw [3] (fun u wr => ∃ j : Nat, u = .int .i64 (j : Int) ∧ j ≤ l.length ∧ (l.drop j).all (fun b => H.tok b.toNat) = R ∧ wr = w) (fun u _ => l.length - (intOf u).toNat)
  case atStart => exact ⟨0, rfl, Nat.zero_le _, by simpa using HR.out, rfl⟩
  case round =>
    obtain ⟨j, rfl, hj, hr, rfl⟩ := hrel
    by_cases hlt : j < l.length
    · have hjz : (j : Int) < z := by omega
      obtain ⟨x, hx⟩ : ∃ x : Nat, l[j].toNat = x := ⟨_, rfl⟩
      have hx1 : x < 256 := by rw [← hx]; exact l[j].toNat_lt
      have i1 := fun W => index_str l j hlt (x : Int) (by rw [hx]) W
      rw [H.all_at _ l j hlt, hx] at hr
      have Hr := Lib.hid hr
      clear hr hx
      have h63 := fun W => dletter W x hx1
      have h38 := fun W => ddigit W x hx1
      have h64 : ∀ W, Calls Tryz.prog 64 #[.string ⟨#[33, 35, 36, 37, 38, 39, 42, 43, 45, 46, 94, 95, 96, 124, 126]⟩, .int .u8 (x : Int)] W fun e w' => e = .returned (.bool (H.has H.signs x)) ∧ w' = W := fun W => done_one W H.signs x hx1 (by decide)
      have ht := H.tok_byte ⟨x, hx1⟩
      simp only at ht
      cases k1 : H.letter x with
      | true =>
        rw [k1] at h63 ht
        have hp : H.tok x = true := by rw [ht]; rfl
        clear ht h38 h64
        have hv : (l.drop (j + 1)).all (fun b => H.tok b.toNat) = R := by rw [← Hr.out, hp]; simp
        have Hv := Lib.hid hv
        clear hv hp
        go_wp2_with (first | (go_at_call 63; refine (h63 _).mono ?_; rintro e w1 ⟨rfl, rfl⟩) | (go_at_call 38; refine (h38 _).mono ?_; rintro e w1 ⟨rfl, rfl⟩) | (go_at_call 64; refine (h64 _).mono ?_; rintro e w1 ⟨rfl, rfl⟩))
        go_roundw
        case rel => exact ⟨j + 1, by go_num, by omega, Hv.out, by first | rfl | trivial⟩
        case measure => simp [intOf]; omega
      | false =>
        rw [k1] at h63 ht
        cases k2 : H.digit x with
        | true =>
          rw [k2] at h38 ht
          have hp : H.tok x = true := by rw [ht]; rfl
          clear ht h64
          have hv : (l.drop (j + 1)).all (fun b => H.tok b.toNat) = R := by rw [← Hr.out, hp]; simp
          have Hv := Lib.hid hv
          clear hv hp
          go_wp2_with (first | (go_at_call 63; refine (h63 _).mono ?_; rintro e w1 ⟨rfl, rfl⟩) | (go_at_call 38; refine (h38 _).mono ?_; rintro e w1 ⟨rfl, rfl⟩) | (go_at_call 64; refine (h64 _).mono ?_; rintro e w1 ⟨rfl, rfl⟩))
          go_roundw
          case rel => exact ⟨j + 1, by go_num, by omega, Hv.out, by first | rfl | trivial⟩
          case measure => simp [intOf]; omega
        | false =>
          rw [k2] at h38 ht
          cases k3 : H.has H.signs x with
          | true =>
            rw [k3] at h64 ht
            have hp : H.tok x = true := by rw [ht]; rfl
            clear ht
            have hv : (l.drop (j + 1)).all (fun b => H.tok b.toNat) = R := by rw [← Hr.out, hp]; simp
            have Hv := Lib.hid hv
            clear hv hp
            go_wp2_with (first | (go_at_call 63; refine (h63 _).mono ?_; rintro e w1 ⟨rfl, rfl⟩) | (go_at_call 38; refine (h38 _).mono ?_; rintro e w1 ⟨rfl, rfl⟩) | (go_at_call 64; refine (h64 _).mono ?_; rintro e w1 ⟨rfl, rfl⟩))
            go_roundw
            case rel => exact ⟨j + 1, by go_num, by omega, Hv.out, by first | rfl | trivial⟩
            case measure => simp [intOf]; omega
          | false =>
            rw [k3] at h64 ht
            have hp : H.tok x = false := by rw [ht]; rfl
            clear ht
            have hv : R = false := by rw [← Hr.out, hp]; rfl
            subst hv
            clear hp
            go_wp2_with (first | (go_at_call 63; refine (h63 _).mono ?_; rintro e w1 ⟨rfl, rfl⟩) | (go_at_call 38; refine (h38 _).mono ?_; rintro e w1 ⟨rfl, rfl⟩) | (go_at_call 64; refine (h64 _).mono ?_; rintro e w1 ⟨rfl, rfl⟩))
            go_ret
            exact ⟨by simp, rfl⟩
    · have hjz : ¬ (j : Int) < z := by omega
      have hv : R = true := by rw [← hr, List.drop_of_length_le (by omega)]; rfl
      subst hv
      clear hr
      go_wp2
      go_ret
      exact ⟨by show Ending.returned (.bool (!l.isEmpty)) = _; rw [Hie.out]; rfl, rfl⟩
set_option maxHeartbeats 1000000 in
theorem dtarget (w : World) (l : H.T) (hl : l.length ≤ 281474976710656) : Calls Tryz.prog 33 #[S l] w fun e w' => e = .returned (.bool (H.isOf l H.tgt)) ∧ w' = w := by
  by_cases h0 : l = []
  · subst h0
    go_enter Tryz.func33, Tryz.ntmps33
    go_wp2
    go_loopw [3] (fun u wr => u = .int .i64 0 ∧ wr = w) (fun _ _ => 0)
    case atStart => exact ⟨rfl, rfl⟩
    case round =>
      obtain ⟨rfl, rfl⟩ := hrel
      go_wp2
      go_ret
      exact ⟨rfl, rfl⟩
  have hne : ¬ (⟨l.toArray⟩ : ByteArray) = ⟨#[]⟩ := fun h => h0 ((S_inj (b := [])).1 h)
  have hie : l.isEmpty = false := by cases l with | nil => exact absurd rfl h0 | cons => rfl
  have hpos : 0 < l.length := List.length_pos_iff.2 h0
  obtain ⟨z, hz⟩ : ∃ z : Int, ((l.length : Nat) : Int) = z := ⟨_, rfl⟩
  obtain ⟨R, hR⟩ : ∃ R, l.all (fun b => H.tgt b.toNat) = R := ⟨_, rfl⟩
  have HR := Lib.hid hR
  have hres : H.isOf l H.tgt = R := by unfold H.isOf; rw [hR, hie]; rfl
  rw [hres]
  clear hR hres
  have Hne := Lib.hid hne
  have Hie := Lib.hid hie
  clear hne h0 hie
  go_enter Tryz.func33, Tryz.ntmps33
  go_wp2
  go_loopw [3] (fun u wr => ∃ j : Nat, u = .int .i64 (j : Int) ∧ j ≤ l.length ∧ (l.drop j).all (fun b => H.tgt b.toNat) = R ∧ wr = w) (fun u _ => l.length - (intOf u).toNat)
  case atStart => exact ⟨0, rfl, Nat.zero_le _, by simpa using HR.out, rfl⟩
  case round =>
    obtain ⟨j, rfl, hj, hr, rfl⟩ := hrel
    by_cases hlt : j < l.length
    · have hjz : (j : Int) < z := by omega
      obtain ⟨x, hx⟩ : ∃ x : Nat, l[j].toNat = x := ⟨_, rfl⟩
      have hx1 : x < 256 := by rw [← hx]; exact l[j].toNat_lt
      have i1 := fun W => index_str l j hlt (x : Int) (by rw [hx]) W
      rw [H.all_at _ l j hlt, hx] at hr
      have Hr := Lib.hid hr
      clear hr hx
      by_cases h1 : 33 ≤ x
      · have h1' : ¬ (x : Int) < 33 := by omega
        by_cases h2 : x ≤ 126
        · have h2' : ¬ (126 : Int) < (x : Int) := by omega
          have hp : H.tgt x = true := by unfold H.tgt; simp <;> omega
          have hv : (l.drop (j + 1)).all (fun b => H.tgt b.toNat) = R := by rw [← Hr.out, hp]; simp
          have Hv := Lib.hid hv
          clear hv hp
          go_wp2
          go_roundw
          case rel => exact ⟨j + 1, by go_num, by omega, Hv.out, by first | rfl | trivial⟩
          case measure => simp [intOf]; omega
        · have h2' : (126 : Int) < (x : Int) := by omega
          have hp : H.tgt x = false := by unfold H.tgt; simp <;> omega
          have hv : R = false := by rw [← Hr.out, hp]; rfl
          subst hv
          clear hp
          go_wp2
          go_ret
          exact ⟨by simp, rfl⟩
      · have h1' : (x : Int) < 33 := by omega
        have hp : H.tgt x = false := by unfold H.tgt; simp <;> omega
        have hv : R = false := by rw [← Hr.out, hp]; rfl
        subst hv
        clear hp
        go_wp2
        go_ret
        exact ⟨by simp, rfl⟩
    · have hjz : ¬ (j : Int) < z := by omega
      have hv : R = true := by rw [← hr, List.drop_of_length_le (by omega)]; rfl
      subst hv
      clear hr
      go_wp2
      go_ret
      exact ⟨by show Ending.returned (.bool (!l.isEmpty)) = _; rw [Hie.out]; rfl, rfl⟩
def H.dval (x : Nat) : Bool := !((decide (x < 32) && !decide (x = 9)) || decide (x = 127))
/-- the document's value -/
def H.dvalue (l : H.T) : Bool := l.all (fun b => H.dval b.toNat) && (l.isEmpty || (!H.blank (l.headD 0).toNat && !H.blank (l.getLastD 0).toNat))
set_option maxHeartbeats 1000000 in
theorem dvalue_any (w : World) (l : H.T) (hl : l.length ≤ 281474976710656) : Calls Tryz.prog 80 #[S l] w fun e w' => e = .returned (.bool (H.dvalue l)) ∧ w' = w := by
  by_cases h0 : l = []
  · subst h0
    go_enter Tryz.func80, Tryz.ntmps80
    go_wp2
    go_loopw [3] (fun u wr => u = .int .i64 0 ∧ wr = w) (fun _ _ => 0)
    case atStart => exact ⟨rfl, rfl⟩
    case round =>
      obtain ⟨rfl, rfl⟩ := hrel
      go_wp2
      go_ret
      exact ⟨rfl, rfl⟩
  have hne : ¬ (⟨l.toArray⟩ : ByteArray) = ⟨#[]⟩ := fun h => h0 ((S_inj (b := [])).1 h)
  have hie : l.isEmpty = false := by cases l with | nil => exact absurd rfl h0 | cons => rfl
  have hpos : 0 < l.length := List.length_pos_iff.2 h0
  obtain ⟨z, hz⟩ : ∃ z : Int, ((l.length : Nat) : Int) = z := ⟨_, rfl⟩
  obtain ⟨R, hR⟩ : ∃ R, l.all (fun b => H.dval b.toNat) = R := ⟨_, rfl⟩
  have HR := Lib.hid hR
  obtain ⟨a, hav⟩ : ∃ a : Nat, (l[0]'hpos).toNat = a := ⟨_, rfl⟩
  obtain ⟨b, hbv⟩ : ∃ b : Nat, (l[l.length - 1]'(by omega)).toNat = b := ⟨_, rfl⟩
  have ha : a < 256 := by rw [← hav]; exact l[0].toNat_lt
  have hb : b < 256 := by rw [← hbv]; exact (l[l.length - 1]'(by omega)).toNat_lt
  have ia : ∀ W, (Instr.index 9 (S l) (.int .i64 0)).run Tryz.prog W = .ok (.int .u8 (a : Int)) W := fun W => index_str l 0 hpos (a : Int) (by rw [hav]) W
  have ib : ∀ W, (Instr.index 9 (S l) (.int .i64 (z - 1))).run Tryz.prog W = .ok (.int .u8 (b : Int)) W := fun W => by
    have := index_str l (l.length - 1) (by omega) (b : Int) (by rw [hbv]) W
    rw [show (((l.length - 1 : Nat)) : Int) = z - 1 from by omega] at this
    exact this
  have e1 : (l.headD 0).toNat = a := by rw [← hav]; cases l with | nil => simp at hpos | cons b t => rfl
  have e2 : (l.getLastD 0).toNat = b := by rw [← hbv, List.getLastD_eq_getLast?, List.getLast?_eq_getElem?, List.getElem?_eq_getElem (by omega)]; rfl
  have hres : H.dvalue l = (R && (!H.blank a && !H.blank b)) := by unfold H.dvalue; rw [hR, hie, e1, e2]; rfl
  rw [hres]
  have Ia := Lib.hid ia
  have Ib := Lib.hid ib
  clear hR hres e1 e2 hav hbv ia ib
  have Hne := Lib.hid hne
  have Hie := Lib.hid hie
  clear hne h0 hie
  go_enter Tryz.func80, Tryz.ntmps80
  go_wp2
  go_loopw [3] (fun u wr => ∃ j : Nat, u = .int .i64 (j : Int) ∧ j ≤ l.length ∧ (l.drop j).all (fun b => H.dval b.toNat) = R ∧ wr = w) (fun u _ => l.length - (intOf u).toNat)
  case atStart => exact ⟨0, rfl, Nat.zero_le _, by simpa using HR.out, rfl⟩
  case round =>
    obtain ⟨j, rfl, hj, hr, rfl⟩ := hrel
    by_cases hlt : j < l.length
    · have hjz : (j : Int) < z := by omega
      obtain ⟨x, hx⟩ : ∃ x : Nat, l[j].toNat = x := ⟨_, rfl⟩
      have hx1 : x < 256 := by rw [← hx]; exact l[j].toNat_lt
      have i1 := fun W => index_str l j hlt (x : Int) (by rw [hx]) W
      rw [H.all_at _ l j hlt, hx] at hr
      have Hr := Lib.hid hr
      clear hr hx
      by_cases h9 : x = 9
      · subst h9
        have hp : H.dval 9 = true := rfl
        have hv : (l.drop (j + 1)).all (fun b => H.dval b.toNat) = R := by rw [← Hr.out, hp]; simp
        have Hv := Lib.hid hv
        clear hv hp
        go_wp2
        go_roundw
        case rel => exact ⟨j + 1, by go_num, by omega, Hv.out, by first | rfl | trivial⟩
        case measure => simp [intOf]; omega
      · have h9' : ¬ (x : Int) = 9 := by omega
        by_cases h1 : x < 32
        · have h1' : (x : Int) < 32 := by omega
          have hp : H.dval x = false := by unfold H.dval; simp [h1, h9]
          have hv : R = false := by rw [← Hr.out, hp]; rfl
          subst hv
          clear hp
          go_wp2
          go_ret
          exact ⟨by simp, rfl⟩
        · have h1' : ¬ (x : Int) < 32 := by omega
          by_cases h2 : x = 127
          · subst h2
            have hp : H.dval 127 = false := rfl
            have hv : R = false := by rw [← Hr.out, hp]; rfl
            subst hv
            clear hp
            go_wp2
            go_ret
            exact ⟨by simp, rfl⟩
          · have h2' : ¬ (x : Int) = 127 := by omega
            have hp : H.dval x = true := by unfold H.dval; simp [h1, h2]
            have hv : (l.drop (j + 1)).all (fun b => H.dval b.toNat) = R := by rw [← Hr.out, hp]; simp
            have Hv := Lib.hid hv
            clear hv hp
            go_wp2
            go_roundw
            case rel => exact ⟨j + 1, by go_num, by omega, Hv.out, by first | rfl | trivial⟩
            case measure => simp [intOf]; omega
    · have hjz : ¬ (j : Int) < z := by omega
      have hv : R = true := by rw [← hr, List.drop_of_length_le (by omega)]; rfl
      subst hv
      clear hr
      have hie := Hie.out
      have ia := Ia.out
      have ib := Ib.out
      have ka := fun W => dblank W a ha
      have kb := fun W => dblank W b hb
      have hw : IntKind.i64.wrap (z - 1) = z - 1 := by rw [IntKind.wrap_i64]; omega
      obtain ⟨x1, e1⟩ : ∃ x, H.blank a = x := ⟨_, rfl⟩
      obtain ⟨x2, e2⟩ : ∃ x, H.blank b = x := ⟨_, rfl⟩
      have E1 := Lib.hid e1
      have E2 := Lib.hid e2
      rw [e1] at ka
      rw [e2] at kb
      clear e1 e2
      cases x1 with
      | true =>
        clear kb
        go_wp2_with (refine (ka _).mono ?_; rintro e w1 ⟨rfl, rfl⟩)
        go_ret
        exact ⟨by rw [E1.out]; rfl, rfl⟩
      | false =>
        by_cases hab : a = b
        · subst hab
          go_wp2_with (refine (ka _).mono ?_; rintro e w1 ⟨rfl, rfl⟩)
          go_ret
          exact ⟨by rw [E1.out]; rfl, rfl⟩
        · go_wp2_with (first | (with_reducible refine (ka _).mono ?_; rintro e w1 ⟨rfl, rfl⟩) | (with_reducible refine (kb _).mono ?_; rintro e w1 ⟨rfl, rfl⟩))
          go_ret
          exact ⟨by rw [E1.out, E2.out]; rfl, rfl⟩
end Go.Proofs.YtjkinjfbjbehjaaGreatDoor

/- HTTP: THE DOCUMENT'S OWN low, framing, number, reason. -/
namespace Go.Proofs.YtjkinjfbjbehjaaGreatDoor
open Go.RowKit
set_option maxRecDepth 100000
set_option linter.unusedVariables false
set_option linter.unusedSimpArgs false

def H.lowB (b : UInt8) : UInt8 := if 65 ≤ b.toNat ∧ b.toNat ≤ 90 then b + 32 else b
def H.low (l : H.T) : H.T := l.map H.lowB
theorem H.lowB_nat (b : UInt8) : (H.lowB b).toNat = H.small b.toNat := by
  unfold H.lowB H.small
  by_cases h : 65 ≤ b.toNat ∧ b.toNat ≤ 90
  · rw [if_pos h, if_pos h]
    rw [UInt8.toNat_add]
    show (b.toNat + 32) % 256 = _
    omega
  · rw [if_neg h, if_neg h]
theorem H.low_alike : ∀ a b : H.T, (H.low a = H.low b) ↔ H.alike a b = true
  | [], [] => by simp [H.low, H.alike]
  | [], _ :: _ => by simp [H.low, H.alike]
  | _ :: _, [] => by simp [H.low, H.alike]
  | a :: s, b :: t => by
    have ih := H.low_alike s t
    unfold H.low at ih
    simp only [H.low, List.map_cons, List.cons.injEq, H.alike, Bool.and_eq_true, beq_iff_eq, ih]
    refine and_congr_left fun _ => ?_
    rw [← H.lowB_nat, ← H.lowB_nat]
    exact ⟨fun h => by rw [h], fun h => UInt8.toNat_inj.1 h⟩
theorem H.low_at (l : H.T) (j : Nat) (hj : j < l.length) : ((l.take j).map H.lowB ++ l.drop j).set j (H.lowB l[j]) = (l.take (j + 1)).map H.lowB ++ l.drop (j + 1) := by
  rw [List.set_append_right _ _ (by simp [List.length_take]; omega)]
  rw [List.drop_eq_getElem_cons hj]
  have e : j - ((l.take j).map H.lowB).length = 0 := by simp [List.length_take]; omega
  have e2 : l.take (j + 1) = l.take j ++ [l[j]] := by rw [List.take_add_one, List.getElem?_eq_getElem hj]; rfl
  rw [e, List.set_cons_zero, e2, List.map_append, List.append_assoc]
  rfl
theorem H.low_get (l : H.T) (j : Nat) (hj : j < l.length) : ((l.take j).map H.lowB ++ l.drop j)[j]'(by simp [List.length_take, List.length_drop]; omega) = l[j] := by
  rw [List.getElem_append_right (by simp [List.length_take]; omega)]
  simp [List.length_take, Nat.min_eq_left (Nat.le_of_lt hj)]
theorem H.low_keep (l : H.T) (j : Nat) (hj : j < l.length) (h : H.lowB l[j] = l[j]) : (l.take j).map H.lowB ++ l.drop j = (l.take (j + 1)).map H.lowB ++ l.drop (j + 1) := by
  rw [← H.low_at l j hj, h]
  conv => rhs; rhs; rw [← H.low_get l j hj]
  exact (List.set_getElem_self _).symm
set_option maxHeartbeats 2000000 in
theorem low_any (w : World) (l : H.T) (hl : l.length ≤ 281474976710656) : Calls Tryz.prog 41 #[S l] w fun e w' => e = .returned (S (H.low l)) ∧ Below w.heap.size w w' := by
  obtain ⟨C, w2, hcv, hb2, hby⟩ := conv_own w l
  have HB := Lib.hid hby
  have hgl := hby.lt
  obtain ⟨g, hg⟩ : ∃ g, w.heap.size = g := ⟨_, rfl⟩
  rw [hg] at hcv HB hgl hb2 ⊢
  have H12 := Lib.hid hb2
  obtain ⟨z, hz⟩ : ∃ z : Int, ((l.length : Nat) : Int) = z := ⟨_, rfl⟩
  have Hml := Lib.hid (show (H.low l).length = l.length by simp [H.low])
  clear hb2 hby hg
  go_enter Tryz.func41, Tryz.ntmps41
  go_wp2
  clear hcv
  go_loopw [9] (fun u wr => ∃ j : Nat, u = .int .i64 (j : Int) ∧ j ≤ l.length ∧ Byt wr g ((l.take j).map H.lowB ++ l.drop j) ∧ Below g w wr) (fun u _ => l.length - (intOf u).toNat)
  case atStart => exact ⟨0, rfl, Nat.zero_le _, by simpa using HB.out, H12.out⟩
  case round =>
    obtain ⟨j, rfl, hj, hbt, hbw⟩ := hrel
    have Hbt := Lib.hid hbt
    have Hbw := Lib.hid hbw
    have hlg := hbt.lt
    clear hbt hbw
    by_cases hlt : j < l.length
    · have hjz : (j : Int) < z := by omega
      have hlen : j < ((l.take j).map H.lowB ++ l.drop j).length := by simp [List.length_take, List.length_drop]; omega
      have hc := Hbt.out.cell j hlen
      rw [H.low_get l j hlt] at hc
      have hf := Hbt.out.free j hlen
      obtain ⟨c, hcc⟩ : ∃ c : Nat, l[j].toNat = c := ⟨_, rfl⟩
      have hc255 : c < 256 := by rw [← hcc]; exact l[j].toNat_lt
      have Hlow := Lib.hid (H.low_at l j hlt)
      have Hkeep := Lib.hid (H.low_keep l j hlt)
      have Hset := Lib.hid (Hbt.out.set j (H.lowB l[j]) hlen)
      have Hcc := Lib.hid hcc
      rw [hcc] at hc
      clear hcc hlen
      by_cases h1 : 65 ≤ c
      · have h1' : (65 : Int) ≤ (c : Int) := by omega
        by_cases h2 : c ≤ 90
        · have h2' : (c : Int) ≤ 90 := by omega
          have hw : IntKind.u8.wrap ((c : Int) + 32) = (c : Int) + 32 := by rw [IntKind.wrap_u8]; omega
          have hu : ((H.lowB l[j]).toNat : Int) = (c : Int) + 32 := by
            rw [H.lowB_nat, Hcc.out]
            unfold H.small
            rw [if_pos ⟨h1, h2⟩]
            omega
          have hset := Hset.out
          rw [Hlow.out, hu] at hset
          have Hs2 := Lib.hid hset
          clear hset hu
          go_wp2
          go_roundw
          case rel => exact ⟨j + 1, by go_num, by omega, Hs2.out, Hbw.out.setCell (p := ⟨g, j, none⟩) (Nat.le_refl _) _⟩
          case measure => simp [intOf]; omega
        · have h2' : ¬ (c : Int) ≤ 90 := by omega
          have Hs2 := Lib.hid (show Byt wr g ((l.take (j + 1)).map H.lowB ++ l.drop (j + 1)) from by rw [← Hkeep.out (by unfold H.lowB; rw [Hcc.out, if_neg (by omega)])]; exact Hbt.out)
          go_wp2
          go_roundw
          case rel => exact ⟨j + 1, by go_num, by omega, Hs2.out, Hbw.out⟩
          case measure => simp [intOf]; omega
      · have h1' : ¬ (65 : Int) ≤ (c : Int) := by omega
        have Hs2 := Lib.hid (show Byt wr g ((l.take (j + 1)).map H.lowB ++ l.drop (j + 1)) from by rw [← Hkeep.out (by unfold H.lowB; rw [Hcc.out, if_neg (by omega)])]; exact Hbt.out)
        go_wp2
        go_roundw
        case rel => exact ⟨j + 1, by go_num, by omega, Hs2.out, Hbw.out⟩
        case measure => simp [intOf]; omega
    · have hjz : ¬ (j : Int) < z := by omega
      have hbt := Hbt.out
      rw [List.take_of_length_le (by omega), List.drop_of_length_le (by omega), List.append_nil] at hbt
      have hbk := back_own wr g (H.low l) C hbt
      rw [Hml.out] at hbk
      clear hbt
      go_wp2
      go_ret
      exact ⟨rfl, Hbw.out⟩
def H.framing (n : H.T) : Bool := H.alike n H.lengthN || H.alike n H.codingN
theorem H.low_len (n : H.T) : (H.low n = [99, 111, 110, 116, 101, 110, 116, 45, 108, 101, 110, 103, 116, 104]) ↔ H.alike n H.lengthN = true := by
  rw [← H.low_alike]; rfl
theorem H.low_cod (n : H.T) : (H.low n = [116, 114, 97, 110, 115, 102, 101, 114, 45, 101, 110, 99, 111, 100, 105, 110, 103]) ↔ H.alike n H.codingN = true := by
  rw [← H.low_alike]; rfl
theorem framing_any (w : World) (n : H.T) (hn : n.length ≤ 281474976710656) : Calls Tryz.prog 67 #[S n] w fun e w' => e = .returned (.bool (H.framing n)) ∧ Below w.heap.size w w' := by
  have hlow := fun W => low_any W n hn
  have h1 := H.low_len n
  have h2 := H.low_cod n
  obtain ⟨L, hL⟩ : ∃ L, H.low n = L := ⟨_, rfl⟩
  rw [hL] at hlow h1 h2
  clear hL
  unfold H.framing
  by_cases k1 : L = [99, 111, 110, 116, 101, 110, 116, 45, 108, 101, 110, 103, 116, 104]
  · rw [h1.1 k1]
    subst k1
    clear h1 h2
    go_enter Tryz.func67, Tryz.ntmps67
    go_wp2_with (refine (hlow _).mono ?_; rintro e w1 ⟨rfl, hb1⟩)
    go_ret
    exact ⟨rfl, hb1⟩
  · have k1' : (L == [99, 111, 110, 116, 101, 110, 116, 45, 108, 101, 110, 103, 116, 104]) = false := by simpa using k1
    have a1 : H.alike n H.lengthN = false := by cases h : H.alike n H.lengthN with | false => rfl | true => exact absurd (h1.2 h) k1
    rw [a1]
    by_cases k2 : L = [116, 114, 97, 110, 115, 102, 101, 114, 45, 101, 110, 99, 111, 100, 105, 110, 103]
    · rw [h2.1 k2]
      subst k2
      clear h1 h2 a1 k1 k1'
      go_enter Tryz.func67, Tryz.ntmps67
      go_wp2_with (refine (hlow _).mono ?_; rintro e w1 ⟨rfl, hb1⟩)
      go_ret
      exact ⟨rfl, by first | assumption | (rename_i a b; exact b.trans (hb1.mono b.size))⟩
    · have k2' : (L == [116, 114, 97, 110, 115, 102, 101, 114, 45, 101, 110, 99, 111, 100, 105, 110, 103]) = false := by simpa using k2
      have a2 : H.alike n H.codingN = false := by cases h : H.alike n H.codingN with | false => rfl | true => exact absurd (h2.2 h) k2
      rw [a2]
      clear h1 h2 a1 a2 k1 k2
      go_enter Tryz.func67, Tryz.ntmps67
      go_wp2_with (refine (hlow _).mono ?_; rintro e w1 ⟨rfl, hb1⟩)
      go_ret
      exact ⟨rfl, by first | assumption | (rename_i a b; exact b.trans (hb1.mono b.size))⟩
theorem dec_dig (d : Nat) (h : d < 10) : (⟨#[48, 49, 50, 51, 52, 53, 54, 55, 56, 57]⟩ : ByteArray).extract d (d + 1) = ⟨[UInt8.ofNat (48 + d)].toArray⟩ := by
  have : ∀ d, d < 10 → ((⟨#[48, 49, 50, 51, 52, 53, 54, 55, 56, 57]⟩ : ByteArray).extract d (d + 1)).data.toList = [UInt8.ofNat (48 + d)] := by decide +kernel
  have h2 := this d h
  apply ByteArray.ext
  apply Array.toList_inj.1
  simpa using h2
theorem dec_step (m : Nat) (t : H.T) : (m / 10 = 0 ∧ Lib.decDigits m ++ t = UInt8.ofNat (48 + m % 10) :: t) ∨ (0 < m / 10 ∧ Lib.decDigits m ++ t = Lib.decDigits (m / 10) ++ (UInt8.ofNat (48 + m % 10) :: t)) := by
  by_cases h : m < 10
  · refine .inl ⟨by omega, ?_⟩
    rw [Lib.decDigits, dif_pos h, show m % 10 = m from by omega]
    rfl
  · refine .inr ⟨by omega, ?_⟩
    rw [Lib.decDigits, dif_neg h, List.append_assoc]
    rfl
set_option maxHeartbeats 1000000 in
theorem number_any (w : World) (n : Nat) (hn : n ≤ 65536) : Calls Tryz.prog 51 #[.int .i64 (n : Int)] w fun e w' => e = .returned (S (Lib.itoa (n : Int))) ∧ w' = w := by
  rw [H.itoa_dec]
  have hdl := H.dec_len n hn
  obtain ⟨D, hD⟩ : ∃ D, Lib.decDigits n = D := ⟨_, rfl⟩
  rw [hD] at hdl ⊢
  have HD := Lib.hid hD
  have Hdl := Lib.hid hdl
  clear hD hdl
  go_enter Tryz.func51, Tryz.ntmps51
  go_wp2
  go_loopw [0, 3] (fun u s wr => ∃ (m : Nat) (t : H.T), u = .int .i64 (m : Int) ∧ s = S t ∧ m ≤ 65536 ∧ (((t = [] ∨ 0 < m) ∧ D = Lib.decDigits m ++ t) ∨ (¬ t = [] ∧ m = 0 ∧ t = D)) ∧ wr = w) (fun u s _ => (intOf u).toNat + match s with | .string b => 1 - b.size | _ => 0)
  case atStart => exact ⟨n, [], rfl, rfl, hn, .inl ⟨.inl rfl, by rw [List.append_nil]; exact HD.out.symm⟩, rfl⟩
  case round =>
    obtain ⟨m, t, rfl, rfl, hm, hg, rfl⟩ := hrel
    rcases hg with ⟨h0, hg⟩ | ⟨ht, hm0, hg⟩
    · have hstep := dec_step m t
      rw [← hg] at hstep
      have htl : t.length ≤ 9 := by have := Hdl.out; rw [hg, List.length_append] at this; omega
      obtain ⟨d, hd⟩ : ∃ d : Nat, m % 10 = d := ⟨_, rfl⟩
      have hd10 : d < 10 := by omega
      have e1 := dec_dig d hd10
      rw [hd] at hstep
      obtain ⟨g, hgd⟩ : ∃ g : UInt8, UInt8.ofNat (48 + d) = g := ⟨_, rfl⟩
      rw [hgd] at e1 hstep
      have e2 := S_app [g] t
      have hmod : (m : Int) % 10 = (d : Int) := by omega
      have htm : Int.tmod (m : Int) 10 = (d : Int) := by rw [Int.tmod_eq_emod_of_nonneg (by omega)]; exact hmod
      have htd : Int.tdiv (m : Int) 10 = ((m / 10 : Nat) : Int) := by rw [Int.tdiv_eq_ediv_of_nonneg (by omega)]; omega
      have hsz : ({ data := #[48, 49, 50, 51, 52, 53, 54, 55, 56, 57] } : ByteArray).size = 10 := by rfl
      have hb1 : (d : Int) + 1 ≤ 10 := by omega
      have hb2 : (d : Int) ≤ (d : Int) + 1 := by omega
      have Hg := Lib.hid (show ((((g :: t) = [] ∨ 0 < m / 10) ∧ D = Lib.decDigits (m / 10) ++ (g :: t)) ∨ (¬ (g :: t) = [] ∧ m / 10 = 0 ∧ (g :: t) = D)) from by
        rcases hstep with ⟨a, b⟩ | ⟨a, b⟩
        · exact .inr ⟨by simp, a, b.symm⟩
        · exact .inl ⟨.inr a, b⟩)
      have g1 : (⟨#[g]⟩ : ByteArray).size = 1 := rfl
      have g0 : (⟨#[]⟩ : ByteArray).size = 0 := rfl
      have H10 := Lib.hid (show m / 10 ≤ 65536 by omega)
      clear hstep hg hgd
      by_cases ht : t = []
      · subst ht
        clear h0 htl
        go_wp2
        go_roundw
        case rel => exact ⟨m / 10, [g], by go_num, congrArg Value.string e2, H10.out, Hg.out, by first | rfl | trivial⟩
        case measure =>
          simp [intOf, g1, g0]
          omega
      · have h0' : (0 : Int) < (m : Int) := by have := h0.resolve_left ht; omega
        have hie : t.isEmpty = false := by cases t with | nil => exact absurd rfl ht | cons => rfl
        have hz1 : 1 ≤ t.length := by cases t with | nil => exact absurd rfl ht | cons => simp
        clear h0
        go_wp2
        go_roundw
        case rel => exact ⟨m / 10, g :: t, by go_num, rfl, H10.out, Hg.out, by first | rfl | trivial⟩
        case measure =>
          have g2 : (⟨(g :: t).toArray⟩ : ByteArray).size = t.length + 1 := by rw [S_size]; rfl
          have g3 : (⟨t.toArray⟩ : ByteArray).size = t.length := S_size t
          simp only [intOf, g2, g3]
          omega
    · subst hm0
      have hie : t.isEmpty = false := by cases t with | nil => exact absurd rfl ht | cons => rfl
      have Hg := Lib.hid hg
      clear hg
      go_wp2
      go_ret
      exact ⟨by rw [← Hg.out]; rfl, rfl⟩
set_option maxHeartbeats 1000000 in
theorem dreason (w : World) (n : Nat) (hn : n ≤ 599) : Calls Tryz.prog 52 #[.int .i64 (n : Int)] w fun e w' => e = .returned (S (H.reason n)) ∧ w' = w := by
  by_cases h200 : n = 200
  · subst h200
    go_enter Tryz.func52, Tryz.ntmps52
    go_wp2
    go_ret
    exact ⟨rfl, rfl⟩
  · have j200 : ¬ (n : Int) = 200 := by omega
    by_cases h400 : n = 400
    · subst h400
      go_enter Tryz.func52, Tryz.ntmps52
      go_wp2
      go_ret
      exact ⟨rfl, rfl⟩
    · have j400 : ¬ (n : Int) = 400 := by omega
      by_cases h404 : n = 404
      · subst h404
        go_enter Tryz.func52, Tryz.ntmps52
        go_wp2
        go_ret
        exact ⟨rfl, rfl⟩
      · have j404 : ¬ (n : Int) = 404 := by omega
        by_cases h405 : n = 405
        · subst h405
          go_enter Tryz.func52, Tryz.ntmps52
          go_wp2
          go_ret
          exact ⟨rfl, rfl⟩
        · have j405 : ¬ (n : Int) = 405 := by omega
          by_cases h408 : n = 408
          · subst h408
            go_enter Tryz.func52, Tryz.ntmps52
            go_wp2
            go_ret
            exact ⟨rfl, rfl⟩
          · have j408 : ¬ (n : Int) = 408 := by omega
            by_cases h413 : n = 413
            · subst h413
              go_enter Tryz.func52, Tryz.ntmps52
              go_wp2
              go_ret
              exact ⟨rfl, rfl⟩
            · have j413 : ¬ (n : Int) = 413 := by omega
              by_cases h415 : n = 415
              · subst h415
                go_enter Tryz.func52, Tryz.ntmps52
                go_wp2
                go_ret
                exact ⟨rfl, rfl⟩
              · have j415 : ¬ (n : Int) = 415 := by omega
                by_cases h429 : n = 429
                · subst h429
                  go_enter Tryz.func52, Tryz.ntmps52
                  go_wp2
                  go_ret
                  exact ⟨rfl, rfl⟩
                · have j429 : ¬ (n : Int) = 429 := by omega
                  by_cases h503 : n = 503
                  · subst h503
                    go_enter Tryz.func52, Tryz.ntmps52
                    go_wp2
                    go_ret
                    exact ⟨rfl, rfl⟩
                  · have j503 : ¬ (n : Int) = 503 := by omega
                    have e : H.reason n = [79, 116, 104, 101, 114] := by simp only [H.reason, h200, h400, h404, h405, h408, h413, h415, h429, h503, if_false]
                    rw [e]
                    clear e h200 h400 h404 h405 h408 h413 h415 h429 h503
                    go_enter Tryz.func52, Tryz.ntmps52
                    go_wp2
                    go_ret
                    exact ⟨rfl, rfl⟩
end Go.Proofs.YtjkinjfbjbehjaaGreatDoor

/- HTTP: THE DOCUMENT'S OWN heads, rest. -/
namespace Go.Proofs.YtjkinjfbjbehjaaGreatDoor
open Go.RowKit
set_option maxRecDepth 100000
set_option linter.unusedVariables false
set_option linter.unusedSimpArgs false

theorem H.blank_p (b : UInt8) : ([32, 9] : H.T).contains b = H.blank b.toNat := by
  have : ∀ b : Fin 256, ([32, 9] : H.T).contains (UInt8.ofNat b.1) = H.blank b.1 := by decide +kernel
  have := this ⟨b.toNat, b.toNat_lt⟩
  simpa using this
theorem H.dval_val (x : Nat) : H.dval x = H.val x := by
  unfold H.dval H.val
  by_cases h1 : x = 9
  · subst h1; rfl
  · by_cases h2 : x < 32
    · simp [h1, h2]; omega
    · by_cases h3 : x = 127
      · subst h3; rfl
      · simp [h1, h2, h3]; omega
theorem H.trim_iff (l : H.T) (hne : l ≠ []) : (l = Lib.trimS l [32, 9]) ↔ (H.blank (l.headD 0).toNat = false ∧ H.blank (l.getLastD 0).toNat = false) := by
  obtain ⟨a, t, rfl⟩ : ∃ a t, l = a :: t := by cases l with | nil => exact absurd rfl hne | cons a t => exact ⟨a, t, rfl⟩
  obtain ⟨c, u, hc⟩ : ∃ c u, (a :: t).reverse = c :: u := by
    cases h : (a :: t).reverse with
    | nil => simp at h
    | cons c u => exact ⟨c, u, rfl⟩
  have hlast : (a :: t).getLastD 0 = c := by
    rw [List.getLastD_eq_getLast?, List.getLast?_eq_head?_reverse, hc]; rfl
  rw [hlast]
  show _ ↔ (H.blank a.toNat = false ∧ H.blank c.toNat = false)
  rw [← H.blank_p, ← H.blank_p]
  unfold Lib.trimS Lib.trimLeftS Lib.trimRightS
  obtain ⟨p, hp⟩ : ∃ p : UInt8 → Bool, (fun x => ([32, 9] : H.T).contains x) = p := ⟨_, rfl⟩
  rw [hp]
  have ea : ([32, 9] : H.T).contains a = p a := by rw [← hp]
  have ec : ([32, 9] : H.T).contains c = p c := by rw [← hp]
  rw [ea, ec]
  constructor
  · intro h
    have l3 := congrArg List.length h
    have l1 := H.dw_len (p := p) (a :: t).reverse
    have l2 := H.dw_len (p := p) ((a :: t).reverse.dropWhile p).reverse
    rw [List.length_reverse] at l1 l2
    have e1 : (a :: t).reverse.dropWhile p = (a :: t).reverse := (List.dropWhile_suffix p).eq_of_length (by rw [List.length_reverse]; omega)
    rw [e1, List.reverse_reverse] at h
    refine ⟨?_, ?_⟩
    · cases hpa : p a with
      | false => rfl
      | true =>
        rw [List.dropWhile_cons, if_pos hpa] at h
        have := congrArg List.length h
        have := H.dw_len (p := p) t
        simp at *
        omega
    · cases hpc : p c with
      | false => rfl
      | true =>
        rw [hc, List.dropWhile_cons, if_pos hpc] at e1
        have := congrArg List.length e1
        have := H.dw_len (p := p) u
        simp at *
        omega
  · rintro ⟨ha, hcc⟩
    rw [hc, List.dropWhile_cons, if_neg (by rw [hcc]; decide), ← hc, List.reverse_reverse, List.dropWhile_cons, if_neg (by rw [ha]; decide)]
theorem H.dvalue_eq (l : H.T) : H.dvalue l = H.isValue l := by
  unfold H.dvalue H.isValue H.isOf
  have e : l.all (fun b => H.dval b.toNat) = l.all (fun b => H.val b.toNat) := by congr 1; funext b; exact H.dval_val _
  rw [e]
  by_cases h : l = []
  · subst h; rfl
  · have hie : l.isEmpty = false := by cases l with | nil => exact absurd rfl h | cons => rfl
    rw [hie]
    have ht := H.trim_iff l h
    by_cases hq : l = Lib.trimS l [32, 9]
    · obtain ⟨a, b⟩ := ht.1 hq
      rw [show decide (l = Lib.trimS l [32, 9]) = true from by simpa using hq, a, b]
      simp
    · rw [show decide (l = Lib.trimS l [32, 9]) = false from by simpa using hq]
      have : (!H.blank (l.headD 0).toNat && !H.blank (l.getLastD 0).toNat) = false := by
        cases h1 : H.blank (l.headD 0).toNat with
        | true => rfl
        | false =>
          cases h2 : H.blank (l.getLastD 0).toNat with
          | true => rfl
          | false => exact absurd (ht.2 ⟨h1, h2⟩) hq
      rw [this]
      simp
theorem dvalue_is (w : World) (l : H.T) (hl : l.length ≤ 281474976710656) : Calls Tryz.prog 80 #[S l] w fun e w' => e = .returned (.bool (H.isValue l)) ∧ w' = w := by
  have := dvalue_any w l hl
  rwa [H.dvalue_eq] at this
theorem H.isWrong_eq (h : H.Hd) : H.isWrong h = (!H.isOf h.name H.tok || H.framing h.name || !H.isValue h.value || decide (4096 < h.name.length + 2 + h.value.length)) := by
  unfold H.isWrong H.framing
  cases H.isOf h.name H.tok <;> cases H.isValue h.value <;> cases H.alike h.name H.lengthN <;> cases H.alike h.name H.codingN <;> rfl
theorem H.any_false {hs : List H.Hd} {x : H.Hd} (hx : x ∈ hs) (h : H.isWrong x = true) : hs.all (fun h => !H.isWrong h) = false := by
  cases e : hs.all (fun h => !H.isWrong h) with
  | false => rfl
  | true => have := List.all_eq_true.1 e x hx; rw [h] at this; cases this
set_option maxHeartbeats 2000000 in
theorem dheads_any (w : World) (hs : List H.Hd) (ad : Option Addr) (cap : Nat) (hH : Hds w ad hs) (hbig : Big hs) (hmx : hs.length ≤ 281474976710656) :
    Calls Tryz.prog 46 #[.slice ad hs.length cap] w fun e w' => e = .returned (.bool (hs.all (fun h => !H.isWrong h) && decide (hs.length ≤ 64))) ∧ Below w.heap.size w w' := by
  obtain ⟨z, hz⟩ : ∃ z : Int, ((hs.length : Nat) : Int) = z := ⟨_, rfl⟩
  have HH := Lib.hid hH
  have Hbig := Lib.hid hbig
  obtain ⟨R, hR⟩ : ∃ R, (hs.all (fun h => !H.isWrong h) && decide (hs.length ≤ 64)) = R := ⟨_, rfl⟩
  have HR := Lib.hid hR
  rw [hR]
  clear hH hbig hR
  go_enter Tryz.func46, Tryz.ntmps46
  go_wp2
  go_loopw [7] (fun u wr => ∃ j : Nat, u = .int .i64 (j : Int) ∧ j ≤ hs.length ∧ (hs.take j).all (fun h => !H.isWrong h) = true ∧ Below w.heap.size w wr) (fun u _ => hs.length - (intOf u).toNat)
  case atStart => exact ⟨0, rfl, Nat.zero_le _, rfl, Below.refl _ _⟩
  case round =>
    obtain ⟨j, rfl, hj, hal, hb⟩ := hrel
    have Hal := Lib.hid hal
    have Hb := Lib.hid hb
    clear hal hb
    by_cases hlt : j < hs.length
    · have hjz : (j : Int) < z := by omega
      have hne : hs ≠ [] := by rintro rfl; simp at hlt
      obtain ⟨g1, o1, rfl, _, k1⟩ := (HH.out.under Hb.out) hne
      obtain ⟨x, hx⟩ : ∃ x, hs[j]? = some x := ⟨_, List.getElem?_eq_getElem hlt⟩
      obtain ⟨p1, p2⟩ := k1 j x hx
      have hxm := List.mem_of_getElem? hx
      obtain ⟨b1, b2⟩ := Hbig.out x hxm
      have ht := fun W => dtoken W x.name (by omega)
      have hf := fun W => framing_any W x.name (by omega)
      have hv := fun W => dvalue_is W x.value (by omega)
      have Hp := Lib.hid (show H.isWrong x = true → R = false from fun h => by rw [← HR.out, H.any_false hxm h]; rfl)
      have Hq := Lib.hid (show H.isWrong x = false → (hs.take (j + 1)).all (fun h => !H.isWrong h) = true from fun h => by rw [List.take_add_one, hx, List.all_append, Hal.out]; simp [h])
      rw [H.isWrong_eq] at Hp Hq
      obtain ⟨q1, hq1⟩ : ∃ q : Int, ((x.name.length : Nat) : Int) = q := ⟨_, rfl⟩
      obtain ⟨q2, hq2⟩ : ∃ q : Int, ((x.value.length : Nat) : Int) = q := ⟨_, rfl⟩
      have hw1 : IntKind.i64.wrap (q1 + 2) = q1 + 2 := by rw [IntKind.wrap_i64]; omega
      have hw2 : IntKind.i64.wrap (q1 + 2 + q2) = q1 + 2 + q2 := by rw [IntKind.wrap_i64]; omega
      clear k1 hx hxm
      cases e1 : H.isOf x.name H.tok with
      | false =>
        rw [e1] at ht Hp
        obtain ⟨Y, hY⟩ : ∃ Y, Y = wr.alloc (.cells #[S x.name, S x.value] 73) := ⟨_, rfl⟩
        have hyk : Y.heap[wr.heap.size]? = some (.cells #[S x.name, S x.value] 73 (0, 0)) := by rw [hY]; exact blk_new wr _
        have hbY : Below wr.heap.size wr Y := by rw [hY]; exact (Below.refl _ wr).alloc (Nat.le_refl _) _
        have K0 := Lib.hid (show Kx w wr.heap.size x.name x.value Y from ⟨hyk, Hb.out.trans (hbY.mono Hb.out.size)⟩)
        obtain ⟨c0, c1⟩ := box2 hyk
        have lc := blk_lt hyk
        clear hbY hyk
        go_upto_region 4 with (fail)
        rw [← hY]
        clear hY
        go_wp2_with (first | (go_at_call 32; refine (ht _).mono ?_; rintro e w1 ⟨rfl, rfl⟩))
        go_ret
        exact ⟨by rw [Hp.out rfl]; rfl, K0.out.bel⟩
      | true =>
        rw [e1] at ht Hp Hq
        cases e2 : H.framing x.name with
        | true =>
          rw [e2] at hf Hp
          obtain ⟨Y, hY⟩ : ∃ Y, Y = wr.alloc (.cells #[S x.name, S x.value] 73) := ⟨_, rfl⟩
          have hyk : Y.heap[wr.heap.size]? = some (.cells #[S x.name, S x.value] 73 (0, 0)) := by rw [hY]; exact blk_new wr _
          have hbY : Below wr.heap.size wr Y := by rw [hY]; exact (Below.refl _ wr).alloc (Nat.le_refl _) _
          have K0 := Lib.hid (show Kx w wr.heap.size x.name x.value Y from ⟨hyk, Hb.out.trans (hbY.mono Hb.out.size)⟩)
          obtain ⟨c0, c1⟩ := box2 hyk
          have lc := blk_lt hyk
          clear hbY hyk
          go_upto_region 4 with (fail)
          rw [← hY]
          clear hY
          go_wp2_with (first | (go_at_call 32; refine (ht _).mono ?_; rintro e w1 ⟨rfl, rfl⟩) | (go_at_call 67; refine (hf _).mono ?_; rintro e w2 ⟨rfl, hb2⟩; have K2 := Lib.hid (K0.out.under hb2); obtain ⟨d0, d1⟩ := K2.out.cells; have ld := blk_lt K2.out.box; clear hb2))
          go_ret
          exact ⟨by rw [Hp.out rfl]; rfl, K2.out.bel⟩
        | false =>
          rw [e2] at hf Hp Hq
          cases e3 : H.isValue x.value with
          | false =>
            rw [e3] at hv Hp
            obtain ⟨Y, hY⟩ : ∃ Y, Y = wr.alloc (.cells #[S x.name, S x.value] 73) := ⟨_, rfl⟩
            have hyk : Y.heap[wr.heap.size]? = some (.cells #[S x.name, S x.value] 73 (0, 0)) := by rw [hY]; exact blk_new wr _
            have hbY : Below wr.heap.size wr Y := by rw [hY]; exact (Below.refl _ wr).alloc (Nat.le_refl _) _
            have K0 := Lib.hid (show Kx w wr.heap.size x.name x.value Y from ⟨hyk, Hb.out.trans (hbY.mono Hb.out.size)⟩)
            obtain ⟨c0, c1⟩ := box2 hyk
            have lc := blk_lt hyk
            clear hbY hyk
            go_upto_region 4 with (fail)
            rw [← hY]
            clear hY
            go_wp2_with (first | (go_at_call 32; refine (ht _).mono ?_; rintro e w1 ⟨rfl, rfl⟩) | (go_at_call 67; refine (hf _).mono ?_; rintro e w2 ⟨rfl, hb2⟩; have K2 := Lib.hid (K0.out.under hb2); obtain ⟨d0, d1⟩ := K2.out.cells; have ld := blk_lt K2.out.box; clear hb2) | (go_at_call 80; refine (hv _).mono ?_; rintro e w3 ⟨rfl, rfl⟩))
            go_ret
            exact ⟨by rw [Hp.out rfl]; rfl, K2.out.bel⟩
          | true =>
            rw [e3] at hv Hp Hq
            by_cases e4 : 4096 < x.name.length + 2 + x.value.length
            · have h4' : (4096 : Int) < q1 + 2 + q2 := by omega
              rw [show decide (4096 < x.name.length + 2 + x.value.length) = true by simpa using e4] at Hp
              clear e4
              obtain ⟨Y, hY⟩ : ∃ Y, Y = wr.alloc (.cells #[S x.name, S x.value] 73) := ⟨_, rfl⟩
              have hyk : Y.heap[wr.heap.size]? = some (.cells #[S x.name, S x.value] 73 (0, 0)) := by rw [hY]; exact blk_new wr _
              have hbY : Below wr.heap.size wr Y := by rw [hY]; exact (Below.refl _ wr).alloc (Nat.le_refl _) _
              have K0 := Lib.hid (show Kx w wr.heap.size x.name x.value Y from ⟨hyk, Hb.out.trans (hbY.mono Hb.out.size)⟩)
              obtain ⟨c0, c1⟩ := box2 hyk
              have lc := blk_lt hyk
              clear hbY hyk
              go_upto_region 4 with (fail)
              rw [← hY]
              clear hY
              go_wp2_with (first | (go_at_call 32; refine (ht _).mono ?_; rintro e w1 ⟨rfl, rfl⟩) | (go_at_call 67; refine (hf _).mono ?_; rintro e w2 ⟨rfl, hb2⟩; have K2 := Lib.hid (K0.out.under hb2); obtain ⟨d0, d1⟩ := K2.out.cells; have ld := blk_lt K2.out.box; clear hb2) | (go_at_call 80; refine (hv _).mono ?_; rintro e w3 ⟨rfl, rfl⟩))
              go_ret
              exact ⟨by rw [Hp.out rfl]; rfl, K2.out.bel⟩
            · have h4' : ¬ (4096 : Int) < q1 + 2 + q2 := by omega
              rw [show decide (4096 < x.name.length + 2 + x.value.length) = false by simpa using e4] at Hq
              clear e4
              obtain ⟨Y, hY⟩ : ∃ Y, Y = wr.alloc (.cells #[S x.name, S x.value] 73) := ⟨_, rfl⟩
              have hyk : Y.heap[wr.heap.size]? = some (.cells #[S x.name, S x.value] 73 (0, 0)) := by rw [hY]; exact blk_new wr _
              have hbY : Below wr.heap.size wr Y := by rw [hY]; exact (Below.refl _ wr).alloc (Nat.le_refl _) _
              have K0 := Lib.hid (show Kx w wr.heap.size x.name x.value Y from ⟨hyk, Hb.out.trans (hbY.mono Hb.out.size)⟩)
              obtain ⟨c0, c1⟩ := box2 hyk
              have lc := blk_lt hyk
              clear hbY hyk
              go_upto_region 4 with (fail)
              rw [← hY]
              clear hY
              go_wp2_with (first | (go_at_call 32; refine (ht _).mono ?_; rintro e w1 ⟨rfl, rfl⟩) | (go_at_call 67; refine (hf _).mono ?_; rintro e w2 ⟨rfl, hb2⟩; have K2 := Lib.hid (K0.out.under hb2); obtain ⟨d0, d1⟩ := K2.out.cells; have ld := blk_lt K2.out.box; clear hb2) | (go_at_call 80; refine (hv _).mono ?_; rintro e w3 ⟨rfl, rfl⟩))
              go_roundw
              case rel => exact ⟨j + 1, by go_num, by omega, Hq.out rfl, K2.out.bel⟩
              case measure => simp [intOf]; omega
    · have hjz : ¬ (j : Int) < z := by omega
      have ha : hs.all (fun h => !H.isWrong h) = true := by have := Hal.out; rwa [List.take_of_length_le (by omega)] at this
      by_cases h64 : hs.length ≤ 64
      · have h64' : z ≤ 64 := by omega
        have hv : R = true := by rw [← HR.out, ha]; simpa using h64
        subst hv
        clear ha
        go_wp2
        go_ret
        exact ⟨rfl, Hb.out⟩
      · have h64' : ¬ z ≤ 64 := by omega
        have hv : R = false := by rw [← HR.out, ha]; simpa using h64
        subst hv
        clear ha
        go_wp2
        go_ret
        exact ⟨rfl, Hb.out⟩
def H.drest (hs : List H.Hd) (body : H.T) : H.T := H.whds hs ++ (H.wlen body ++ 13 :: 10 :: 13 :: 10 :: body)
set_option maxHeartbeats 2000000 in
theorem drest_any (w : World) (hs : List H.Hd) (body : H.T) (ad : Option Addr) (cap : Nat) (hH : Hds w ad hs) (h64 : hs.length ≤ 64) (hal : hs.all (fun h => !H.isWrong h) = true) (hb : body.length ≤ 65536) :
    Calls Tryz.prog 47 #[.slice ad hs.length cap, S body] w fun e w' => e = .returned (S (H.drest hs body)) ∧ Below w.heap.size w w' := by
  obtain ⟨z, hz⟩ : ∃ z : Int, ((hs.length : Nat) : Int) = z := ⟨_, rfl⟩
  obtain ⟨y, hy⟩ : ∃ y : Int, ((body.length : Nat) : Int) = y := ⟨_, rfl⟩
  have HH := Lib.hid hH
  have htl : ∀ j, (H.whds (hs.take j)).length ≤ 4098 * 64 := fun j => by
    have hta : (hs.take j).all (fun h => !H.isWrong h) = true := List.all_eq_true.2 fun h hm => List.all_eq_true.1 hal h (List.mem_of_mem_take hm)
    have := H.whds_le _ hta
    have : (hs.take j).length ≤ 64 := by rw [List.length_take]; omega
    omega
  have hxl : ∀ h ∈ hs, h.name.length + 2 + h.value.length ≤ 4096 := fun h hm => (H.notWrong (by have := List.all_eq_true.1 hal h hm; simpa using this)).2.2.2.2
  have Htl := Lib.hid htl
  have Hxl := Lib.hid hxl
  have Hb := Lib.hid hb
  have hz64 : z ≤ 64 := by omega
  clear htl hxl hal hH hb h64
  go_enter Tryz.func47, Tryz.ntmps47
  go_wp2
  go_loopw [5, 10] (fun s u wr => ∃ j : Nat, u = .int .i64 (j : Int) ∧ j ≤ hs.length ∧ s = S (H.whds (hs.take j)) ∧ Below w.heap.size w wr) (fun s u _ => hs.length - (intOf u).toNat)
  case atStart => exact ⟨0, rfl, Nat.zero_le _, rfl, Below.refl _ _⟩
  case round =>
    obtain ⟨j, rfl, hj, rfl, hb⟩ := hrel
    have Hbw := Lib.hid hb
    clear hb
    by_cases hlt : j < hs.length
    · have hjz : (j : Int) < z := by omega
      have hne : hs ≠ [] := by rintro rfl; simp at hlt
      obtain ⟨g1, o1, rfl, _, k1⟩ := (HH.out.under Hbw.out) hne
      obtain ⟨x, hx⟩ : ∃ x, hs[j]? = some x := ⟨_, List.getElem?_eq_getElem hlt⟩
      obtain ⟨p1, p2⟩ := k1 j x hx
      have hxb := Hxl.out x (List.mem_of_getElem? hx)
      have htj := Htl.out j
      have Hat := Lib.hid (H.whds_at hs j x hx)
      obtain ⟨Y, hY⟩ : ∃ Y, Y = wr.alloc (.cells #[S x.name, S x.value] 73) := ⟨_, rfl⟩
      have hyk : Y.heap[wr.heap.size]? = some (.cells #[S x.name, S x.value] 73 (0, 0)) := by rw [hY]; exact blk_new wr _
      have hbY : Below wr.heap.size wr Y := by rw [hY]; exact (Below.refl _ wr).alloc (Nat.le_refl _) _
      have K0 := Lib.hid (Hbw.out.trans (hbY.mono Hbw.out.size))
      obtain ⟨c0, c1⟩ := box2 hyk
      have lc := blk_lt hyk
      have eA := S_app x.name [58, 32]
      have eB := S_app (x.name ++ [58, 32]) x.value
      have eC := S_app (x.name ++ [58, 32] ++ x.value) [13, 10]
      have eD := S_app (H.whds (hs.take j)) (x.name ++ [58, 32] ++ x.value ++ [13, 10])
      obtain ⟨P, hP⟩ : ∃ P, H.whds (hs.take j) = P := ⟨_, rfl⟩
      rw [hP] at htj Hat eD ⊢
      have l1 : (x.name ++ [58, 32]).length ≤ 5000 := by simp only [List.length_append, List.length_cons, List.length_nil]; omega
      have l2 : (x.name ++ [58, 32] ++ x.value).length ≤ 5000 := by simp only [List.length_append, List.length_cons, List.length_nil]; omega
      have l3 : (x.name ++ [58, 32] ++ x.value ++ [13, 10]).length ≤ 5000 := by simp only [List.length_append, List.length_cons, List.length_nil]; omega
      obtain ⟨f1, g1'⟩ : ∃ f, x.name ++ [58, 32] = f := ⟨_, rfl⟩
      rw [g1'] at eA eB eC eD l1 l2 l3 Hat
      obtain ⟨f2, g2'⟩ : ∃ f, f1 ++ x.value = f := ⟨_, rfl⟩
      rw [g2'] at eB eC eD l2 l3 Hat
      obtain ⟨f3, g3'⟩ : ∃ f, f2 ++ [13, 10] = f := ⟨_, rfl⟩
      rw [g3'] at eC eD l3 Hat
      have eA' : (⟨x.name.toArray⟩ : ByteArray) ++ ⟨#[58, 32]⟩ = ⟨f1.toArray⟩ := eA
      have eC' : (⟨f2.toArray⟩ : ByteArray) ++ ⟨#[13, 10]⟩ = ⟨f3.toArray⟩ := eC
      have nl : x.name.length ≤ 5000 := by omega
      have vl : x.value.length ≤ 5000 := by omega
      clear k1 hx hxb hbY hyk eA eC g1' g2' g3' hP
      go_upto_region 5 with (fail)
      rw [← hY]
      clear hY
      go_wp2
      go_roundw
      case rel => exact ⟨j + 1, by go_num, by omega, by rw [Hat.out], K0.out⟩
      case measure => simp [intOf]; omega
    · have hjz : ¬ (j : Int) < z := by omega
      have htk : hs.take j = hs := List.take_of_length_le (by omega)
      have htj := Htl.out j
      rw [htk] at htj ⊢
      have hnm := fun W => number_any W body.length Hb.out
      rw [hy] at hnm
      have eA := S_app (H.whds hs) [67, 111, 110, 116, 101, 110, 116, 45, 76, 101, 110, 103, 116, 104, 58, 32]
      have eB := S_app (H.whds hs ++ [67, 111, 110, 116, 101, 110, 116, 45, 76, 101, 110, 103, 116, 104, 58, 32]) (Lib.itoa y)
      have eC := S_app (H.whds hs ++ [67, 111, 110, 116, 101, 110, 116, 45, 76, 101, 110, 103, 116, 104, 58, 32] ++ Lib.itoa y) [13, 10, 13, 10]
      have eD := S_app (H.whds hs ++ [67, 111, 110, 116, 101, 110, 116, 45, 76, 101, 110, 103, 116, 104, 58, 32] ++ Lib.itoa y ++ [13, 10, 13, 10]) body
      have hfin : H.drest hs body = H.whds hs ++ [67, 111, 110, 116, 101, 110, 116, 45, 76, 101, 110, 103, 116, 104, 58, 32] ++ Lib.itoa y ++ [13, 10, 13, 10] ++ body := by
        unfold H.drest H.wlen
        rw [hy]
        simp [H.lengthN]
      have hil := itoa_le body.length Hb.out
      rw [hy] at hil
      have hb0 := Hb.out
      obtain ⟨P, hP⟩ : ∃ P, H.whds hs = P := ⟨_, rfl⟩
      rw [hP] at htj eA eB eC eD hfin ⊢
      obtain ⟨I, hI⟩ : ∃ I, Lib.itoa y = I := ⟨_, rfl⟩
      rw [hI] at hnm eB eC eD hil hfin
      have l1 : (P ++ [67, 111, 110, 116, 101, 110, 116, 45, 76, 101, 110, 103, 116, 104, 58, 32]).length ≤ 1000000 := by simp only [List.length_append, List.length_cons, List.length_nil]; omega
      have l2 : (P ++ [67, 111, 110, 116, 101, 110, 116, 45, 76, 101, 110, 103, 116, 104, 58, 32] ++ I).length ≤ 1000000 := by simp only [List.length_append, List.length_cons, List.length_nil]; omega
      have l3 : (P ++ [67, 111, 110, 116, 101, 110, 116, 45, 76, 101, 110, 103, 116, 104, 58, 32] ++ I ++ [13, 10, 13, 10]).length ≤ 1000000 := by simp only [List.length_append, List.length_cons, List.length_nil]; omega
      obtain ⟨f1, g1'⟩ : ∃ f, P ++ [67, 111, 110, 116, 101, 110, 116, 45, 76, 101, 110, 103, 116, 104, 58, 32] = f := ⟨_, rfl⟩
      rw [g1'] at eA eB eC eD l1 l2 l3 hfin
      obtain ⟨f2, g2'⟩ : ∃ f, f1 ++ I = f := ⟨_, rfl⟩
      rw [g2'] at eB eC eD l2 l3 hfin
      obtain ⟨f3, g3'⟩ : ∃ f, f2 ++ [13, 10, 13, 10] = f := ⟨_, rfl⟩
      rw [g3'] at eC eD l3 hfin
      obtain ⟨f4, g4'⟩ : ∃ f, f3 ++ body = f := ⟨_, rfl⟩
      rw [g4'] at eD hfin
      have eA' : (⟨P.toArray⟩ : ByteArray) ++ ⟨#[67, 111, 110, 116, 101, 110, 116, 45, 76, 101, 110, 103, 116, 104, 58, 32]⟩ = ⟨f1.toArray⟩ := eA
      have eC' : (⟨f2.toArray⟩ : ByteArray) ++ ⟨#[13, 10, 13, 10]⟩ = ⟨f3.toArray⟩ := eC
      have Hfin := Lib.hid hfin
      clear eA eC hfin hP hI g1' g2' g3' g4' htk
      go_wp2_with (refine (hnm _).mono ?_; rintro e w2 ⟨rfl, rfl⟩)
      go_ret
      exact ⟨by show Ending.returned (S f4) = _; rw [Hfin.out], Hbw.out⟩
end Go.Proofs.YtjkinjfbjbehjaaGreatDoor

/- HTTP: THE DOCUMENT'S OWN WriteRequest, WriteResponse; HttpWrites. -/
namespace Go.Proofs.YtjkinjfbjbehjaaGreatDoor
open Go.RowKit
set_option maxRecDepth 100000
set_option linter.unusedVariables false
set_option linter.unusedSimpArgs false

theorem H.first_len (m t : H.T) : (H.firstOf m t).length = m.length + t.length + 10 := by
  have h8 : H.version.length = 8 := rfl
  unfold H.firstOf
  simp only [List.length_append, h8, List.length_cons, List.length_nil]
  omega
def cont (t : List UInt8) : ByteArray := ⟨t.toArray⟩
theorem add_run (W : World) (a b : H.T) (h : a.length + b.length ≤ 9223372036854775807) : (Op.stringOp .add ⟨a.toArray⟩ ⟨b.toArray⟩).run Tryz.prog W = .ok (S (a ++ b)) W := by
  rw [run_string_add_sum W _ _ (by have h1 := S_size a; have h2 := S_size b; omega), S_app]
set_option maxHeartbeats 4000000 in
theorem dwriteReq_any (w : World) (q : H.Rq) (ad : Option Addr) (cap : Nat) (hq : RqIn w ad q) :
    Calls Tryz.prog 20 #[.agg #[S q.method, S q.target, .slice ad q.hs.length cap, S q.body]] w fun e w' => e = .returned (.tuple #[S (H.writeReq q).1, .int .i64 (H.writeReq q).2]) ∧ Below w.heap.size w w' := by
  obtain ⟨m, t, hs, body⟩ := q
  simp only
  have hm := hq.m
  have ht := hq.t
  have hbo := hq.b
  simp only at hm ht hbo
  obtain ⟨X, hX⟩ : ∃ X, X = w.alloc (.cells #[S m, S t, .slice ad hs.length cap, S body] 24) := ⟨_, rfl⟩
  have hbX : Below w.heap.size w X := by rw [hX]; exact (Below.refl _ w).alloc (Nat.le_refl _) _
  have hx : X.heap[w.heap.size]? = some (.cells #[S m, S t, .slice ad hs.length cap, S body] 24 (0, 0)) := by rw [hX]; exact blk_new w _
  obtain ⟨c0, c1, c2, c3⟩ := box4 hx
  have hlx := blk_lt hx
  have HQ := Lib.hid (hq.under hbX)
  have Hx := Lib.hid hx
  have HbX := Lib.hid hbX
  have h32 := fun W => dtoken W m (by omega)
  have h33 := fun W => dtarget W t (by omega)
  have h46 := fun W (h : RqIn W ad ⟨m, t, hs, body⟩) => dheads_any W hs ad cap h.hds h.big h.many
  obtain ⟨za, hza⟩ : ∃ z : Int, ((m.length : Nat) : Int) = z := ⟨_, rfl⟩
  obtain ⟨zb, hzb⟩ : ∃ z : Int, ((t.length : Nat) : Int) = z := ⟨_, rfl⟩
  obtain ⟨zc, hzc⟩ : ∃ z : Int, ((body.length : Nat) : Int) = z := ⟨_, rfl⟩
  have hw1 : IntKind.i64.wrap (za + zb) = za + zb := by rw [IntKind.wrap_i64]; omega
  have hw2 : IntKind.i64.wrap (za + zb + 10) = za + zb + 10 := by rw [IntKind.wrap_i64]; omega
  have hfl := H.first_len m t
  have e0 : H.writeReq ⟨m, t, hs, body⟩ = if H.isOf m H.tok && H.isOf t H.tgt then H.writeA (H.firstOf m t) hs body else ([], 13) := rfl
  rw [e0]
  clear e0 hq hx hbX
  cases h1 : H.isOf m H.tok with
  | false =>
    rw [h1] at h32
    simp only [Bool.false_and, Bool.false_eq_true, if_false]
    go_enter Tryz.func20, Tryz.ntmps20
    go_upto_region 1 with (fail)
    rw [← hX]
    clear hX
    go_wp2_with (first | (go_at_call 32; refine (h32 _).mono ?_; rintro e w1 ⟨rfl, rfl⟩))
    go_ret2
    exact ⟨rfl, HbX.out⟩
  | true =>
    rw [h1] at h32
    cases h2 : H.isOf t H.tgt with
    | false =>
      rw [h2] at h33
      simp only [Bool.and_false, Bool.false_eq_true, if_false]
      go_enter Tryz.func20, Tryz.ntmps20
      go_upto_region 1 with (fail)
      rw [← hX]
      clear hX
      go_wp2_with (first | (go_at_call 32; refine (h32 _).mono ?_; rintro e w1 ⟨rfl, rfl⟩) | (go_at_call 33; refine (h33 _).mono ?_; rintro e w1 ⟨rfl, rfl⟩))
      go_ret2
      exact ⟨rfl, HbX.out⟩
    | true =>
      rw [h2] at h33
      simp only [Bool.and_true, if_true]
      by_cases h3 : 4096 < za + zb + 10
      · have e0 : H.writeA (H.firstOf m t) hs body = ([], 13) := by unfold H.writeA; rw [if_neg (fun h => by have := h.1; omega)]
        rw [e0]
        clear e0
        go_enter Tryz.func20, Tryz.ntmps20
        go_upto_region 1 with (fail)
        rw [← hX]
        clear hX
        go_wp2_with (first | (go_at_call 32; refine (h32 _).mono ?_; rintro e w1 ⟨rfl, rfl⟩) | (go_at_call 33; refine (h33 _).mono ?_; rintro e w1 ⟨rfl, rfl⟩))
        go_ret2
        exact ⟨rfl, HbX.out⟩
      · cases h4 : (hs.all (fun h => !H.isWrong h) && decide (hs.length ≤ 64)) with
        | false =>
          rw [h4] at h46
          have e0 : H.writeA (H.firstOf m t) hs body = ([], 13) := by
            unfold H.writeA; rw [if_neg (fun h => ?_)]
            obtain ⟨a, b, c, d⟩ := h
            rw [d] at h4; simp at h4; omega
          rw [e0]
          clear e0 h4
          go_enter Tryz.func20, Tryz.ntmps20
          go_upto_region 1 with (fail)
          rw [← hX]
          clear hX
          go_wp2_with (first | (go_at_call 32; refine (h32 _).mono ?_; rintro e w1 ⟨rfl, rfl⟩) | (go_at_call 33; refine (h33 _).mono ?_; rintro e w1 ⟨rfl, rfl⟩) | (go_at_call 46; refine (h46 _ HQ.out).mono ?_; rintro e w2 ⟨rfl, hb2⟩; have HQ2 := Lib.hid (HQ.out.under hb2); have Hx2 := Lib.hid (blk_under Hx.out hb2); have Hb2 := Lib.hid (HbX.out.trans (hb2.mono HbX.out.size)); obtain ⟨d0, d1, d2, d3⟩ := box4 Hx2.out; have ld := blk_lt Hx2.out; clear hb2))
          go_ret2
          exact ⟨rfl, Hb2.out⟩
        | true =>
          rw [h4] at h46
          simp only [Bool.and_eq_true, decide_eq_true_eq] at h4
          obtain ⟨k1, k2⟩ := h4
          by_cases h5 : 65536 < zc
          · have e0 : H.writeA (H.firstOf m t) hs body = ([], 13) := by unfold H.writeA; rw [if_neg (fun h => by have := h.2.2.1; omega)]
            rw [e0]
            clear e0
            go_enter Tryz.func20, Tryz.ntmps20
            go_upto_region 1 with (fail)
            rw [← hX]
            clear hX
            go_wp2_with (first | (go_at_call 32; refine (h32 _).mono ?_; rintro e w1 ⟨rfl, rfl⟩) | (go_at_call 33; refine (h33 _).mono ?_; rintro e w1 ⟨rfl, rfl⟩) | (go_at_call 46; refine (h46 _ HQ.out).mono ?_; rintro e w2 ⟨rfl, hb2⟩; have HQ2 := Lib.hid (HQ.out.under hb2); have Hx2 := Lib.hid (blk_under Hx.out hb2); have Hb2 := Lib.hid (HbX.out.trans (hb2.mono HbX.out.size)); obtain ⟨d0, d1, d2, d3⟩ := box4 Hx2.out; have ld := blk_lt Hx2.out; clear hb2))
            go_ret2
            exact ⟨rfl, Hb2.out⟩
          · have e0 : H.writeA (H.firstOf m t) hs body = (H.woutH (H.firstOf m t) hs body, 0) := by unfold H.writeA; rw [if_pos ⟨by omega, k2, by omega, k1⟩]
            rw [e0]
            have hrest : ∀ W, RqIn W ad ⟨m, t, hs, body⟩ → Calls Tryz.prog 47 #[.slice ad hs.length cap, S body] W fun e w' => e = .returned (S (H.drest hs body)) ∧ Below W.heap.size W w' := fun W h => drest_any W hs body ad cap h.hds k2 k1 (by omega)
            have hwl : (H.drest hs body).length ≤ 400000 := by
              have h6 := H.woutH_len (H.firstOf m t) hs body ⟨by omega, k2, by omega, k1⟩
              have : (H.woutH (H.firstOf m t) hs body).length = (H.firstOf m t).length + (2 + (H.drest hs body).length) := by unfold H.woutH H.drest; simp only [List.length_append, List.length_cons]; omega
              omega
            have hout : H.woutH (H.firstOf m t) hs body = m ++ [32] ++ t ++ [32, 72, 84, 84, 80, 47, 49, 46, 49, 13, 10] ++ H.drest hs body := by
              unfold H.woutH H.firstOf H.drest
              simp [H.version]
            rw [hout]
            clear e0 hout
            obtain ⟨D, hD⟩ : ∃ D, H.drest hs body = D := ⟨_, rfl⟩
            rw [hD] at hrest hwl ⊢
            have o1 := fun W => add_run W m [32] (by simp only [List.length_cons, List.length_nil]; omega)
            have o2 := fun W => add_run W (m ++ [32]) t (by simp only [List.length_append, List.length_cons, List.length_nil]; omega)
            have o3 := fun W => add_run W (m ++ [32] ++ t) [32, 72, 84, 84, 80, 47, 49, 46, 49, 13, 10] (by simp only [List.length_append, List.length_cons, List.length_nil]; omega)
            have o4 := fun W => add_run W (m ++ [32] ++ t ++ [32, 72, 84, 84, 80, 47, 49, 46, 49, 13, 10]) D (by simp only [List.length_append, List.length_cons, List.length_nil]; omega)
            obtain ⟨f1, g1⟩ : ∃ f, m ++ [32] = f := ⟨_, rfl⟩
            rw [g1] at o1 o2 o3 o4 ⊢
            obtain ⟨f2, g2⟩ : ∃ f, f1 ++ t = f := ⟨_, rfl⟩
            rw [g2] at o2 o3 o4 ⊢
            obtain ⟨f3, g3⟩ : ∃ f, f2 ++ [32, 72, 84, 84, 80, 47, 49, 46, 49, 13, 10] = f := ⟨_, rfl⟩
            rw [g3] at o3 o4 ⊢
            obtain ⟨f4, g4⟩ : ∃ f, f3 ++ D = f := ⟨_, rfl⟩
            rw [g4] at o4 ⊢
            have p1 : ∀ W, (Op.stringOp .add ⟨m.toArray⟩ ⟨#[32]⟩).run Tryz.prog W = .ok (S f1) W := o1
            have p3 : ∀ W, (Op.stringOp .add ⟨f2.toArray⟩ ⟨#[32, 72, 84, 84, 80, 47, 49, 46, 49, 13, 10]⟩).run Tryz.prog W = .ok (S f3) W := o3
            clear o1 o3 g1 g2 g3 g4 hD k1 k2 hwl hfl
            go_enter Tryz.func20, Tryz.ntmps20
            go_upto_region 1 with (fail)
            rw [← hX]
            clear hX
            go_upto_region 3 with (first | (go_at_call 32; refine (h32 _).mono ?_; rintro e w1 ⟨rfl, rfl⟩) | (go_at_call 33; refine (h33 _).mono ?_; rintro e w1 ⟨rfl, rfl⟩) | (go_at_call 46; refine (h46 _ HQ.out).mono ?_; rintro e w2 ⟨rfl, hb2⟩; have HQ2 := Lib.hid (HQ.out.under hb2); have Hx2 := Lib.hid (blk_under Hx.out hb2); have Hb2 := Lib.hid (HbX.out.trans (hb2.mono HbX.out.size)); obtain ⟨d0, d1, d2, d3⟩ := box4 Hx2.out; have ld := blk_lt Hx2.out; clear hb2))
            have hd := (Below.refl w2.heap.size w2).drew
            have Hx0 := Lib.hid (blk_under Hx2.out hd)
            have HQ0 := Lib.hid (HQ2.out.under hd)
            have Hb0 := Lib.hid (Hb2.out.trans (hd.mono Hb2.out.size))
            clear hd
            go_region_held3 (fun w' => w'.cell? ⟨w.heap.size, 0, none⟩ = some (S m) ∧ w'.cell? ⟨w.heap.size, 1, none⟩ = some (S t) ∧ w'.cell? ⟨w.heap.size, 2, none⟩ = some (.slice ad hs.length cap) ∧ w'.cell? ⟨w.heap.size, 3, none⟩ = some (S body)) (first | exact box4 Hx6.out | exact box4 Hx0.out | go_keep) (first | (go_at_call 47; refine (hrest _ HQ0.out).mono ?_; rintro e w6 ⟨rfl, hb6⟩; have Hx6 := Lib.hid (blk_under Hx0.out hb6); have Hb6 := Lib.hid (Hb0.out.trans (hb6.mono Hb0.out.size)); clear hb6))
            all_goals
              go_wp2
              go_ret2
              exact ⟨rfl, Hb6.out⟩
end Go.Proofs.YtjkinjfbjbehjaaGreatDoor

/- HTTP: THE DOCUMENT'S OWN WriteResponse; HttpWrites. -/
namespace Go.Proofs.YtjkinjfbjbehjaaGreatDoor
open Go.RowKit
set_option maxRecDepth 100000
set_option linter.unusedVariables false
set_option linter.unusedSimpArgs false

set_option maxHeartbeats 4000000 in
theorem dwriteRes_any (w : World) (st : Int) (hst : -9223372036854775808 ≤ st ∧ st ≤ 9223372036854775807) (hs : List H.Hd) (body : H.T) (ad : Option Addr) (cap : Nat) (hq : RsIn w ad hs body) :
    Calls Tryz.prog 22 #[.agg #[.int .i64 st, .slice ad hs.length cap, S body]] w fun e w' => e = .returned (.tuple #[S (H.writeRes st hs body).1, .int .i64 (H.writeRes st hs body).2]) ∧ Below w.heap.size w w' := by
  have hbo := hq.b
  obtain ⟨X, hX⟩ : ∃ X, X = w.alloc (.cells #[.int .i64 st, .slice ad hs.length cap, S body] 29) := ⟨_, rfl⟩
  have hbX : Below w.heap.size w X := by rw [hX]; exact (Below.refl _ w).alloc (Nat.le_refl _) _
  have hx : X.heap[w.heap.size]? = some (.cells #[.int .i64 st, .slice ad hs.length cap, S body] 29 (0, 0)) := by rw [hX]; exact blk_new w _
  obtain ⟨c0, c1, c2⟩ := box3 hx
  have hlx := blk_lt hx
  have HQ := Lib.hid (hq.under hbX)
  have Hx := Lib.hid hx
  have HbX := Lib.hid hbX
  have h46 := fun W (h : RsIn W ad hs body) => dheads_any W hs ad cap h.hds h.big h.many
  obtain ⟨zc, hzc⟩ : ∃ z : Int, ((body.length : Nat) : Int) = z := ⟨_, rfl⟩
  clear hq hx hbX
  by_cases h1 : st < 100
  · have e0 : H.writeRes st hs body = ([], 13) := by unfold H.writeRes; rw [if_neg (by omega)]
    rw [e0]
    clear e0
    go_enter Tryz.func22, Tryz.ntmps22
    go_upto_region 1 with (fail)
    rw [← hX]
    clear hX
    go_wp2
    go_ret2
    exact ⟨rfl, HbX.out⟩
  · by_cases h2 : 599 < st
    · have e0 : H.writeRes st hs body = ([], 13) := by unfold H.writeRes; rw [if_neg (by omega)]
      rw [e0]
      clear e0
      go_enter Tryz.func22, Tryz.ntmps22
      go_upto_region 1 with (fail)
      rw [← hX]
      clear hX
      go_wp2
      go_ret2
      exact ⟨rfl, HbX.out⟩
    · obtain ⟨n, rfl⟩ : ∃ n : Nat, st = (n : Int) := ⟨st.toNat, by omega⟩
      have hn1 : 100 ≤ n := by omega
      have hn2 : n ≤ 599 := by omega
      have hfl := H.firstRs_len n hn2
      have e0 : H.writeRes (n : Int) hs body = H.writeA (H.firstRs n) hs body := by unfold H.writeRes; rw [if_pos (by omega)]; rfl
      rw [e0]
      clear e0
      cases h4 : (hs.all (fun h => !H.isWrong h) && decide (hs.length ≤ 64)) with
      | false =>
        rw [h4] at h46
        have e0 : H.writeA (H.firstRs n) hs body = ([], 13) := by
          unfold H.writeA; rw [if_neg (fun h => ?_)]
          obtain ⟨a, b, c, d⟩ := h
          rw [d] at h4; simp at h4; omega
        rw [e0]
        clear e0 h4
        go_enter Tryz.func22, Tryz.ntmps22
        go_upto_region 1 with (fail)
        rw [← hX]
        clear hX
        go_wp2_with (first | (go_at_call 46; refine (h46 _ HQ.out).mono ?_; rintro e w2 ⟨rfl, hb2⟩; have HQ2 := Lib.hid (HQ.out.under hb2); have Hx2 := Lib.hid (blk_under Hx.out hb2); have Hb2 := Lib.hid (HbX.out.trans (hb2.mono HbX.out.size)); obtain ⟨d0, d1, d2⟩ := box3 Hx2.out; have ld := blk_lt Hx2.out; clear hb2))
        go_ret2
        exact ⟨rfl, Hb2.out⟩
      | true =>
        rw [h4] at h46
        simp only [Bool.and_eq_true, decide_eq_true_eq] at h4
        obtain ⟨k1, k2⟩ := h4
        by_cases h5 : 65536 < zc
        · have e0 : H.writeA (H.firstRs n) hs body = ([], 13) := by unfold H.writeA; rw [if_neg (fun h => by have := h.2.2.1; omega)]
          rw [e0]
          clear e0
          go_enter Tryz.func22, Tryz.ntmps22
          go_upto_region 1 with (fail)
          rw [← hX]
          clear hX
          go_wp2_with (first | (go_at_call 46; refine (h46 _ HQ.out).mono ?_; rintro e w2 ⟨rfl, hb2⟩; have HQ2 := Lib.hid (HQ.out.under hb2); have Hx2 := Lib.hid (blk_under Hx.out hb2); have Hb2 := Lib.hid (HbX.out.trans (hb2.mono HbX.out.size)); obtain ⟨d0, d1, d2⟩ := box3 Hx2.out; have ld := blk_lt Hx2.out; clear hb2))
          go_ret2
          exact ⟨rfl, Hb2.out⟩
        · have e0 : H.writeA (H.firstRs n) hs body = (H.woutH (H.firstRs n) hs body, 0) := by unfold H.writeA; rw [if_pos ⟨by omega, k2, by omega, k1⟩]
          rw [e0]
          have hrest : ∀ W, RsIn W ad hs body → Calls Tryz.prog 47 #[.slice ad hs.length cap, S body] W fun e w' => e = .returned (S (H.drest hs body)) ∧ Below W.heap.size W w' := fun W h => drest_any W hs body ad cap h.hds k2 k1 (by omega)
          have hwl : (H.drest hs body).length ≤ 400000 := by
            have h6 := H.woutH_len (H.firstRs n) hs body ⟨by omega, k2, by omega, k1⟩
            have : (H.woutH (H.firstRs n) hs body).length = (H.firstRs n).length + (2 + (H.drest hs body).length) := by unfold H.woutH H.drest; simp only [List.length_append, List.length_cons]; omega
            omega
          have hnm := fun W => number_any W n (by omega)
          have hrs := fun W => dreason W n hn2
          have hout : H.woutH (H.firstRs n) hs body = (H.version ++ [32]) ++ Lib.itoa (n : Int) ++ [32] ++ H.reason n ++ [13, 10] ++ H.drest hs body := by
            unfold H.woutH H.firstRs H.drest
            simp
          have hfe : H.firstRs n = (H.version ++ [32]) ++ Lib.itoa (n : Int) ++ [32] ++ H.reason n := rfl
          rw [hfe] at hfl
          rw [hout]
          clear e0 hout hfe
          obtain ⟨D, hD⟩ : ∃ D, H.drest hs body = D := ⟨_, rfl⟩
          rw [hD] at hrest hwl ⊢
          obtain ⟨I, hI⟩ : ∃ I, Lib.itoa (n : Int) = I := ⟨_, rfl⟩
          rw [hI] at hnm hfl ⊢
          obtain ⟨R, hR⟩ : ∃ R, H.reason n = R := ⟨_, rfl⟩
          rw [hR] at hrs hfl ⊢
          have h9 : (H.version ++ [32]).length = 9 := rfl
          obtain ⟨V, hV⟩ : ∃ V, H.version ++ [32] = V := ⟨_, rfl⟩
          rw [hV] at h9 hfl ⊢
          simp only [List.length_append, List.length_cons, List.length_nil] at hfl
          have o1 := fun W => add_run W V I (by omega)
          have o2 := fun W => add_run W (V ++ I) [32] (by simp only [List.length_append, List.length_cons, List.length_nil]; omega)
          have o3 := fun W => add_run W (V ++ I ++ [32]) R (by simp only [List.length_append, List.length_cons, List.length_nil]; omega)
          have o4 := fun W => add_run W (V ++ I ++ [32] ++ R) [13, 10] (by simp only [List.length_append, List.length_cons, List.length_nil]; omega)
          have o5 := fun W => add_run W (V ++ I ++ [32] ++ R ++ [13, 10]) D (by simp only [List.length_append, List.length_cons, List.length_nil]; omega)
          obtain ⟨f1, g1⟩ : ∃ f, V ++ I = f := ⟨_, rfl⟩
          rw [g1] at o1 o2 o3 o4 o5 ⊢
          obtain ⟨f2, g2⟩ : ∃ f, f1 ++ [32] = f := ⟨_, rfl⟩
          rw [g2] at o2 o3 o4 o5 ⊢
          obtain ⟨f3, g3⟩ : ∃ f, f2 ++ R = f := ⟨_, rfl⟩
          rw [g3] at o3 o4 o5 ⊢
          obtain ⟨f4, g4⟩ : ∃ f, f3 ++ [13, 10] = f := ⟨_, rfl⟩
          rw [g4] at o4 o5 ⊢
          obtain ⟨f5, g5⟩ : ∃ f, f4 ++ D = f := ⟨_, rfl⟩
          rw [g5] at o5 ⊢
          have p1 : ∀ W, (Op.stringOp .add ⟨#[72, 84, 84, 80, 47, 49, 46, 49, 32]⟩ ⟨I.toArray⟩).run Tryz.prog W = .ok (S f1) W := by rw [← hV] at o1; exact o1
          have p2 : ∀ W, (Op.stringOp .add ⟨f1.toArray⟩ ⟨#[32]⟩).run Tryz.prog W = .ok (S f2) W := o2
          have p4 : ∀ W, (Op.stringOp .add ⟨f3.toArray⟩ ⟨#[13, 10]⟩).run Tryz.prog W = .ok (S f4) W := o4
          clear o1 o2 o4 g1 g2 g3 g4 g5 hD hI hR k1 k2 hwl hfl hV h9
          go_enter Tryz.func22, Tryz.ntmps22
          go_upto_region 1 with (fail)
          rw [← hX]
          clear hX
          go_upto_region 3 with (first | (go_at_call 46; refine (h46 _ HQ.out).mono ?_; rintro e w2 ⟨rfl, hb2⟩; have HQ2 := Lib.hid (HQ.out.under hb2); have Hx2 := Lib.hid (blk_under Hx.out hb2); have Hb2 := Lib.hid (HbX.out.trans (hb2.mono HbX.out.size)); obtain ⟨d0, d1, d2⟩ := box3 Hx2.out; have ld := blk_lt Hx2.out; clear hb2))
          have hd := (Below.refl w2.heap.size w2).drew
          have Hx0 := Lib.hid (blk_under Hx2.out hd)
          have HQ0 := Lib.hid (HQ2.out.under hd)
          have Hb0 := Lib.hid (Hb2.out.trans (hd.mono Hb2.out.size))
          clear hd
          go_region_held3 (fun w' => w'.cell? ⟨w.heap.size, 0, none⟩ = some (.int .i64 (n : Int)) ∧ w'.cell? ⟨w.heap.size, 1, none⟩ = some (.slice ad hs.length cap) ∧ w'.cell? ⟨w.heap.size, 2, none⟩ = some (S body)) (first | exact box3 Hx6.out | exact box3 Hx0.out | go_keep) (first | (go_at_call 51; refine (hnm _).mono ?_; rintro e w4 ⟨rfl, rfl⟩) | (go_at_call 52; refine (hrs _).mono ?_; rintro e w5 ⟨rfl, rfl⟩) | (go_at_call 47; refine (hrest _ HQ0.out).mono ?_; rintro e w6 ⟨rfl, hb6⟩; have Hx6 := Lib.hid (blk_under Hx0.out hb6); have Hb6 := Lib.hid (Hb0.out.trans (hb6.mono Hb0.out.size)); clear hb6))
          all_goals
            go_wp2
            go_ret2
            exact ⟨rfl, Hb6.out⟩
/-- what holds all the way through -/
structure Ww (w0 : World) (b1 b2 : Array Value) (q : H.Rq) (ad : Option Addr) (hs : List H.Hd) (b : H.T) (ad2 : Option Addr) (W : World) : Prop where
  bel : Below w0.heap.size w0 W
  x1 : W.heap[w0.heap.size]? = some (.cells b1 24 (0, 0))
  x2 : W.heap[w0.heap.size + 1]? = some (.cells b2 29 (0, 0))
  q : RqIn W ad q
  r : RsIn W ad2 hs b
  t : Tabs W
theorem Ww.under {w0 : World} {b1 b2 : Array Value} {q : H.Rq} {ad : Option Addr} {hs : List H.Hd} {b : H.T} {ad2 : Option Addr} {W W' : World} (h : Ww w0 b1 b2 q ad hs b ad2 W) (hb : Below W.heap.size W W') : Ww w0 b1 b2 q ad hs b ad2 W' :=
  ⟨h.bel.trans (hb.mono h.bel.size), blk_under h.x1 hb, blk_under h.x2 hb, h.q.under hb, h.r.under hb, h.t.under hb⟩
set_option maxHeartbeats 4000000 in
theorem writes_any (w : World) (q : H.Rq) (ad : Option Addr) (cap : Nat) (hq : RqIn w ad q) (st : Int) (hst : -9223372036854775808 ≤ st ∧ st ≤ 9223372036854775807) (hs : List H.Hd) (b : H.T) (ad2 : Option Addr) (cap2 : Nat) (hr : RsIn w ad2 hs b) (hT : Tabs w) :
    Calls Tryz.prog 4 #[.agg #[S q.method, S q.target, .slice ad q.hs.length cap, S q.body], .agg #[.int .i64 st, .slice ad2 hs.length cap2, S b]] w fun e w' => e = .returned (.bool true) ∧ Below w.heap.size w w' := by
  obtain ⟨X, hX⟩ : ∃ X, X = (w.alloc (.cells #[S q.method, S q.target, .slice ad q.hs.length cap, S q.body] 24)).alloc (.cells #[.int .i64 st, .slice ad2 hs.length cap2, S b] 29) := ⟨_, rfl⟩
  have hbX : Below w.heap.size w X := by rw [hX]; exact ((Below.refl _ w).alloc (Nat.le_refl _) _).alloc (by simp) _
  have F0 := Lib.hid (show Ww w #[S q.method, S q.target, .slice ad q.hs.length cap, S q.body] #[.int .i64 st, .slice ad2 hs.length cap2, S b] q ad hs b ad2 X from
    ⟨hbX, by rw [hX]; exact blk_alloc (blk_new w _) _, by rw [hX]; exact blk_at (by simp), hq.under hbX, hr.under hbX, hT.under hbX⟩)
  have hw1 := fun W (h : RqIn W ad q) hT => writeReq_any W q ad cap h hT
  have hw2 := fun W (h : RqIn W ad q) => dwriteReq_any W q ad cap h
  have hw3 := fun W (h : RsIn W ad2 hs b) hT => writeRes_any W st hst hs b ad2 cap2 h hT
  have hw4 := fun W (h : RsIn W ad2 hs b) => dwriteRes_any W st hst hs b ad2 cap2 h
  obtain ⟨a1, c1, h1⟩ : ∃ a c, H.writeReq q = (a, c) := ⟨_, _, rfl⟩
  obtain ⟨a2, c2, h2⟩ : ∃ a c, H.writeRes st hs b = (a, c) := ⟨_, _, rfl⟩
  rw [h1] at hw1 hw2
  rw [h2] at hw3 hw4
  have W1 := Lib.hid hw1
  have W2 := Lib.hid hw2
  have W3 := Lib.hid hw3
  have W4 := Lib.hid hw4
  clear hT hq hr hbX hw1 hw2 hw3 hw4 h1 h2
  go_enter Tryz.func4, Tryz.ntmps4
  go_upto_region 1 with (fail)
  rw [← hX]
  clear hX
  obtain ⟨p0, p1, p2, p3⟩ := box4 F0.out.x1
  have l0 := blk_lt F0.out.x1
  go_wp2_with fail
  with_reducible refine (W1.out _ F0.out.q F0.out.t).mono ?_
  rintro e w1 ⟨rfl, hb1⟩
  have F1 := Lib.hid (F0.out.under hb1)
  clear hb1 l0 p0 p1 p2 p3 F0
  obtain ⟨p0, p1, p2, p3⟩ := box4 F1.out.x1
  have l1 := blk_lt F1.out.x1
  go_wp2_with fail
  with_reducible refine (W2.out _ F1.out.q).mono ?_
  rintro e w2 ⟨rfl, hb2⟩
  have F2 := Lib.hid (F1.out.under hb2)
  clear hb2 l1 p0 p1 p2 p3 F1
  obtain ⟨p0, p1, p2⟩ := box3 F2.out.x2
  have l2 := blk_lt F2.out.x2
  go_wp2_with fail
  with_reducible refine (W3.out _ F2.out.r F2.out.t).mono ?_
  rintro e w3 ⟨rfl, hb3⟩
  have F3 := Lib.hid (F2.out.under hb3)
  clear hb3 l2 p0 p1 p2 F2
  obtain ⟨p0, p1, p2⟩ := box3 F3.out.x2
  have l3 := blk_lt F3.out.x2
  go_wp2_with fail
  with_reducible refine (W4.out _ F3.out.r).mono ?_
  rintro e w4 ⟨rfl, hb4⟩
  have F4 := Lib.hid (F3.out.under hb4)
  clear hb4 l3 p0 p1 p2 F3
  go_wp2_with fail
  refine (lives_any w4 F4.out.t).mono ?_
  rintro e w5 ⟨rfl, hb5⟩
  have F5 := Lib.hid (F4.out.under hb5)
  clear hb5 F4
  go_wp2
  go_ret
  exact ⟨rfl, F5.out.bel⟩
end Go.Proofs.YtjkinjfbjbehjaaGreatDoor
