/- THE WALK OVER Read. -/
import Derived.Test.YtnnnnlcpmocnfaaFs
import Derived.Test.YtnnnnlcpmocnfaaMath2
namespace Go.Proofs.Ytnnnnlcpmocnfaa
open Go.RowKit
set_option linter.unusedVariables false
set_option linter.unusedSimpArgs false

/-- what Read answers -/
def ReadPost (s : List UInt8) (w : World) (e : Ending) (w' : World) : Prop :=
  Below w.heap.size w w' ∧ match M.read s with
  | .error x => e = .returned (.tuple #[.slice none 0 0, .int .i64 (x : Int)])
  | .ok fs => ∃ v, e = .returned (.tuple #[v, .int .i64 0]) ∧ FRow w' w.heap.size v fs ∧ (∀ f ∈ fs, Fine f) ∧ fs.length ≤ 4096
theorem readPost_err {s : List UInt8} {w w' : World} {x : Nat} (hb : Below w.heap.size w w') (h : M.read s = .error x) : ReadPost s w (.returned (.tuple #[.slice none 0 0, .int .i64 (x : Int)])) w' := ⟨hb, by rw [h]⟩

set_option maxHeartbeats 1000000 in
theorem read_any (s : List UInt8) (w : World) (hs : s.length ≤ 9223372036854775807) : Calls Try.prog 22 #[.string ⟨s.toArray⟩] w (ReadPost s w) := by
  by_cases hl : 65536 < s.length
  · have hr : M.read s = .error 4 := by rw [M.read, if_pos hl]
    have Hr := Lib.hid hr
    clear hr
    go_enter Try.func22, Try.ntmps22
    go_wp2
    go_ret2
    exact readPost_err (Below.refl _ _) Hr.out
  · have hl' : s.length ≤ 65536 := by omega
    have hf := fields_any s w hl'
    have Hf := Lib.hid hf
    clear hf
    have hbl : (s.length : Int) ≤ 65536 := by omega
    clear hl
    cases hp : M.parse s with
    | error x =>
      have hr : M.read s = .error x := by rw [M.read, if_neg (by omega), hp]
      have hx := M.parse_err_is s.length s (Nat.le_refl _) x hp
      have hf2 : Calls Try.prog 36 #[.string ⟨s.toArray⟩] w fun e w' => e = .returned (.tuple #[.slice none 0 0, .int .i64 (x : Int)]) ∧ Below w.heap.size w w' :=
        Hf.out.mono fun e w' h => by have h2 := h.2; rw [hp] at h2; exact ⟨h2, h.1⟩
      have Hf2 := Lib.hid hf2
      have Hr := Lib.hid hr
      clear hr hf2 Hf hp
      rcases hx with rfl | rfl
      all_goals
        go_enter Try.func22, Try.ntmps22
        go_wp2_with fail
        refine (Hf2.out).mono ?_
        rintro e w' ⟨rfl, hb⟩
        go_wp2
        go_ret2
        exact readPost_err hb Hr.out
    | ok fs =>
      by_cases hbig : 4096 < fs.length
      · have hr : M.read s = .error 3 := by rw [M.read, if_neg (by omega), hp]; simp [hbig]
        have hf2 : Calls Try.prog 36 #[.string ⟨s.toArray⟩] w fun e w' => (∃ ad cap, e = .returned (.tuple #[.slice ad fs.length cap, .int .i64 0])) ∧ Below w.heap.size w w' :=
          Hf.out.mono fun e w' h => by
            have h2 := h.2
            rw [hp] at h2
            obtain ⟨v, he, hrow, _⟩ := h2
            obtain ⟨ad, cap, rfl⟩ := hrow.form
            exact ⟨⟨ad, cap, he⟩, h.1⟩
        have hfl : fs.length ≤ 65536 ∨ 65536 < fs.length := by omega
        have Hf2 := Lib.hid hf2
        have Hr := Lib.hid hr
        have hb2 : (4096 : Int) < (fs.length : Int) := by omega
        clear hr hf2 Hf hp hbig hfl
        go_enter Try.func22, Try.ntmps22
        go_wp2_with fail
        refine (Hf2.out).mono ?_
        rintro e w' ⟨⟨ad, cap, rfl⟩, hb⟩
        go_wp2
        go_ret2
        exact readPost_err hb Hr.out
      · have hr : M.read s = .ok fs := by rw [M.read, if_neg (by omega), hp]; simp [hbig]
        have hf2 : Calls Try.prog 36 #[.string ⟨s.toArray⟩] w fun e w' => ∃ ad cap, e = .returned (.tuple #[.slice ad fs.length cap, .int .i64 0]) ∧ ReadPost s w (.returned (.tuple #[.slice ad fs.length cap, .int .i64 0])) w' :=
          Hf.out.mono fun e w' h => by
            have h2 := h.2
            rw [hp] at h2
            obtain ⟨v, he, hrow, hfine, hlen⟩ := h2
            obtain ⟨ad, cap, rfl⟩ := hrow.form
            exact ⟨ad, cap, he, h.1, by rw [hr]; exact ⟨_, rfl, hrow, hfine, by omega⟩⟩
        have Hf2 := Lib.hid hf2
        have hb2 : (fs.length : Int) ≤ 4096 := by omega
        clear hr hf2 Hf hp hbig
        go_enter Try.func22, Try.ntmps22
        go_wp2_with fail
        refine (Hf2.out).mono ?_
        rintro e w' ⟨ad, cap, rfl, hb⟩
        have Hb := Lib.hid hb
        clear hb
        go_wp2
        go_ret2
        exact Hb.out
end Go.Proofs.Ytnnnnlcpmocnfaa
