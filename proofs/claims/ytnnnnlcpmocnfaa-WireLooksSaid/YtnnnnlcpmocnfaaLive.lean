/- THE WALK OVER lives. -/
import Derived.Test.YtnnnnlcpmocnfaaRead
namespace Go.Proofs.Ytnnnnlcpmocnfaa
open Go.RowKit
set_option linter.unusedVariables false
set_option linter.unusedSimpArgs false

theorem vnum8 : M.vnum 8 = [8] := by rw [M.vnum_lt (by decide)]; rfl
theorem vnum150 : M.vnum 150 = [150, 1] := by rw [M.vnum_ge (by decide), M.vnum_lt (by decide)]; rfl
theorem vnum300 : M.vnum 300 = [172, 2] := by rw [M.vnum_ge (by decide), M.vnum_lt (by decide)]; rfl
def f150 : M.Fd := ⟨1, 0, 150, []⟩
theorem wr150 : M.wr [f150] = (0, [8, 150, 1]) := by
  have he : M.enc [f150] = [8, 150, 1] := by
    rw [M.enc_cons, M.enc_nil, M.enc1, M.key, M.body]
    show (M.vnum 8 ++ M.vnum 150) ++ [] = _
    rw [vnum8, vnum150]
    rfl
  rw [M.wr, he]
  rfl
theorem read150 : M.read [8, 150, 1] = .ok [f150] := by
  have h1 : M.parse1 [8, 150, 1] = .ok (f150, []) := rfl
  have h2 : M.parse [8, 150, 1] = .ok [f150] := by rw [M.parse_ok (by decide) h1, M.parse_nil]
  rw [M.read, if_neg (by decide), h2]
  rfl
theorem read15 : M.read [15] = .error 10 := by
  have h1 : M.parse1 [15] = .error 10 := rfl
  have h2 : M.parse [15] = .error 10 := by rw [M.parse_err (by decide) h1]
  rw [M.read, if_neg (by decide), h2]

theorem write_one (w : World) : Calls Try.prog 20 #[.slice (some ⟨w.heap.size, 0, none⟩) 1 1] (w.alloc (.cells #[.int .i64 1, .int .u8 0, .int .u64 150, .string ⟨#[]⟩] 39)) fun e w' =>
    e = .returned (.tuple #[.string ⟨#[8, 150, 1]⟩, .int .i64 0]) ∧ Below w.heap.size w w' := by
  have hx := box4 (blk_new w (.cells #[.int .i64 1, .int .u8 0, .int .u64 150, .string ⟨#[]⟩] 39))
  have hfl : Flds (w.alloc (.cells #[.int .i64 1, .int .u8 0, .int .u64 150, .string ⟨#[]⟩] 39)) (w.alloc (.cells #[.int .i64 1, .int .u8 0, .int .u64 150, .string ⟨#[]⟩] 39)).heap.size (some ⟨w.heap.size, 0, none⟩) [f150] := by
    refine ⟨by decide, fun _ => ⟨w.heap.size, 0, rfl, by simp, fun i f hf => ?_⟩⟩
    match i, hf with
    | 0, hf =>
      simp at hf
      subst hf
      exact ⟨1, 0, 150, [], ⟨rfl, by decide, by decide, by decide, by decide, by decide, by decide, by decide⟩, ⟨hx.1, hx.2.1, hx.2.2.1, hx.2.2.2⟩⟩
  have h := write_short _ (some ⟨w.heap.size, 0, none⟩) 1 1 [f150] rfl hfl (by decide)
  rw [wr150] at h
  exact h.mono fun e w' ⟨he, hb⟩ => ⟨he, ((Below.refl _ _).alloc (Nat.le_refl _) _).trans (hb.mono (by simp))⟩

theorem read_one (w : World) : Calls Try.prog 22 #[.string ⟨#[8, 150, 1]⟩] w fun e w' => ∃ g off cap, e = .returned (.tuple #[.slice (some ⟨g, off, none⟩) 1 cap, .int .i64 0]) ∧ w'.cell? ⟨g, off + 2, none⟩ = some (.int .u64 150) ∧ g < w'.heap.size ∧ Below w.heap.size w w' := by
  refine (read_any [8, 150, 1] w (by decide)).mono fun e w' h => ?_
  obtain ⟨hb, h⟩ := h
  rw [read150] at h
  obtain ⟨v, he, hrow, hfine, _⟩ := h
  obtain ⟨ad, cap, rfl, hfl⟩ := hrow.flds hfine (by decide)
  obtain ⟨g, off, rfl, hg, hi⟩ := hfl.2 (by simp)
  obtain ⟨a, b, c, l, hfit, hat⟩ := hi 0 f150 rfl
  have hu := hfit.uniq (⟨rfl, by decide, by decide, by decide, by decide, by decide, by decide, by decide⟩ : Fit f150 1 0 150 [])
  obtain ⟨rfl, rfl, rfl, rfl⟩ := hu
  exact ⟨g, off, cap, he, by simpa using hat.q2, hg, hb⟩
theorem read_bad (w : World) : Calls Try.prog 22 #[.string ⟨#[15]⟩] w fun e w' => e = .returned (.tuple #[.slice none 0 0, .int .i64 10]) ∧ Below w.heap.size w w' := by
  refine (read_any [15] w (by decide)).mono fun e w' h => ?_
  obtain ⟨hb, h⟩ := h
  rw [read15] at h
  exact ⟨h, hb⟩

theorem num300 (w : World) : Calls Try.prog 14 #[.int .u64 300] w fun e w' => e = .returned (.string ⟨#[172, 2]⟩) ∧ Below w.heap.size w w' :=
  (num_any 300 w (by decide) (by decide)).mono fun e w' ⟨he, hb⟩ => ⟨by rw [he, show (300 : Int).toNat = 300 from rfl, vnum300], hb⟩
theorem zigm1 (w : World) : Calls Try.prog 16 #[.int .i64 (-1)] w fun e w' => e = .returned (.int .u64 1) ∧ w = w' := zig_any (-1) w (by decide) (by decide)
theorem zag3 (w : World) : Calls Try.prog 18 #[.int .u64 3] w fun e w' => e = .returned (.int .i64 (-2)) ∧ w = w' := zag_any 3 w (by decide) (by decide)

set_option maxHeartbeats 2000000 in
theorem lives_any (w : World) : Calls Try.prog 13 #[] w fun e w' => e = .returned (.bool true) ∧ Below w.heap.size w w' := by
  go_enter Try.func13, Try.ntmps13
  go_wp2_with fail
  refine (write_one w).mono ?_
  rintro e w1 ⟨rfl, hb1⟩
  have Hb1 := Lib.hid hb1
  clear hb1
  go_wp2_with fail
  refine (read_one w1).mono ?_
  rintro e w2 ⟨g, off, cap, rfl, hc2, hg2, hb2⟩
  have Hb2 := Lib.hid hb2
  clear hb2
  go_wp2_with fail
  refine (read_bad w2).mono ?_
  rintro e w3 ⟨rfl, hb3⟩
  have hc3 : w3.cell? ⟨g, off + 2, none⟩ = some (.int .u64 150) := (hb3.cell (p := ⟨g, off + 2, none⟩) hg2).trans hc2
  have Hb3 := Lib.hid hb3
  clear hb3 hc2 hg2
  go_wp2_with fail
  refine (num300 w3).mono ?_
  rintro e w4 ⟨rfl, hb4⟩
  have Hb4 := Lib.hid hb4
  clear hb4
  go_wp2_with fail
  refine (zigm1 w4).mono ?_
  rintro e w' ⟨rfl, rfl⟩
  go_wp2_with fail
  refine (zag3 w4).mono ?_
  rintro e w' ⟨rfl, rfl⟩
  go_wp2
  go_ret
  have h1 := Hb1.out
  have h2 := Hb2.out.mono h1.size
  have h3 := Hb3.out.mono (Nat.le_trans h1.size Hb2.out.size)
  have h4 := Hb4.out.mono (Nat.le_trans (Nat.le_trans h1.size Hb2.out.size) Hb3.out.size)
  exact ⟨rfl, ((h1.trans h2).trans h3).trans h4⟩
end Go.Proofs.Ytnnnnlcpmocnfaa
