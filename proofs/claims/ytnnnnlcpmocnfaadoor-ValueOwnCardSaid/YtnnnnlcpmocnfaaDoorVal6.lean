/- THE WALK OVER value's lives. -/
import Derived.Test.YtnnnnlcpmocnfaaDoorVal5
namespace Go.Proofs.YtnnnnlcpmocnfaaDoor
open Go.RowKit
set_option linter.unusedVariables false
set_option linter.unusedSimpArgs false

theorem vnum24 : M.vnum 24 = [24] := by rw [M.vnum_lt (by decide)]; rfl
theorem vstep (n q r : Nat) (l : List UInt8) (hn : n = 128 * q + r) (hr : r < 128) (hq : 1 ≤ q) (hl : M.vnum q = l) : M.vnum n = M.by8 (r + 128) :: l := by
  rw [M.vnum_ge (by omega), show n % 128 = r by omega, show n / 128 = q by omega, hl]
theorem by255 : M.by8 (127 + 128) = 255 := rfl
theorem vn0 : M.vnum 1 = [1] := by rw [M.vnum_lt (by decide)]; rfl
theorem vn1 : M.vnum 255 = [255, 1] := (vstep 255 1 127 [1] (by omega) (by omega) (by omega) vn0).trans (by rw [by255])
theorem vn2 : M.vnum 32767 = [255, 255, 1] := (vstep 32767 255 127 [255, 1] (by omega) (by omega) (by omega) vn1).trans (by rw [by255])
theorem vn3 : M.vnum 4194303 = [255, 255, 255, 1] := (vstep 4194303 32767 127 [255, 255, 1] (by omega) (by omega) (by omega) vn2).trans (by rw [by255])
theorem vn4 : M.vnum 536870911 = [255, 255, 255, 255, 1] := (vstep 536870911 4194303 127 [255, 255, 255, 1] (by omega) (by omega) (by omega) vn3).trans (by rw [by255])
theorem vn5 : M.vnum 68719476735 = [255, 255, 255, 255, 255, 1] := (vstep 68719476735 536870911 127 [255, 255, 255, 255, 1] (by omega) (by omega) (by omega) vn4).trans (by rw [by255])
theorem vn6 : M.vnum 8796093022207 = [255, 255, 255, 255, 255, 255, 1] := (vstep 8796093022207 68719476735 127 [255, 255, 255, 255, 255, 1] (by omega) (by omega) (by omega) vn5).trans (by rw [by255])
theorem vn7 : M.vnum 1125899906842623 = [255, 255, 255, 255, 255, 255, 255, 1] := (vstep 1125899906842623 8796093022207 127 [255, 255, 255, 255, 255, 255, 1] (by omega) (by omega) (by omega) vn6).trans (by rw [by255])
theorem vn8 : M.vnum 144115188075855871 = [255, 255, 255, 255, 255, 255, 255, 255, 1] := (vstep 144115188075855871 1125899906842623 127 [255, 255, 255, 255, 255, 255, 255, 1] (by omega) (by omega) (by omega) vn7).trans (by rw [by255])
theorem vn9 : M.vnum 18446744073709551615 = [255, 255, 255, 255, 255, 255, 255, 255, 255, 1] := (vstep 18446744073709551615 144115188075855871 127 [255, 255, 255, 255, 255, 255, 255, 255, 1] (by omega) (by omega) (by omega) vn8).trans (by rw [by255])
theorem vnumm1 : M.vnum 18446744073709551615 = [255, 255, 255, 255, 255, 255, 255, 255, 255, 1] := vn9
theorem encm1 : M.enc1 ⟨3, 0, 18446744073709551615, []⟩ = [24, 255, 255, 255, 255, 255, 255, 255, 255, 255, 1] := by
  have hk : M.key ⟨3, 0, 18446744073709551615, []⟩ = 24 := by simp [M.key]
  have hb : M.body ⟨3, 0, 18446744073709551615, []⟩ = M.vnum 18446744073709551615 := by unfold M.body; rw [if_pos rfl]
  rw [M.enc1, hk, hb, vnum24, vnumm1]
  rfl
theorem write_m1 (w : World) : Calls Tryd.prog 33 #[.agg (nv 3 (-1) 0)] w fun e w' => e = .returned (.tuple #[.string ⟨#[24, 255, 255, 255, 255, 255, 255, 255, 255, 255, 1]⟩, .int .i64 0]) ∧ Below w.heap.size w w' := by
  have h := write_num w 3 (-1) 0 (M.enc1 ⟨3, 0, 18446744073709551615, []⟩) (fun w => check_num 3 (-1) 0 0 w (.inl rfl) (by omega) (bare_int (-1))) (fun w => written_m1 w)
  rw [encm1] at h
  exact h.mono fun e w' ⟨he, hb⟩ => ⟨he, hb⟩
theorem hash_a (w : World) : Calls Tryd.prog 31 #[.string ⟨#[97]⟩] w fun e w' => e = .returned (.int .u64 12638187200555641996) ∧ w = w' := by
  have h := hash_any [97] w (by decide)
  have e : hashI [97] = 12638187200555641996 := by kernel_rfl
  rw [e] at h
  exact h
theorem cmp_zeros (w : World) : Calls Tryd.prog 13 #[.agg (nv 4 0 0), .agg (nv 4 0 9223372036854775808)] w fun e w' => e = .returned (.tuple #[.int .i64 0, .bool true]) ∧ Below w.heap.size w w' :=
  cmp_ff 0 9223372036854775808 .eq w (by kernel_rfl) (by kernel_rfl) (by kernel_rfl)
theorem cmp_nans (w : World) : Calls Tryd.prog 13 #[.agg (nv 4 0 9221120237041090561), .agg (nv 4 0 9221120237041090561)] w fun e w' => e = .returned (.tuple #[.int .i64 0, .bool false]) ∧ Below w.heap.size w w' :=
  cmp_nan 9221120237041090561 9221120237041090561 w (.inl (by kernel_rfl))

set_option maxRecDepth 100000 in
set_option maxHeartbeats 4000000 in
theorem lives_any (w : World) : Calls Tryd.prog 15 #[] w fun e w' => e = .returned (.bool true) ∧ Below w.heap.size w w' := by
  go_enter Tryd.func15, Tryd.ntmps15
  go_wp2_with fail
  refine (whole_any _ _).mono ?_
  rintro e w1 ⟨rfl, hb1⟩
  have Hb1 := Lib.hid hb1
  clear hb1
  go_wp2_with fail
  refine (part_any _ _).mono ?_
  rintro e w2 ⟨rfl, hb2⟩
  have Hb2 := Lib.hid (Hb1.out.trans (hb2.mono Hb1.out.size))
  clear hb2
  go_wp2_with fail
  refine (cmp_live _).mono ?_
  rintro e w3 ⟨rfl, hb3⟩
  have Hb3 := Lib.hid (Hb2.out.trans (hb3.mono Hb2.out.size))
  clear hb3
  go_wp2_with fail
  refine (part_any _ _).mono ?_
  rintro e w4 ⟨rfl, hb4⟩
  have Hb4 := Lib.hid (Hb3.out.trans (hb4.mono Hb3.out.size))
  clear hb4
  go_wp2_with fail
  refine (copysign_live _).mono ?_
  rintro e w' ⟨rfl, rfl⟩
  go_wp2_with fail
  refine (part_any _ _).mono ?_
  rintro e w5 ⟨rfl, hb5⟩
  have Hb5 := Lib.hid (Hb4.out.trans (hb5.mono Hb4.out.size))
  clear hb5
  go_wp2_with fail
  refine (cmp_zeros _).mono ?_
  rintro e w6 ⟨rfl, hb6⟩
  have Hb6 := Lib.hid (Hb5.out.trans (hb6.mono Hb5.out.size))
  clear hb6
  go_wp2_with fail
  refine (nan_any _).mono ?_
  rintro e w' ⟨rfl, rfl⟩
  go_wp2_with fail
  refine (part_any _ _).mono ?_
  rintro e w7 ⟨rfl, hb7⟩
  have Hb7 := Lib.hid (Hb6.out.trans (hb7.mono Hb6.out.size))
  clear hb7
  go_wp2_with fail
  refine (nan_any _).mono ?_
  rintro e w' ⟨rfl, rfl⟩
  go_wp2_with fail
  refine (part_any _ _).mono ?_
  rintro e w8 ⟨rfl, hb8⟩
  have Hb8 := Lib.hid (Hb7.out.trans (hb8.mono Hb7.out.size))
  clear hb8
  go_wp2_with fail
  refine (cmp_nans _).mono ?_
  rintro e w9 ⟨rfl, hb9⟩
  have Hb9 := Lib.hid (Hb8.out.trans (hb9.mono Hb8.out.size))
  clear hb9
  go_wp2_with fail
  refine (whole_any _ _).mono ?_
  rintro e w10 ⟨rfl, hb10⟩
  have Hb10 := Lib.hid (Hb9.out.trans (hb10.mono Hb9.out.size))
  clear hb10
  go_wp2_with fail
  refine (write_m1 _).mono ?_
  rintro e w11 ⟨rfl, hb11⟩
  have Hb11 := Lib.hid (Hb10.out.trans (hb11.mono Hb10.out.size))
  clear hb11
  go_wp2_with fail
  refine (hash_a _).mono ?_
  rintro e w' ⟨rfl, rfl⟩
  go_wp2
  go_ret
  exact ⟨rfl, Hb11.out⟩
end Go.Proofs.YtnnnnlcpmocnfaaDoor
