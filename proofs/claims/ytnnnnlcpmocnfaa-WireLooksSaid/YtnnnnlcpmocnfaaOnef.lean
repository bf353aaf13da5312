/- THE WALKS OVER THE DOCUMENT's OWN one, Size. -/
import Derived.Test.YtnnnnlcpmocnfaaReff
namespace Go.Proofs.Ytnnnnlcpmocnfaa
open Go.RowKit
set_option linter.unusedVariables false
set_option linter.unusedSimpArgs false

theorem run_cat (xs ys : List UInt8) (h : xs.length + ys.length ≤ 9223372036854775807) (W : World) : (Op.stringOp .add ⟨xs.toArray⟩ ⟨ys.toArray⟩).run Try.prog W = .ok (.string ⟨(xs ++ ys).toArray⟩) W := by
  rw [run_string_add_sum W _ _ (by simp [ByteArray.size]; omega), ByteArray.mk_append_mk]

set_option maxHeartbeats 4000000 in
theorem one_any (a b c : Int) (l : List UInt8) (w : World) (hb0 : 0 ≤ b) (hb1 : b ≤ 255) (hc0 : 0 ≤ c) (hc1 : c ≤ 18446744073709551615) (hm : M.may ⟨a, b.toNat, c.toNat, l⟩ = true) :
    Calls Try.prog 35 #[.agg (fcells a b c l)] w fun e w' => e = .returned (.string ⟨(M.enc1 ⟨a, b.toNat, c.toNat, l⟩).toArray⟩) ∧ Below w.heap.size w w' := by
  obtain ⟨h1, h2, hcase⟩ := may_cases hb0 hc0 hm
  clear hm
  obtain ⟨en, hen⟩ : ∃ en, M.enc1 ⟨a, b.toNat, c.toNat, l⟩ = en := ⟨_, rfl⟩
  rw [hen]
  obtain ⟨ks, hks⟩ : ∃ ks, ks = M.vnum (a * 8 + b).toNat := ⟨_, rfl⟩
  have hr2 : en = ks ++ M.body ⟨a, b.toNat, c.toNat, l⟩ := by
    rw [← hen, M.enc1, M.key, hks]
    congr 2
    simp only
    omega
  have hcall : ∀ W, Calls Try.prog 15 #[.int .u64 (a * 8 + b)] W fun e w' => e = .returned (.string ⟨ks.toArray⟩) ∧ Below W.heap.size W w' := fun W => by
    rw [hks]; exact rnum_any _ W (by omega) (by omega)
  have hkl : ks.length ≤ 10 := by rw [hks]; exact M.vnum_len10 _ (by omega)
  have Hr := Lib.hid hr2
  have Hcall := Lib.hid hcall
  clear hr2 hen hks hcall
  rcases hcase with ⟨rfl, rfl⟩ | ⟨rfl, rfl⟩ | ⟨rfl, rfl, hcl⟩ | ⟨rfl, rfl, hll⟩
  · have hk0 := Hcall.out
    simp only [Int.add_zero] at hk0
    clear Hcall
    have Hcall := Lib.hid hk0
    clear hk0
    obtain ⟨xs, hxs⟩ : ∃ xs, xs = M.vnum c.toNat := ⟨_, rfl⟩
    have hc2 : ∀ W, Calls Try.prog 15 #[.int .u64 c] W fun e w' => e = .returned (.string ⟨xs.toArray⟩) ∧ Below W.heap.size W w' := fun W => by
      rw [hxs]; exact rnum_any _ W (by omega) (by omega)
    have hxl : xs.length ≤ 10 := by rw [hxs]; exact M.vnum_len10 _ (by omega)
    have hcat := run_cat ks xs (by omega)
    have Hc2 := Lib.hid hc2
    have Hxs := Lib.hid hxs
    clear hc2 hxs hkl hxl
    go_enter Try.func35, Try.ntmps35
    go_wp2_with fail
    refine (Hcall.out _).mono ?_
    rintro e w1 ⟨rfl, hb1'⟩
    have hx1 := (hb1'.block w.heap.size (by simp)).trans (blk_new w _)
    obtain ⟨q0, q1, q2, q3⟩ := box4 hx1
    have Hb1 := Lib.hid (((Below.refl _ w).alloc (Nat.le_refl _) _).trans (hb1'.mono (by simp)))
    clear hb1' hx1
    go_wp2_with fail
    refine (Hc2.out _).mono ?_
    rintro e w2 ⟨rfl, hb2⟩
    have Hb2 := Lib.hid (Hb1.out.trans (hb2.mono Hb1.out.size))
    clear hb2
    go_wp2
    go_ret
    refine ⟨?_, Hb2.out⟩
    rw [Hr.out, M.body, Hxs.out]
    rfl
  · obtain ⟨xs, hxs⟩ : ∃ xs, xs = M.le 8 c.toNat := ⟨_, rfl⟩
    have hc2 : ∀ W, Calls Try.prog 41 #[.int .u64 c, .int .i64 8] W fun e w' => e = .returned (.string ⟨xs.toArray⟩) ∧ Below W.heap.size W w' := fun W => by
      rw [hxs]; exact low_any c 8 W (by omega) (by omega) (by omega)
    have hxl : xs.length ≤ 10 := by rw [hxs]; rw [M.le_len]; omega
    have hcat := run_cat ks xs (by omega)
    have Hc2 := Lib.hid hc2
    have Hxs := Lib.hid hxs
    clear hc2 hxs hkl hxl
    go_enter Try.func35, Try.ntmps35
    go_wp2_with fail
    refine (Hcall.out _).mono ?_
    rintro e w1 ⟨rfl, hb1'⟩
    have hx1 := (hb1'.block w.heap.size (by simp)).trans (blk_new w _)
    obtain ⟨q0, q1, q2, q3⟩ := box4 hx1
    have Hb1 := Lib.hid (((Below.refl _ w).alloc (Nat.le_refl _) _).trans (hb1'.mono (by simp)))
    clear hb1' hx1
    go_wp2_with fail
    refine (Hc2.out _).mono ?_
    rintro e w2 ⟨rfl, hb2⟩
    have Hb2 := Lib.hid (Hb1.out.trans (hb2.mono Hb1.out.size))
    clear hb2
    go_wp2
    go_ret
    refine ⟨?_, Hb2.out⟩
    rw [Hr.out, M.body, Hxs.out]
    rfl
  · obtain ⟨xs, hxs⟩ : ∃ xs, xs = M.le 4 c.toNat := ⟨_, rfl⟩
    have hc2 : ∀ W, Calls Try.prog 41 #[.int .u64 c, .int .i64 4] W fun e w' => e = .returned (.string ⟨xs.toArray⟩) ∧ Below W.heap.size W w' := fun W => by
      rw [hxs]; exact low_any c 4 W (by omega) (by omega) (by omega)
    have hxl : xs.length ≤ 10 := by rw [hxs]; rw [M.le_len]; omega
    have hcat := run_cat ks xs (by omega)
    have Hc2 := Lib.hid hc2
    have Hxs := Lib.hid hxs
    clear hc2 hxs hkl hxl
    go_enter Try.func35, Try.ntmps35
    go_wp2_with fail
    refine (Hcall.out _).mono ?_
    rintro e w1 ⟨rfl, hb1'⟩
    have hx1 := (hb1'.block w.heap.size (by simp)).trans (blk_new w _)
    obtain ⟨q0, q1, q2, q3⟩ := box4 hx1
    have Hb1 := Lib.hid (((Below.refl _ w).alloc (Nat.le_refl _) _).trans (hb1'.mono (by simp)))
    clear hb1' hx1
    go_wp2_with fail
    refine (Hc2.out _).mono ?_
    rintro e w2 ⟨rfl, hb2⟩
    have Hb2 := Lib.hid (Hb1.out.trans (hb2.mono Hb1.out.size))
    clear hb2
    go_wp2
    go_ret
    refine ⟨?_, Hb2.out⟩
    rw [Hr.out, M.body, Hxs.out]
    rfl
  · obtain ⟨xs, hxs⟩ : ∃ xs, xs = M.vnum l.length := ⟨_, rfl⟩
    have hc2 : ∀ W, Calls Try.prog 15 #[.int .u64 (IntKind.u64.wrap (l.length : Int))] W fun e w' => e = .returned (.string ⟨xs.toArray⟩) ∧ Below W.heap.size W w' := fun W => by
      rw [hxs, show IntKind.u64.wrap (l.length : Int) = (l.length : Int) from by rw [IntKind.wrap_u64]; omega]; exact rnum_any (l.length : Int) W (by omega) (by omega)
    have hxl : xs.length ≤ 10 := by rw [hxs]; exact M.vnum_len10 _ (by omega)
    have hcat := run_cat ks xs (by omega)
    have hcat2 := run_cat (ks ++ xs) l (by rw [List.length_append]; omega)
    have Hc2 := Lib.hid hc2
    have Hxs := Lib.hid hxs
    clear hc2 hxs hkl hxl
    go_enter Try.func35, Try.ntmps35
    go_wp2_with fail
    refine (Hcall.out _).mono ?_
    rintro e w1 ⟨rfl, hb1'⟩
    have hx1 := (hb1'.block w.heap.size (by simp)).trans (blk_new w _)
    obtain ⟨q0, q1, q2, q3⟩ := box4 hx1
    have hs1 : w.heap.size < w1.heap.size := (Array.getElem?_eq_some_iff.1 hx1).1
    have Hb1 := Lib.hid (((Below.refl _ w).alloc (Nat.le_refl _) _).trans (hb1'.mono (by simp)))
    clear hb1' hx1 q0 q2
    go_wp2
    go_region_held3 (fun w' => w'.cell? ⟨w.heap.size, 3, none⟩ = some (.string ⟨l.toArray⟩) ∧ Below w1.heap.size w1 w')
      (first | (constructor; (first | exact q3 | exact (hb2.cell (p := ⟨w.heap.size, 3, none⟩) hs1).trans q3); (first | exact (Below.refl w1.heap.size w1).drew | exact (Below.refl w1.heap.size w1).drew.trans hb2)))
      (first | (go_at_call 15; refine (Hc2.out _).mono ?_; rintro e w2 ⟨rfl, hb2⟩))
    have hbel : Below w.heap.size w w2 := Hb1.out.trans (((Below.refl w1.heap.size w1).drew.trans hb2).mono Hb1.out.size)
    have Hbel := Lib.hid hbel
    clear hbel hb2
    go_wp2
    go_ret
    refine ⟨?_, Hbel.out⟩
    rw [Hr.out, M.body, Hxs.out]
    rfl

set_option maxHeartbeats 1000000 in
theorem rsize_no (a b c : Int) (l : List UInt8) (w : World) (hb0 : 0 ≤ b) (hb1 : b ≤ 255) (hc0 : 0 ≤ c) (hl : l.length ≤ 9223372036854775807) (hm : M.may ⟨a, b.toNat, c.toNat, l⟩ = false) :
    Calls Try.prog 26 #[.agg (fcells a b c l)] w fun e w' => e = .returned (.int .i64 0) ∧ Below w.heap.size w w' := by
  have hc : ∀ w, Calls Try.prog 34 #[.agg (fcells a b c l)] w fun e w' => e = .returned (.bool false) ∧ w.alloc (.cells (fcells a b c l) 39) = w' := fun w => by rw [← hm]; exact rmay_any a b c l w hb0 hb1 hc0 hl
  have Hc := Lib.hid hc
  clear hc hm
  go_enter Try.func26, Try.ntmps26
  go_wp2_with fail
  refine (Hc.out _).mono ?_
  rintro e w' ⟨rfl, rfl⟩
  go_wp2
  go_ret
  exact ⟨rfl, ((Below.refl _ _).alloc (Nat.le_refl _) _).alloc (by simp) _⟩

set_option maxHeartbeats 1000000 in
theorem rsize_yes (a b c : Int) (l : List UInt8) (w : World) (hb0 : 0 ≤ b) (hb1 : b ≤ 255) (hc0 : 0 ≤ c) (hc1 : c ≤ 18446744073709551615) (hl : l.length ≤ 9223372036854775807) (hm : M.may ⟨a, b.toNat, c.toNat, l⟩ = true) :
    Calls Try.prog 26 #[.agg (fcells a b c l)] w fun e w' => e = .returned (.int .i64 ((M.enc1 ⟨a, b.toNat, c.toNat, l⟩).length : Int)) ∧ Below w.heap.size w w' := by
  have hc : ∀ w, Calls Try.prog 34 #[.agg (fcells a b c l)] w fun e w' => e = .returned (.bool true) ∧ w.alloc (.cells (fcells a b c l) 39) = w' := fun w => by rw [← hm]; exact rmay_any a b c l w hb0 hb1 hc0 hl
  obtain ⟨en, hen⟩ : ∃ en, M.enc1 ⟨a, b.toNat, c.toNat, l⟩ = en := ⟨_, rfl⟩
  have ho : ∀ W, Calls Try.prog 35 #[.agg (fcells a b c l)] W fun e w' => e = .returned (.string ⟨en.toArray⟩) ∧ Below W.heap.size W w' := fun W => by rw [← hen]; exact one_any a b c l W hb0 hb1 hc0 hc1 hm
  rw [hen]
  have Hc := Lib.hid hc
  have Ho := Lib.hid ho
  clear hc hm ho hen
  go_enter Try.func26, Try.ntmps26
  go_wp2_with fail
  refine (Hc.out _).mono ?_
  rintro e w' ⟨rfl, rfl⟩
  go_wp2_with fail
  refine (Ho.out _).mono ?_
  rintro e w2 ⟨rfl, hb2⟩
  have Hb2 := Lib.hid ((((Below.refl _ w).alloc (Nat.le_refl _) _).alloc (by simp) _).trans (hb2.mono (by simp; omega)))
  clear hb2
  go_wp2
  go_ret
  exact ⟨by first | rfl | simp [ByteArray.size], Hb2.out⟩
end Go.Proofs.Ytnnnnlcpmocnfaa
