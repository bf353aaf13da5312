/- THE WALKS OVER THE DOCUMENT's OWN ANSWERS FOR FIELDS: May, low, one, Size, number. -/
import Derived.Test.YtnnnnlcpmocnfaaRef
import Derived.Test.YtnnnnlcpmocnfaaFix
import Derived.Test.YtnnnnlcpmocnfaaRow
import Derived.Deep.RegionHeld3
namespace Go.Proofs.Ytnnnnlcpmocnfaa
open Go.RowKit
set_option linter.unusedVariables false
set_option linter.unusedSimpArgs false

set_option maxHeartbeats 1000000 in
theorem rmay_any (a b c : Int) (l : List UInt8) (w : World) (hb0 : 0 ≤ b) (hb1 : b ≤ 255) (hc0 : 0 ≤ c) (hl : l.length ≤ 9223372036854775807) :
    Calls Try.prog 34 #[.agg (fcells a b c l)] w fun e w' => e = .returned (.bool (M.may ⟨a, b.toNat, c.toNat, l⟩)) ∧ w.alloc (.cells (fcells a b c l) 39) = w' := by
  obtain ⟨r, hr⟩ : ∃ r, M.may ⟨a, b.toNat, c.toNat, l⟩ = r := ⟨_, rfl⟩
  rw [hr]
  have Hr := Lib.hid hr; clear hr
  by_cases h1 : a < 1
  · go_enter Try.func34, Try.ntmps34
    go_wp2
    go_ret
    exact ⟨ret_bool (by rw [← Hr.out]; simp [M.may]; omega), rfl⟩
  · by_cases h2 : 536870911 < a
    · go_enter Try.func34, Try.ntmps34
      go_wp2
      go_ret
      exact ⟨ret_bool (by rw [← Hr.out]; simp [M.may]; omega), rfl⟩
    · have g1 : 1 ≤ a := by omega
      have g2 : a ≤ 536870911 := by omega
      clear h1 h2
      by_cases b0 : b = 0
      · subst b0
        go_enter Try.func34, Try.ntmps34
        go_wp2
        go_ret
        exact ⟨ret_bool (by rw [← Hr.out, may_of g1 g2]; simp), rfl⟩
      · by_cases b1 : b = 1
        · subst b1
          go_enter Try.func34, Try.ntmps34
          go_wp2
          go_ret
          exact ⟨ret_bool (by rw [← Hr.out, may_of g1 g2]; simp), rfl⟩
        · by_cases b5 : b = 5
          · subst b5
            cases l with
            | nil =>
              go_enter Try.func34, Try.ntmps34
              go_wp2
              go_ret
              exact ⟨ret_bool (by rw [← Hr.out, may_of g1 g2]; simp), rfl⟩
            | cons x t =>
              go_enter Try.func34, Try.ntmps34
              go_wp2
              go_ret
              exact ⟨ret_bool (by rw [← Hr.out, may_of g1 g2]; simp), rfl⟩
          · by_cases b2 : b = 2
            · subst b2
              by_cases c0 : c = 0
              · subst c0
                go_enter Try.func34, Try.ntmps34
                go_wp2
                go_ret
                exact ⟨ret_bool (by rw [← Hr.out, may_of g1 g2]; simp; omega), rfl⟩
              · have hc : (c == 0) = false := by simp [c0]
                go_enter Try.func34, Try.ntmps34
                go_wp2
                go_ret
                exact ⟨ret_bool (by rw [← Hr.out, may_of g1 g2]; simp; omega), rfl⟩
            · have e0 : (b == 0) = false := by simp [b0]
              have e1 : (b == 1) = false := by simp [b1]
              have e5 : (b == 5) = false := by simp [b5]
              have e2 : (b == 2) = false := by simp [b2]
              go_enter Try.func34, Try.ntmps34
              go_wp2
              go_ret
              exact ⟨ret_bool (by rw [← Hr.out, may_of g1 g2, if_neg (by omega), if_neg (by omega), if_neg (by omega)]), rfl⟩


theorem le_step (k j : Nat) (x : Nat) (h : j < k) : M.le (k - j) x = M.by8 (x % 256) :: M.le (k - (j + 1)) (x / 256) := by
  obtain ⟨m, hm⟩ : ∃ m, k - j = m + 1 := ⟨k - j - 1, by omega⟩
  rw [hm, M.le, show k - (j + 1) = m by omega]

set_option maxHeartbeats 1000000 in
theorem low_any (n : Int) (k : Nat) (w : World) (h0 : 0 ≤ n) (h1 : n ≤ 18446744073709551615) (hk8 : k ≤ 8) :
    Calls Try.prog 41 #[.int .u64 n, .int .i64 (k : Int)] w fun e w' => e = .returned (.string ⟨(M.le k n.toNat).toArray⟩) ∧ Below w.heap.size w w' := by
  go_enter Try.func41, Try.ntmps41
  go_wp2
  go_loopw [5, 0, 6] (fun v m i wr => ∃ (j : Nat) (x : Int) (ys : List UInt8), i = .int .i64 (j : Int) ∧ j ≤ k ∧ m = .int .u64 x ∧ 0 ≤ x ∧ x ≤ 18446744073709551615 ∧ M.le k n.toNat = ys ++ M.le (k - j) x.toNat ∧ ys.length = j ∧ Bytes 5 wr w.heap.size v ys ∧ Below w.heap.size w wr) (fun _ _ i _ => k - (intOf i).toNat)
  case atStart => exact ⟨0, n, [], rfl, by omega, rfl, h0, h1, rfl, rfl, Bytes.nil _ _, Below.refl _ _⟩
  case round =>
    obtain ⟨j, x, ys, rfl, hj, rfl, hx0, hx1, hys, hyl, hown1, hg⟩ := hrel
    have hle : ys.length ≤ 140737488355000 := by omega
    have Hys := Lib.hid hys; clear hys
    have Hyl := Lib.hid hyl; clear hyl
    have Hle := Lib.hid hle; clear hle
    have Hg := Lib.hid hg; clear hg
    by_cases hlt : j < k
    · go_wp2_with (at_builtin; refine wp_app_byte Try.info5 Try.underlying51 rfl _ _ rfl w.heap.size _ _ rfl hown1 (M.by8 (x.toNat % 256)) _ (B_of (by omega) (by omega)) rfl Hle.out Hg.out.size ?_)
      · intro v' w1 hown' hg'
        have hbel := Hg.out.trans (hg'.below Hg.out.size (fun j hj => (hown1.lt j hj).1))
        have Hbel := Lib.hid hbel
        clear hbel
        go_wp2
        go_roundw
        case rel =>
          refine ⟨j + 1, x / 256, ys ++ [M.by8 (x.toNat % 256)], by go_num, by omega, by go_num, by omega, by omega, ?_, by simp [Hyl.out], by simpa using hown', Hbel.out⟩
          rw [Hys.out, le_step k j x.toNat hlt, show (x / 256).toNat = x.toNat / 256 by omega]; simp
        case measure => simp [intOf]; omega
    · have e := Hys.out
      rw [show k - j = 0 by omega, M.le, List.append_nil] at e
      have hconv := hown1.conv Try.underlying51 Try.underlying5 Try.underlying9
      have E := Lib.hid e
      clear e
      go_wp2
      go_ret
      exact ⟨by rw [E.out]; rfl, Hg.out⟩

theorem unle_drop (l : List UInt8) (j : Nat) (h : j < l.length) : M.unle (l.drop j) = l[j].toNat + 256 * M.unle (l.drop (j + 1)) := by
  rw [List.drop_eq_getElem_cons h, M.unle]

set_option maxHeartbeats 1000000 in
theorem number_any (l : List UInt8) (w : World) (hl : l.length ≤ 8) :
    Calls Try.prog 44 #[.string ⟨l.toArray⟩] w fun e w' => e = .returned (.int .u64 (M.unle l : Int)) ∧ w = w' := by
  go_enter Try.func44, Try.ntmps44
  go_wp2
  go_loop [3, 4] (fun n i => ∃ (x : Int) (acc : Nat), i = .int .i64 x ∧ -1 ≤ x ∧ x < l.length ∧ n = .int .u64 (acc : Int) ∧ acc = M.unle (l.drop (x + 1).toNat)) (fun _ i => (intOf i + 1).toNat)
  case atStart => exact ⟨(l.length : Int) - 1, 0, rfl, by omega, by omega, rfl, by rw [show ((l.length : Int) - 1 + 1).toNat = l.length by omega, List.drop_length]; rfl⟩
  case round =>
    obtain ⟨x, acc, rfl, hx0, hx1, rfl, hacc⟩ := hrel
    by_cases hx : 0 ≤ x
    · obtain ⟨j, rfl⟩ := Int.eq_ofNat_of_zero_le hx
      have hjl : j < l.length := by omega
      obtain ⟨c, hc⟩ : ∃ c : Int, c = (l[j].toNat : Int) := ⟨_, rfl⟩
      have hc0 : 0 ≤ c := by omega
      have hc1 : c ≤ 255 := by have := l[j].toNat_lt; omega
      have hix := fun W => index_str (P := Try.prog) Try.underlying9 l j hjl c hc W
      have hn := unle_drop l j hjl
      rw [show ((j : Int) + 1).toNat = j + 1 by omega] at hacc
      have hb := M.unle_lt (l.drop (j + 1))
      rw [← hacc, List.length_drop] at hb
      have hp : 256 ^ (l.length - (j + 1)) ≤ 256 ^ 7 := Nat.pow_le_pow_right (by decide) (by omega)
      have e7 : (256 : Nat) ^ 7 = 72057594037927936 := by decide
      rw [e7] at hp
      have hab : (acc : Int) ≤ 72057594037927935 := by omega
      rw [← hacc] at hn
      have hsum : 256 * (acc : Int) + c = ((l[j].toNat + 256 * acc : Nat) : Int) := by omega
      rw [← hn] at hsum
      have Hsum := Lib.hid hsum
      have hj1 : ((j : Int) - 1 + 1).toNat = j := by omega
      have Hj1 := Lib.hid hj1
      clear hacc hb hp e7 hn hsum hc hj1
      go_wp2
      go_round
      case rel => exact ⟨(j : Int) - 1, M.unle (l.drop j), rfl, by omega, by omega, by rw [Hsum.out], by rw [Hj1.out]⟩
      case measure => first | (simp [intOf]; done) | (simp [intOf]; omega)
    · have hm : (x + 1).toNat = 0 := by omega
      rw [hm, List.drop_zero] at hacc
      have Hacc := Lib.hid hacc
      clear hacc hm
      have hneg : x < 0 := by omega
      go_wp2
      go_ret
      exact ⟨by rw [Hacc.out]; rfl, rfl⟩
end Go.Proofs.Ytnnnnlcpmocnfaa
