/- THE WALKS OVER LAYER 1's NUMBERS: Zig, Zag, appendNum, Num, ReadNum. -/
import Derived.Test.YtnnnnlcpmocnfaaChecked
import Derived.Test.YtnnnnlcpmocnfaaKit
import Derived.WalkKit
import Derived.WalkSpells
import Derived.WalkLawsBesides
import Derived.Outline
namespace Go.Proofs.Ytnnnnlcpmocnfaa
open Go.RowKit

def zigI (n : Int) : Int := if n < 0 then 2 * -(n + 1) + 1 else 2 * n
def zagI (n : Int) : Int := if n % 2 = 1 then -(n / 2) - 1 else n / 2
theorem ret_int {k : IntKind} {a b : Int} (h : a = b) : Ending.returned (.int k a) = .returned (.int k b) := by rw [h]

theorem zig_any (n : Int) (w : World) (h1 : -9223372036854775808 ≤ n) (h2 : n ≤ 9223372036854775807) :
    Calls Try.prog 16 #[.int .i64 n] w fun e w' => e = .returned (.int .u64 (zigI n)) ∧ w = w' := by
  by_cases h : n < 0
  · go_enter Try.func16, Try.ntmps16
    go_wp2
    go_ret
    exact ⟨ret_int (by unfold zigI; rw [if_pos h]), rfl⟩
  · go_enter Try.func16, Try.ntmps16
    go_wp2
    go_ret
    exact ⟨ret_int (by unfold zigI; rw [if_neg (by omega)]), rfl⟩

theorem zag_any (n : Int) (w : World) (h1 : 0 ≤ n) (h2 : n ≤ 18446744073709551615) :
    Calls Try.prog 18 #[.int .u64 n] w fun e w' => e = .returned (.int .i64 (zagI n)) ∧ w = w' := by
  have g1 : 0 ≤ n / 2 := by omega
  have g2 : n / 2 ≤ 9223372036854775807 := by omega
  by_cases h : n % 2 = 1
  · have hb : ((n % 2 : Int) == 1) = true := by simp [h]
    have H := Lib.hid h; clear h
    go_enter Try.func18, Try.ntmps18
    go_wp2
    go_ret
    exact ⟨ret_int (by unfold zagI; rw [if_pos H.out]), rfl⟩
  · have hb : ((n % 2 : Int) == 1) = false := by simp [h]
    go_enter Try.func18, Try.ntmps18
    go_wp2
    go_ret
    exact ⟨ret_int (by unfold zagI; rw [if_neg h]), rfl⟩
theorem Try.info5 : (Try.prog.info? 5).map (fun i => (i.zero, i.size, i.bytes)) = some (some (.int .u8 0), 1, 1) := by kernel_rfl


theorem appendNum_any (base : Nat) (v0 : Value) (xs : List UInt8) (m : Int) (w : World) (hown : Bytes 5 w base v0 xs) (hm0 : 0 ≤ m) (hm : m ≤ 18446744073709551615)
    (hlen : xs.length ≤ 140737488351000) (hb : base ≤ w.heap.size) :
    Calls Try.prog 31 #[v0, .int .u64 m] w fun e w' => ∃ v', e = .returned v' ∧ Bytes 5 w' base v' (xs ++ M.vnum m.toNat) ∧ Grew w v0 w' v' := by
  have hvl := M.vnum_len10 m.toNat (by omega)
  go_enter Try.func31, Try.ntmps31
  go_wp2
  go_loopw [0, 1] (fun v n wr => ∃ (k : Int) (ys : List UInt8), n = .int .u64 k ∧ 0 ≤ k ∧ k ≤ m ∧ M.vnum m.toNat = ys ++ M.vnum k.toNat ∧ Bytes 5 wr base v (xs ++ ys) ∧ Grew w v0 wr v) (fun _ n _ => (intOf n).toNat)
  case atStart => exact ⟨m, [], rfl, hm0, by omega, rfl, by simpa using hown, Grew.refl _ _⟩
  case round =>
    obtain ⟨k, ys, rfl, hk0, hk, hys, hown1, hg⟩ := hrel
    have hle : (xs ++ ys).length ≤ 140737488355000 := by
      have := congrArg List.length hys
      simp only [List.length_append] at this ⊢
      omega
    have hsz : base ≤ wr.heap.size := Nat.le_trans hb hg.g.size
    have Hys := Lib.hid hys; clear hys
    have Hle := Lib.hid hle; clear hle
    have Hsz := Lib.hid hsz; clear hsz
    have hkm : k ≤ 18446744073709551615 := by omega
    have hmk : k ≤ m := hk
    clear hm hk hlen hvl hb
    by_cases hlt : k < 128
    · go_wp2_with (at_builtin; refine wp_app_byte Try.info5 Try.underlying51 rfl _ _ rfl base _ _ rfl hown1 (M.by8 k.toNat) _ (B_of (by omega) (by omega)) rfl Hle.out Hsz.out ?_)
      · intro v' w1 hown' hg'
        go_wp2
        go_ret
        have e := Hys.out
        rw [M.vnum_lt (n := k.toNat) (by omega)] at e
        exact ⟨v', rfl, by rw [e]; simpa using hown', hg.trans hg'⟩
    · go_wp2_with (at_builtin; refine wp_app_byte Try.info5 Try.underlying51 rfl _ _ rfl base _ _ rfl hown1 (M.by8 (k.toNat % 128 + 128)) _ (B_of (by omega) (by omega)) rfl Hle.out Hsz.out ?_)
      · intro v' w1 hown' hg'
        go_wp2
        go_roundw
        case rel =>
          have e := Hys.out
          rw [M.vnum_ge (n := k.toNat) (by omega)] at e
          refine ⟨k / 128, ys ++ [M.by8 (k.toNat % 128 + 128)], by go_num, by omega, by omega, ?_, ?_, hg.trans hg'⟩
          · rw [e, List.append_assoc, show (k / 128).toNat = k.toNat / 128 by omega]; rfl
          · simpa using hown'
        case measure => simp [intOf]; omega

theorem num_any (m : Int) (w : World) (hm0 : 0 ≤ m) (hm : m ≤ 18446744073709551615) :
    Calls Try.prog 14 #[.int .u64 m] w fun e w' => e = .returned (.string ⟨(M.vnum m.toNat).toArray⟩) ∧ Below w.heap.size w w' := by
  go_enter Try.func14, Try.ntmps14
  go_wp2_with fail
  refine (appendNum_any w.heap.size _ [] m _ (Bytes.nil _ _) hm0 hm (by simp) (Nat.le_refl _)).mono ?_
  rintro e w' ⟨v', rfl, hb, hg⟩
  have hconv := hb.conv Try.underlying51 Try.underlying5 Try.underlying9
  go_wp2
  go_ret
  exact ⟨rfl, hg.below (Nat.le_refl _) (by simp [Value.ownBlock])⟩
end Go.Proofs.Ytnnnnlcpmocnfaa
