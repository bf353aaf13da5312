/- THE WALKS OVER THE DOCUMENT's OWN ANSWERS FOR NUMBERS: Zig, Zag, Num, ReadNum. -/
import Derived.Test.YtnnnnlcpmocnfaaRd
namespace Go.Proofs.Ytnnnnlcpmocnfaa
open Go.RowKit
set_option linter.unusedVariables false
set_option linter.unusedSimpArgs false

theorem rzig_any (n : Int) (w : World) (h1 : -9223372036854775808 ≤ n) (h2 : n ≤ 9223372036854775807) :
    Calls Try.prog 17 #[.int .i64 n] w fun e w' => e = .returned (.int .u64 (zigI n)) ∧ w = w' := by
  by_cases h : n < 0
  · go_enter Try.func17, Try.ntmps17
    go_wp2
    go_ret
    exact ⟨ret_int (by unfold zigI; rw [if_pos h]), rfl⟩
  · have h' : 0 ≤ n := by omega
    clear h
    go_enter Try.func17, Try.ntmps17
    go_wp2
    go_ret
    exact ⟨ret_int (by unfold zigI; rw [if_neg (by omega)]), rfl⟩

theorem rzag_any (n : Int) (w : World) (h1 : 0 ≤ n) (h2 : n ≤ 18446744073709551615) :
    Calls Try.prog 19 #[.int .u64 n] w fun e w' => e = .returned (.int .i64 (zagI n)) ∧ w = w' := by
  have g1 : 0 ≤ n / 2 := by omega
  have g2 : n / 2 ≤ 9223372036854775807 := by omega
  by_cases h : n % 2 = 1
  · have hb : ((n % 2 : Int) == 0) = false := by simp; omega
    have H := Lib.hid h; clear h
    go_enter Try.func19, Try.ntmps19
    go_wp2
    go_ret
    exact ⟨ret_int (by unfold zagI; rw [if_pos H.out]), rfl⟩
  · have hb : ((n % 2 : Int) == 0) = true := by simp; omega
    have H := Lib.hid h; clear h
    go_enter Try.func19, Try.ntmps19
    go_wp2
    go_ret
    exact ⟨ret_int (by unfold zagI; rw [if_neg H.out]), rfl⟩

set_option maxHeartbeats 1000000 in
theorem rnum_any (m : Int) (w : World) (hm0 : 0 ≤ m) (hm : m ≤ 18446744073709551615) :
    Calls Try.prog 15 #[.int .u64 m] w fun e w' => e = .returned (.string ⟨(M.vnum m.toNat).toArray⟩) ∧ Below w.heap.size w w' := by
  have hvl := M.vnum_len10 m.toNat (by omega)
  go_enter Try.func15, Try.ntmps15
  go_wp2
  go_loopw [3, 0] (fun v n wr => ∃ (k : Int) (ys : List UInt8), n = .int .u64 k ∧ 0 ≤ k ∧ k ≤ m ∧ M.vnum m.toNat = ys ++ M.vnum k.toNat ∧ Bytes 5 wr w.heap.size v ys ∧ Below w.heap.size w wr) (fun _ n _ => (intOf n).toNat)
  case atStart => exact ⟨m, [], rfl, hm0, by omega, rfl, Bytes.nil _ _, Below.refl _ _⟩
  case round =>
    obtain ⟨k, ys, rfl, hk0, hk, hys, hown1, hg⟩ := hrel
    have hle : ys.length ≤ 140737488355000 := by
      have := congrArg List.length hys
      simp only [List.length_append] at this ⊢
      omega
    have Hys := Lib.hid hys; clear hys
    have Hle := Lib.hid hle; clear hle
    have Hg := Lib.hid hg; clear hg
    have hkm : k ≤ 18446744073709551615 := by omega
    have hmk : k ≤ m := hk
    clear hm hk hvl
    by_cases hlt : k < 128
    · go_wp2_with (at_builtin; refine wp_app_byte Try.info5 Try.underlying51 rfl _ _ rfl w.heap.size _ _ rfl hown1 (M.by8 k.toNat) _ (B_of (by omega) (by omega)) rfl Hle.out Hg.out.size ?_)
      · intro v' w1 hown' hg'
        have e := Hys.out
        rw [M.vnum_lt (n := k.toNat) (by omega)] at e
        have hbel := Hg.out.trans (hg'.below Hg.out.size (fun j hj => (hown1.lt j hj).1))
        have hconv := hown'.conv Try.underlying51 Try.underlying5 Try.underlying9
        have E := Lib.hid e
        have Hbel := Lib.hid hbel
        clear e hbel hown' hg' hown1
        go_wp2
        go_ret
        exact ⟨by rw [E.out]; rfl, Hbel.out⟩
    · go_wp2_with (at_builtin; refine wp_app_byte Try.info5 Try.underlying51 rfl _ _ rfl w.heap.size _ _ rfl hown1 (M.by8 (k.toNat % 128 + 128)) _ (B_of (by omega) (by omega)) rfl Hle.out Hg.out.size ?_)
      · intro v' w1 hown' hg'
        have hbel := Hg.out.trans (hg'.below Hg.out.size (fun j hj => (hown1.lt j hj).1))
        have Hbel := Lib.hid hbel
        clear hbel
        go_wp2
        go_roundw
        case rel =>
          have e := Hys.out
          rw [M.vnum_ge (n := k.toNat) (by omega)] at e
          refine ⟨k / 128, ys ++ [M.by8 (k.toNat % 128 + 128)], by go_num, by omega, by omega, ?_, by simpa using hown', Hbel.out⟩
          rw [e, List.append_assoc, show (k / 128).toNat = k.toNat / 128 by omega]; rfl
        case measure => simp [intOf]; omega

/-- what a round adds, and that nothing wraps -/
theorem RdRel.sum {l : List UInt8} {i : Nat} {acc c u : Int} (h : RdRel l i acc) (hi : i < 10) (hc : 0 ≤ c) (hc1 : c ≤ 255) (h9 : i = 9 → c ≤ 1) (hu : u = ((2 ^ (7 * i) : Nat) : Int)) :
    ∃ p : Int, p = (((c % 128).toNat * 2 ^ (7 * i) : Nat) : Int) ∧ 0 ≤ p ∧ acc + p ≤ 18446744073709551615 ∧ IntKind.u64.wrap (u * (c % 128)) = p := by
  obtain ⟨f1, f2, _⟩ := h.fit hi hc hc1 h9
  refine ⟨_, rfl, by omega, ?_, ?_⟩
  · have h1 := h.2.1
    have h0 := h.1
    by_cases e : i = 9
    · subst e
      have := h9 rfl
      have hh : (c % 128).toNat * 2 ^ (7 * 9) ≤ 1 * 2 ^ (7 * 9) := Nat.mul_le_mul_right _ (by omega)
      have e9 : (2 : Nat) ^ (7 * 9) = 9223372036854775808 := by decide
      rw [e9] at hh h1 ⊢
      omega
    · have hp : 2 ^ (7 * i) ≤ 2 ^ 56 := Nat.pow_le_pow_right (by decide) (by omega)
      have e9 : (2 : Nat) ^ 56 = 72057594037927936 := by decide
      have hh : (c % 128).toNat * 2 ^ (7 * i) ≤ 127 * 2 ^ 56 := Nat.mul_le_mul (by omega) hp
      rw [e9] at hh hp
      omega
  · have e1 : u * (c % 128) = (((c % 128).toNat * 2 ^ (7 * i) : Nat) : Int) := by
      rw [hu, Int.natCast_mul, Int.mul_comm, Int.toNat_of_nonneg (by omega)]
    rw [e1, IntKind.wrap_u64]
    omega

set_option maxHeartbeats 2000000 in
theorem rreadNum_any (l : List UInt8) (w : World) (hl : l.length ≤ 9223372036854775807) :
    Calls Try.prog 12 #[.string ⟨l.toArray⟩] w fun e w' => e = .returned (rdVal l) ∧ w = w' := by
  go_enter Try.func12, Try.ntmps12
  go_wp2
  go_loop [5, 6, 7] (fun n u i => ∃ (k : Nat) (acc uu : Int), k ≤ l.length ∧ k ≤ 9 ∧ i = .int .i64 (k : Int) ∧ n = .int .u64 acc ∧ u = .int .u64 uu ∧ uu = ((2 ^ (7 * k) : Nat) : Int) ∧ RdRel l k acc) (fun _ _ i => 10 - (intOf i).toNat)
  case atStart => exact ⟨0, 0, 1, by omega, by omega, rfl, rfl, rfl, rfl, RdRel.start l⟩
  case round =>
    obtain ⟨k, acc, uu, hk, hk10, rfl, rfl, rfl, hu, hrl⟩ := hrel
    have hk10' : (k : Int) < 10 := by omega
    by_cases h1 : k < l.length
    · obtain ⟨c, hc⟩ : ∃ c : Int, c = (l[k].toNat : Int) := ⟨_, rfl⟩
      have hc0 : 0 ≤ c := by omega
      have hc1 : c ≤ 255 := by have := l[k].toNat_lt; omega
      have hix := fun W => index_str (P := Try.prog) Try.underlying9 l k h1 c hc W
      have Hc := Lib.hid hc; clear hc
      have Hr := Lib.hid hrl; clear hrl
      have Hu := Lib.hid hu; clear hu
      by_cases h9 : k = 9 ∧ 1 < c
      · obtain ⟨h90, h91⟩ := h9
        have fin := RdRel.nine Hr.out h90 h1 Hc.out h91
        have Fin := Lib.hid fin; clear fin
        have hn9 : ((k : Int) == 9) = true := by simp; omega
        clear h90 hl hk hk10
        go_wp2
        go_ret3
        exact ⟨by rw [rdVal_none Fin.out]; rfl, rfl⟩
      · have hn9 : k = 9 → c ≤ 1 := by omega
        obtain ⟨p, hp, hp0, hp1, hpw⟩ := RdRel.sum Hr.out (by omega) hc0 hc1 hn9 Hu.out
        have hacc0 := Hr.out.1
        have hsumn : acc + p = ((acc.toNat + (c % 128).toNat * 2 ^ (7 * k) : Nat) : Int) := by omega
        have Hsum := Lib.hid hsumn
        clear hp hsumn
        have hub : 0 ≤ uu := by rw [Hu.out]; exact Int.natCast_nonneg _
        by_cases h3 : c < 128
        · have fin := RdRel.last Hr.out h1 (by omega) Hc.out hn9 h3
          have Fin := Lib.hid fin; clear fin
          by_cases h90 : k = 9
          · have hb9 : ((k : Int) == 9) = true := by simp; omega
            have hc9 : c ≤ 1 := by omega
            clear h9 hn9 h90 hl hk hk10
            go_wp2
            go_ret3
            exact ⟨by rw [rdVal_some Fin.out, ← Hsum.out]; rfl, rfl⟩
          · have hb9 : ((k : Int) == 9) = false := by simp; omega
            clear h9 hn9 h90 hl hk hk10
            go_wp2
            go_ret3
            exact ⟨by rw [rdVal_some Fin.out, ← Hsum.out]; rfl, rfl⟩
        · have fin := RdRel.next Hr.out h1 (by omega) Hc.out hn9 (by omega) hc1
          have Fin := Lib.hid fin; clear fin
          have hge : 128 ≤ c := by omega
          by_cases h90 : k = 9
          · exfalso; have := hn9 h90; omega
          · have hb9 : ((k : Int) == 9) = false := by simp; omega
            have hk11 : k + 1 ≤ 9 := by omega
            have hkl : k + 1 ≤ l.length := by omega
            have hu56 : uu ≤ 72057594037927936 := by
              have hp : 2 ^ (7 * k) ≤ 2 ^ 56 := Nat.pow_le_pow_right (by decide) (by omega)
              have e9 : (2 : Nat) ^ 56 = 72057594037927936 := by decide
              rw [e9] at hp
              rw [Hu.out]
              exact Int.ofNat_le.2 hp
            have hun : uu * 128 = ((2 ^ (7 * (k + 1)) : Nat) : Int) := by
              rw [Hu.out, show 7 * (k + 1) = 7 * k + 7 by omega, Nat.pow_add]
              simp
            have Hun := Lib.hid hun
            clear h9 hn9 h90 hk hk10 hun
            go_wp2
            go_round
            case rel => exact ⟨k + 1, acc + p, uu * 128, hkl, hk11, by go_num, rfl, rfl, Hun.out, by rw [Hsum.out]; exact Fin.out⟩
            case measure => simp [intOf]; omega
    · have fin := RdRel.out hrl (by omega)
      have Fin := Lib.hid fin; clear fin
      have Hr := Lib.hid hrl; clear hrl
      have Hu := Lib.hid hu; clear hu
      go_wp2
      go_ret3
      exact ⟨by rw [rdVal_none Fin.out]; rfl, rfl⟩
end Go.Proofs.Ytnnnnlcpmocnfaa
