/- THE WALK OVER ReadNum. -/
import Derived.Test.YtnnnnlcpmocnfaaNum
namespace Go.Proofs.Ytnnnnlcpmocnfaa
open Go.RowKit

/-- bits put behind bits -/
theorem shor (acc x : Int) (e : Nat) (h0 : 0 ≤ acc) (h1 : acc < ((2 ^ e : Nat) : Int)) (h2 : 0 ≤ x) (h3 : x.toNat * 2 ^ e < 18446744073709551616) (h4 : acc < 18446744073709551616) :
    bits .or .u64 acc (IntKind.u64.wrap (x * 2 ^ e)) = ((acc.toNat + x.toNat * 2 ^ e : Nat) : Int) := by
  obtain ⟨n, rfl⟩ := Int.eq_ofNat_of_zero_le h2
  obtain ⟨a, rfl⟩ := Int.eq_ofNat_of_zero_le h0
  simp only [Int.toNat_natCast] at *
  have e1 : ((n : Int) * 2 ^ e) = ((n * 2 ^ e : Nat) : Int) := by simp
  rw [e1]
  have e2 : IntKind.u64.wrap ((n * 2 ^ e : Nat) : Int) = ((n * 2 ^ e : Nat) : Int) := by
    rw [IntKind.wrap_u64]
    generalize n * 2 ^ e = y at *
    omega
  rw [e2, u64_or_nat _ _ (by omega) h3, Nat.or_comm, nat_join e _ _ (by simp) (by omega), Nat.add_comm]

/-- what ReadNum answers -/
def rdVal (l : List UInt8) : Value := match M.rd l with
  | none => .tuple #[.int .u64 0, .int .i64 0, .int .i64 9]
  | some x => .tuple #[.int .u64 (x.1 : Int), .int .i64 (x.2 : Int), .int .i64 0]
theorem rdVal_none {l : List UInt8} (h : M.rd l = none) : rdVal l = .tuple #[.int .u64 0, .int .i64 0, .int .i64 9] := by simp [rdVal, h]
theorem rdVal_some {l : List UInt8} {n k : Nat} (h : M.rd l = some (n, k)) : rdVal l = .tuple #[.int .u64 (n : Int), .int .i64 (k : Int), .int .i64 0] := by simp [rdVal, h]

/-- behind i bytes -/
def RdRel (l : List UInt8) (i : Nat) (acc : Int) : Prop := 0 ≤ acc ∧ acc < ((2 ^ (7 * i) : Nat) : Int) ∧ M.rd l = (M.rdAt i (l.drop i)).map fun x => (acc.toNat + x.1 * 2 ^ (7 * i), i + x.2)
theorem RdRel.start (l : List UInt8) : RdRel l 0 0 := by
  refine ⟨Int.le_refl _, by simp, ?_⟩
  simp [M.rd]
theorem RdRel.out {l : List UInt8} {i : Nat} {acc : Int} (h : RdRel l i acc) (hi : ¬ (i < l.length ∧ i < 10)) : M.rd l = none := by
  rw [h.2.2]
  by_cases h10 : 10 ≤ i
  · rw [M.rdAt_ten i h10]; rfl
  · rw [List.drop_eq_nil_of_le (by omega)]; rfl
theorem RdRel.nine {l : List UInt8} {i : Nat} {acc c : Int} (h : RdRel l i acc) (h9 : i = 9) (hl : i < l.length) (hc : c = (l[i].toNat : Int)) (h1 : 1 < c) : M.rd l = none := by
  subst h9
  rw [h.2.2, List.drop_eq_getElem_cons hl, M.rdAt, if_neg (by decide), if_pos ⟨rfl, by omega⟩]; rfl
theorem RdRel.fit {l : List UInt8} {i : Nat} {acc c : Int} (h : RdRel l i acc) (hi : i < 10) (hc : 0 ≤ c) (hc1 : c ≤ 255) (h9 : i = 9 → c ≤ 1) :
    (c % 128).toNat * 2 ^ (7 * i) < 18446744073709551616 ∧ acc < 18446744073709551616 ∧ bits .or .u64 acc (IntKind.u64.wrap (c % 128 * 2 ^ (7 * i))) = ((acc.toNat + (c % 128).toNat * 2 ^ (7 * i) : Nat) : Int) := by
  have h3 : (c % 128).toNat * 2 ^ (7 * i) < 18446744073709551616 := by
    by_cases e : i = 9
    · subst e
      have := h9 rfl
      have h1 : (c % 128).toNat ≤ 1 := by omega
      calc (c % 128).toNat * 2 ^ (7 * 9) ≤ 1 * 2 ^ (7 * 9) := Nat.mul_le_mul_right _ h1
        _ < _ := by decide
    · have hp : 2 ^ (7 * i) ≤ 2 ^ 56 := Nat.pow_le_pow_right (by decide) (by omega)
      calc (c % 128).toNat * 2 ^ (7 * i) ≤ 127 * 2 ^ 56 := Nat.mul_le_mul (by omega) hp
        _ < _ := by decide
  have h4 : acc < 18446744073709551616 := by
    have hp : 2 ^ (7 * i) ≤ 2 ^ 63 := Nat.pow_le_pow_right (by decide) (by omega)
    have := h.2.1
    have e : (2 : Nat) ^ 63 = 9223372036854775808 := by decide
    omega
  exact ⟨h3, h4, shor acc _ _ h.1 h.2.1 (by omega) h3 h4⟩
theorem RdRel.last {l : List UInt8} {i : Nat} {acc c : Int} (h : RdRel l i acc) (hl : i < l.length) (hi : i < 10) (hc : c = (l[i].toNat : Int)) (h9 : i = 9 → c ≤ 1) (hlt : c < 128) :
    M.rd l = some (acc.toNat + (c % 128).toNat * 2 ^ (7 * i), i + 1) := by
  rw [h.2.2, List.drop_eq_getElem_cons hl, M.rdAt, if_neg (by omega), if_neg (by rintro ⟨a, b⟩; have := h9 a; omega), if_pos (by omega)]
  simp only [Option.map_some]
  rw [show (c % 128).toNat = l[i].toNat by omega]
theorem RdRel.next {l : List UInt8} {i : Nat} {acc c : Int} (h : RdRel l i acc) (hl : i < l.length) (hi : i < 10) (hc : c = (l[i].toNat : Int)) (h9 : i = 9 → c ≤ 1) (hge : 128 ≤ c) (hb : c ≤ 255) :
    RdRel l (i + 1) ((acc.toNat + (c % 128).toNat * 2 ^ (7 * i) : Nat) : Int) := by
  have e7 : 2 ^ (7 * (i + 1)) = 128 * 2 ^ (7 * i) := by rw [Nat.mul_add, Nat.pow_add, Nat.mul_comm]
  refine ⟨by omega, ?_, ?_⟩
  · rw [e7]
    have h1 := h.2.1
    have h0 := h.1
    have h2 : (c % 128).toNat * 2 ^ (7 * i) ≤ 127 * 2 ^ (7 * i) := Nat.mul_le_mul_right _ (by omega)
    have h3 : acc.toNat < 2 ^ (7 * i) := by omega
    generalize 2 ^ (7 * i) = p at *
    generalize (c % 128).toNat * p = q at *
    omega
  · rw [h.2.2, List.drop_eq_getElem_cons hl, M.rdAt, if_neg (by omega), if_neg (by rintro ⟨a, b⟩; have := h9 a; omega), if_neg (by omega)]
    rw [Option.map_map]
    congr 1
    funext x
    simp only [Function.comp]
    have e : l[i].toNat % 128 = (c % 128).toNat := by omega
    rw [e, e7, Int.toNat_natCast, Nat.add_mul]
    congr 1
    · rw [Nat.add_assoc]
      congr 2
      rw [Nat.mul_comm 128 x.1, Nat.mul_assoc]
    · omega
theorem index_str {P : Program} {T : TypeId} (hT : P.underlying T = some .string) (l : List UInt8) (k : Nat) (h : k < l.length) (c : Int) (hc : c = (l[k].toNat : Int)) (W : World) :
    (Instr.index T (.string ⟨l.toArray⟩) (.int .i64 (k : Int))).run P W = .ok (.int .u8 c) W := by
  rw [run_index_string _ _ _ _ _ hT, dif_pos ⟨by omega, by simp [ByteArray.size]; omega⟩, hc]
  simp
  rfl

set_option maxHeartbeats 1000000 in
theorem readNum_any (l : List UInt8) (w : World) (hl : l.length ≤ 9223372036854775807) :
    Calls Try.prog 11 #[.string ⟨l.toArray⟩] w fun e w' => e = .returned (rdVal l) ∧ w = w' := by
  rcases Nat.lt_or_ge 10 l.length with hmn | hmn
  all_goals
    go_enter Try.func11, Try.ntmps11
    go_wp2
    go_loop [5, 11] (fun n i => ∃ (k : Nat) (acc : Int), k ≤ l.length ∧ k ≤ 10 ∧ i = .int .i64 (k : Int) ∧ n = .int .u64 acc ∧ RdRel l k acc) (fun _ i => 10 - (intOf i).toNat)
    case atStart => exact ⟨0, 0, by omega, by omega, rfl, rfl, RdRel.start l⟩
    case round =>
      obtain ⟨k, acc, hk, hk10, rfl, rfl, hrl⟩ := hrel
      by_cases hlt : k < l.length ∧ k < 10
      · obtain ⟨h1, h2⟩ := hlt
        obtain ⟨c, hc⟩ : ∃ c : Int, c = (l[k].toNat : Int) := ⟨_, rfl⟩
        have hc0 : 0 ≤ c := by omega
        have hc1 : c ≤ 255 := by have := l[k].toNat_lt; omega
        have hix := fun W => index_str (P := Try.prog) Try.underlying9 l k h1 c hc W
        have Hc := Lib.hid hc; clear hc
        have Hr := Lib.hid hrl; clear hrl
        by_cases h9 : k = 9 ∧ 1 < c
        · obtain ⟨h90, h91⟩ := h9
          have fin := RdRel.nine Hr.out h90 h1 Hc.out h91
          have Fin := Lib.hid fin; clear fin
          have hn9 : ((k : Int) == 9) = true := by simp; omega
          clear h90 hl hmn hk hk10
          go_wp2
          go_ret3
          exact ⟨by rw [rdVal_none Fin.out]; rfl, rfl⟩
        · have hn9 : k = 9 → c ≤ 1 := by omega
          obtain ⟨f1, f2, f3⟩ := RdRel.fit Hr.out h2 hc0 hc1 hn9
          have F3 := Lib.hid f3
          by_cases h3 : c < 128
          · have fin := RdRel.last Hr.out h1 h2 Hc.out hn9 h3
            have Fin := Lib.hid fin; clear fin
            clear f1 f2 f3
            by_cases h90 : k = 9
            · have hb9 : ((k : Int) == 9) = true := by simp; omega
              have hc9 : c ≤ 1 := by omega
              clear h9 hn9 h90 hl hmn hk hk10
              go_wp2
              go_ret3
              exact ⟨by rw [rdVal_some Fin.out, ← F3.out]; rfl, rfl⟩
            · have hb9 : ((k : Int) == 9) = false := by simp; omega
              clear h9 hn9 h90 hl hmn hk hk10
              go_wp2
              go_ret3
              exact ⟨by rw [rdVal_some Fin.out, ← F3.out]; rfl, rfl⟩
          · have fin := RdRel.next Hr.out h1 h2 Hc.out hn9 (by omega) hc1
            have Fin := Lib.hid fin; clear fin
            have hge : 128 ≤ c := by omega
            clear f1 f2 f3
            by_cases h90 : k = 9
            · exfalso; omega
            · have hb9 : ((k : Int) == 9) = false := by simp; omega
              have hk11 : k + 1 ≤ 10 := by omega
              have hkl : k + 1 ≤ l.length := by omega
              clear h9 hn9 h90 hmn hk hk10
              go_wp2
              go_round
              case rel => exact ⟨k + 1, _, hkl, hk11, by go_num, by rw [F3.out], Fin.out⟩
              case measure => simp [intOf]; omega
      · have fin := RdRel.out hrl hlt
        have Fin := Lib.hid fin; clear fin
        have Hr := Lib.hid hrl; clear hrl
        have hge : ¬ k < 10 ∨ ¬ k < l.length := by omega
        clear hlt
        rcases hge with hge | hge
        all_goals
          go_wp2
          all_goals
            go_ret3
            exact ⟨by rw [rdVal_none Fin.out]; rfl, rfl⟩
end Go.Proofs.Ytnnnnlcpmocnfaa
