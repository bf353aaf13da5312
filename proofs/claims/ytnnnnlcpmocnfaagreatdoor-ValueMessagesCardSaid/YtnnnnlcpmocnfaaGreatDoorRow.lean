/- THE WALK OVER ReadNum. -/
import Derived.Test.YtnnnnlcpmocnfaaGreatDoorWr
namespace Go.Proofs.YtnnnnlcpmocnfaaGreatDoor
open Go.RowKit

/-- bits put behind bits -/
theorem shor (acc x : Int) (e : Nat) (h0 : 0 ≤ acc) (h1 : acc < ((2 ^ e : Nat) : Int)) (h2 : 0 ≤ x) (h3 : x.toNat * 2 ^ e < 18446744073709551616) (h4 : acc < 18446744073709551616) :
    bits .or .u64 acc (IntKind.u64.wrap (x * 2 ^ e)) = ((acc.toNat + x.toNat * 2 ^ e : Nat) : Int) := by
  obtain ⟨n, rfl⟩ := Int.eq_ofNat_of_zero_le h2
  obtain ⟨a, rfl⟩ := Int.eq_ofNat_of_zero_le h0
  simp only [Int.toNat_natCast] at *
  have e1 : ((n : Int) * 2 ^ e) = ((n * 2 ^ e : Nat) : Int) := by simp
  rw [e1]
  have e2 : IntKind.u64.wrap ((n * 2 ^ e : Nat) : Int) = ((n * 2 ^ e : Nat) : Int) := by
    rw [IntKind.wrap_u64]
    generalize n * 2 ^ e = y at *
    omega
  rw [e2, u64_or_nat _ _ (by omega) h3, Nat.or_comm, nat_join e _ _ (by simp) (by omega), Nat.add_comm]

/-- what ReadNum answers -/
def rdVal (l : List UInt8) : Value := match M.rd l with
  | none => .tuple #[.int .u64 0, .int .i64 0, .int .i64 9]
  | some x => .tuple #[.int .u64 (x.1 : Int), .int .i64 (x.2 : Int), .int .i64 0]
theorem rdVal_none {l : List UInt8} (h : M.rd l = none) : rdVal l = .tuple #[.int .u64 0, .int .i64 0, .int .i64 9] := by simp [rdVal, h]
theorem rdVal_some {l : List UInt8} {n k : Nat} (h : M.rd l = some (n, k)) : rdVal l = .tuple #[.int .u64 (n : Int), .int .i64 (k : Int), .int .i64 0] := by simp [rdVal, h]

/-- behind i bytes -/
def RdRel (l : List UInt8) (i : Nat) (acc : Int) : Prop := 0 ≤ acc ∧ acc < ((2 ^ (7 * i) : Nat) : Int) ∧ M.rd l = (M.rdAt i (l.drop i)).map fun x => (acc.toNat + x.1 * 2 ^ (7 * i), i + x.2)
theorem RdRel.start (l : List UInt8) : RdRel l 0 0 := by
  refine ⟨Int.le_refl _, by simp, ?_⟩
  simp [M.rd]
theorem RdRel.out {l : List UInt8} {i : Nat} {acc : Int} (h : RdRel l i acc) (hi : ¬ (i < l.length ∧ i < 10)) : M.rd l = none := by
  rw [h.2.2]
  by_cases h10 : 10 ≤ i
  · rw [M.rdAt_ten i h10]; rfl
  · rw [List.drop_eq_nil_of_le (by omega)]; rfl
theorem RdRel.nine {l : List UInt8} {i : Nat} {acc c : Int} (h : RdRel l i acc) (h9 : i = 9) (hl : i < l.length) (hc : c = (l[i].toNat : Int)) (h1 : 1 < c) : M.rd l = none := by
  subst h9
  rw [h.2.2, List.drop_eq_getElem_cons hl, M.rdAt, if_neg (by decide), if_pos ⟨rfl, by omega⟩]; rfl
theorem RdRel.fit {l : List UInt8} {i : Nat} {acc c : Int} (h : RdRel l i acc) (hi : i < 10) (hc : 0 ≤ c) (hc1 : c ≤ 255) (h9 : i = 9 → c ≤ 1) :
    (c % 128).toNat * 2 ^ (7 * i) < 18446744073709551616 ∧ acc < 18446744073709551616 ∧ bits .or .u64 acc (IntKind.u64.wrap (c % 128 * 2 ^ (7 * i))) = ((acc.toNat + (c % 128).toNat * 2 ^ (7 * i) : Nat) : Int) := by
  have h3 : (c % 128).toNat * 2 ^ (7 * i) < 18446744073709551616 := by
    by_cases e : i = 9
    · subst e
      have := h9 rfl
      have h1 : (c % 128).toNat ≤ 1 := by omega
      calc (c % 128).toNat * 2 ^ (7 * 9) ≤ 1 * 2 ^ (7 * 9) := Nat.mul_le_mul_right _ h1
        _ < _ := by decide
    · have hp : 2 ^ (7 * i) ≤ 2 ^ 56 := Nat.pow_le_pow_right (by decide) (by omega)
      calc (c % 128).toNat * 2 ^ (7 * i) ≤ 127 * 2 ^ 56 := Nat.mul_le_mul (by omega) hp
        _ < _ := by decide
  have h4 : acc < 18446744073709551616 := by
    have hp : 2 ^ (7 * i) ≤ 2 ^ 63 := Nat.pow_le_pow_right (by decide) (by omega)
    have := h.2.1
    have e : (2 : Nat) ^ 63 = 9223372036854775808 := by decide
    omega
  exact ⟨h3, h4, shor acc _ _ h.1 h.2.1 (by omega) h3 h4⟩
theorem RdRel.last {l : List UInt8} {i : Nat} {acc c : Int} (h : RdRel l i acc) (hl : i < l.length) (hi : i < 10) (hc : c = (l[i].toNat : Int)) (h9 : i = 9 → c ≤ 1) (hlt : c < 128) :
    M.rd l = some (acc.toNat + (c % 128).toNat * 2 ^ (7 * i), i + 1) := by
  rw [h.2.2, List.drop_eq_getElem_cons hl, M.rdAt, if_neg (by omega), if_neg (by rintro ⟨a, b⟩; have := h9 a; omega), if_pos (by omega)]
  simp only [Option.map_some]
  rw [show (c % 128).toNat = l[i].toNat by omega]
theorem RdRel.next {l : List UInt8} {i : Nat} {acc c : Int} (h : RdRel l i acc) (hl : i < l.length) (hi : i < 10) (hc : c = (l[i].toNat : Int)) (h9 : i = 9 → c ≤ 1) (hge : 128 ≤ c) (hb : c ≤ 255) :
    RdRel l (i + 1) ((acc.toNat + (c % 128).toNat * 2 ^ (7 * i) : Nat) : Int) := by
  have e7 : 2 ^ (7 * (i + 1)) = 128 * 2 ^ (7 * i) := by rw [Nat.mul_add, Nat.pow_add, Nat.mul_comm]
  refine ⟨by omega, ?_, ?_⟩
  · rw [e7]
    have h1 := h.2.1
    have h0 := h.1
    have h2 : (c % 128).toNat * 2 ^ (7 * i) ≤ 127 * 2 ^ (7 * i) := Nat.mul_le_mul_right _ (by omega)
    have h3 : acc.toNat < 2 ^ (7 * i) := by omega
    generalize 2 ^ (7 * i) = p at *
    generalize (c % 128).toNat * p = q at *
    omega
  · rw [h.2.2, List.drop_eq_getElem_cons hl, M.rdAt, if_neg (by omega), if_neg (by rintro ⟨a, b⟩; have := h9 a; omega), if_neg (by omega)]
    rw [Option.map_map]
    congr 1
    funext x
    simp only [Function.comp]
    have e : l[i].toNat % 128 = (c % 128).toNat := by omega
    rw [e, e7, Int.toNat_natCast, Nat.add_mul]
    congr 1
    · rw [Nat.add_assoc]
      congr 2
      rw [Nat.mul_comm 128 x.1, Nat.mul_assoc]
    · omega
theorem rd_index_str {P : Program} {T : TypeId} (hT : P.underlying T = some .string) (l : List UInt8) (k : Nat) (h : k < l.length) (c : Int) (hc : c = (l[k].toNat : Int)) (W : World) :
    (Instr.index T (.string ⟨l.toArray⟩) (.int .i64 (k : Int))).run P W = .ok (.int .u8 c) W := by
  rw [run_index_string _ _ _ _ _ hT, dif_pos ⟨by omega, by simp [ByteArray.size]; omega⟩, hc]
  simp
  rfl

set_option maxHeartbeats 1000000 in
theorem readNum_any (l : List UInt8) (w : World) (hl : l.length ≤ 9223372036854775807) :
    Calls Tryz.prog 108 #[.string ⟨l.toArray⟩] w fun e w' => e = .returned (rdVal l) ∧ w = w' := by
  rcases Nat.lt_or_ge 10 l.length with hmn | hmn
  all_goals
    go_enter Tryz.func108, Tryz.ntmps108
    go_wp2
    go_loop [5, 11] (fun n i => ∃ (k : Nat) (acc : Int), k ≤ l.length ∧ k ≤ 10 ∧ i = .int .i64 (k : Int) ∧ n = .int .u64 acc ∧ RdRel l k acc) (fun _ i => 10 - (intOf i).toNat)
    case atStart => exact ⟨0, 0, by omega, by omega, rfl, rfl, RdRel.start l⟩
    case round =>
      obtain ⟨k, acc, hk, hk10, rfl, rfl, hrl⟩ := hrel
      by_cases hlt : k < l.length ∧ k < 10
      · obtain ⟨h1, h2⟩ := hlt
        obtain ⟨c, hc⟩ : ∃ c : Int, c = (l[k].toNat : Int) := ⟨_, rfl⟩
        have hc0 : 0 ≤ c := by omega
        have hc1 : c ≤ 255 := by have := l[k].toNat_lt; omega
        have hix := fun W => rd_index_str (P := Tryz.prog) Tryz.underlying9 l k h1 c hc W
        have Hc := Lib.hid hc; clear hc
        have Hr := Lib.hid hrl; clear hrl
        by_cases h9 : k = 9 ∧ 1 < c
        · obtain ⟨h90, h91⟩ := h9
          have fin := RdRel.nine Hr.out h90 h1 Hc.out h91
          have Fin := Lib.hid fin; clear fin
          have hn9 : ((k : Int) == 9) = true := by simp; omega
          clear h90 hl hmn hk hk10
          go_wp2
          go_ret3
          exact ⟨by rw [rdVal_none Fin.out]; rfl, rfl⟩
        · have hn9 : k = 9 → c ≤ 1 := by omega
          obtain ⟨f1, f2, f3⟩ := RdRel.fit Hr.out h2 hc0 hc1 hn9
          have F3 := Lib.hid f3
          by_cases h3 : c < 128
          · have fin := RdRel.last Hr.out h1 h2 Hc.out hn9 h3
            have Fin := Lib.hid fin; clear fin
            clear f1 f2 f3
            by_cases h90 : k = 9
            · have hb9 : ((k : Int) == 9) = true := by simp; omega
              have hc9 : c ≤ 1 := by omega
              clear h9 hn9 h90 hl hmn hk hk10
              go_wp2
              go_ret3
              exact ⟨by rw [rdVal_some Fin.out, ← F3.out]; rfl, rfl⟩
            · have hb9 : ((k : Int) == 9) = false := by simp; omega
              clear h9 hn9 h90 hl hmn hk hk10
              go_wp2
              go_ret3
              exact ⟨by rw [rdVal_some Fin.out, ← F3.out]; rfl, rfl⟩
          · have fin := RdRel.next Hr.out h1 h2 Hc.out hn9 (by omega) hc1
            have Fin := Lib.hid fin; clear fin
            have hge : 128 ≤ c := by omega
            clear f1 f2 f3
            by_cases h90 : k = 9
            · exfalso; omega
            · have hb9 : ((k : Int) == 9) = false := by simp; omega
              have hk11 : k + 1 ≤ 10 := by omega
              have hkl : k + 1 ≤ l.length := by omega
              clear h9 hn9 h90 hmn hk hk10
              go_wp2
              go_round
              case rel => exact ⟨k + 1, _, hkl, hk11, by go_num, by rw [F3.out], Fin.out⟩
              case measure => simp [intOf]; omega
      · have fin := RdRel.out hrl hlt
        have Fin := Lib.hid fin; clear fin
        have Hr := Lib.hid hrl; clear hrl
        have hge : ¬ k < 10 ∨ ¬ k < l.length := by omega
        clear hlt
        rcases hge with hge | hge
        all_goals
          go_wp2
          all_goals
            go_ret3
            exact ⟨by rw [rdVal_none Fin.out]; rfl, rfl⟩
end Go.Proofs.YtnnnnlcpmocnfaaGreatDoor

/- THE WALKS OVER THE DOCUMENT's OWN ANSWERS FOR NUMBERS: Zig, Zag, Num, ReadNum. -/
namespace Go.Proofs.YtnnnnlcpmocnfaaGreatDoor
open Go.RowKit
set_option linter.unusedVariables false
set_option linter.unusedSimpArgs false

set_option maxHeartbeats 1000000 in
theorem rnum_any (m : Int) (w : World) (hm0 : 0 ≤ m) (hm : m ≤ 18446744073709551615) :
    Calls Tryz.prog 93 #[.int .u64 m] w fun e w' => e = .returned (.string ⟨(M.vnum m.toNat).toArray⟩) ∧ Below w.heap.size w w' := by
  have hvl := M.vnum_len10 m.toNat (by omega)
  go_enter Tryz.func93, Tryz.ntmps93
  go_wp2
  go_loopw [3, 0] (fun v n wr => ∃ (k : Int) (ys : List UInt8), n = .int .u64 k ∧ 0 ≤ k ∧ k ≤ m ∧ M.vnum m.toNat = ys ++ M.vnum k.toNat ∧ Bytes 5 wr w.heap.size v ys ∧ Below w.heap.size w wr) (fun _ n _ => (intOf n).toNat)
  case atStart => exact ⟨m, [], rfl, hm0, by omega, rfl, Bytes.nil _ _, Below.refl _ _⟩
  case round =>
    obtain ⟨k, ys, rfl, hk0, hk, hys, hown1, hg⟩ := hrel
    have hle : ys.length ≤ 140737488355000 := by
      have := congrArg List.length hys
      simp only [List.length_append] at this ⊢
      omega
    have Hys := Lib.hid hys; clear hys
    have Hle := Lib.hid hle; clear hle
    have Hg := Lib.hid hg; clear hg
    have hkm : k ≤ 18446744073709551615 := by omega
    have hmk : k ≤ m := hk
    clear hm hk hvl
    by_cases hlt : k < 128
    · go_wp2_with (at_builtin; refine wp_app_byte Tryz.info5 Tryz.underlying110 rfl _ _ rfl w.heap.size _ _ rfl hown1 (M.by8 k.toNat) _ (B_of (by omega) (by omega)) rfl Hle.out Hg.out.size ?_)
      · intro v' w1 hown' hg'
        have e := Hys.out
        rw [M.vnum_lt (n := k.toNat) (by omega)] at e
        have hbel := Hg.out.trans (hg'.below Hg.out.size (fun j hj => (hown1.lt j hj).1))
        have hconv := hown'.conv Tryz.underlying110 Tryz.underlying5 Tryz.underlying9
        have E := Lib.hid e
        have Hbel := Lib.hid hbel
        clear e hbel hown' hg' hown1
        go_wp2
        go_ret
        exact ⟨by rw [E.out]; rfl, Hbel.out⟩
    · go_wp2_with (at_builtin; refine wp_app_byte Tryz.info5 Tryz.underlying110 rfl _ _ rfl w.heap.size _ _ rfl hown1 (M.by8 (k.toNat % 128 + 128)) _ (B_of (by omega) (by omega)) rfl Hle.out Hg.out.size ?_)
      · intro v' w1 hown' hg'
        have hbel := Hg.out.trans (hg'.below Hg.out.size (fun j hj => (hown1.lt j hj).1))
        have Hbel := Lib.hid hbel
        clear hbel
        go_wp2
        go_roundw
        case rel =>
          have e := Hys.out
          rw [M.vnum_ge (n := k.toNat) (by omega)] at e
          refine ⟨k / 128, ys ++ [M.by8 (k.toNat % 128 + 128)], by go_num, by omega, by omega, ?_, by simpa using hown', Hbel.out⟩
          rw [e, List.append_assoc, show (k / 128).toNat = k.toNat / 128 by omega]; rfl
        case measure => simp [intOf]; omega

/-- what a round adds, and that nothing wraps -/
theorem RdRel.sum {l : List UInt8} {i : Nat} {acc c u : Int} (h : RdRel l i acc) (hi : i < 10) (hc : 0 ≤ c) (hc1 : c ≤ 255) (h9 : i = 9 → c ≤ 1) (hu : u = ((2 ^ (7 * i) : Nat) : Int)) :
    ∃ p : Int, p = (((c % 128).toNat * 2 ^ (7 * i) : Nat) : Int) ∧ 0 ≤ p ∧ acc + p ≤ 18446744073709551615 ∧ IntKind.u64.wrap (u * (c % 128)) = p := by
  obtain ⟨f1, f2, _⟩ := h.fit hi hc hc1 h9
  refine ⟨_, rfl, by omega, ?_, ?_⟩
  · have h1 := h.2.1
    have h0 := h.1
    by_cases e : i = 9
    · subst e
      have := h9 rfl
      have hh : (c % 128).toNat * 2 ^ (7 * 9) ≤ 1 * 2 ^ (7 * 9) := Nat.mul_le_mul_right _ (by omega)
      have e9 : (2 : Nat) ^ (7 * 9) = 9223372036854775808 := by decide
      rw [e9] at hh h1 ⊢
      omega
    · have hp : 2 ^ (7 * i) ≤ 2 ^ 56 := Nat.pow_le_pow_right (by decide) (by omega)
      have e9 : (2 : Nat) ^ 56 = 72057594037927936 := by decide
      have hh : (c % 128).toNat * 2 ^ (7 * i) ≤ 127 * 2 ^ 56 := Nat.mul_le_mul (by omega) hp
      rw [e9] at hh hp
      omega
  · have e1 : u * (c % 128) = (((c % 128).toNat * 2 ^ (7 * i) : Nat) : Int) := by
      rw [hu, Int.natCast_mul, Int.mul_comm, Int.toNat_of_nonneg (by omega)]
    rw [e1, IntKind.wrap_u64]
    omega

set_option maxHeartbeats 2000000 in
theorem rreadNum_any (l : List UInt8) (w : World) (hl : l.length ≤ 9223372036854775807) :
    Calls Tryz.prog 96 #[.string ⟨l.toArray⟩] w fun e w' => e = .returned (rdVal l) ∧ w = w' := by
  go_enter Tryz.func96, Tryz.ntmps96
  go_wp2
  go_loop [5, 6, 7] (fun n u i => ∃ (k : Nat) (acc uu : Int), k ≤ l.length ∧ k ≤ 9 ∧ i = .int .i64 (k : Int) ∧ n = .int .u64 acc ∧ u = .int .u64 uu ∧ uu = ((2 ^ (7 * k) : Nat) : Int) ∧ RdRel l k acc) (fun _ _ i => 10 - (intOf i).toNat)
  case atStart => exact ⟨0, 0, 1, by omega, by omega, rfl, rfl, rfl, rfl, RdRel.start l⟩
  case round =>
    obtain ⟨k, acc, uu, hk, hk10, rfl, rfl, rfl, hu, hrl⟩ := hrel
    have hk10' : (k : Int) < 10 := by omega
    by_cases h1 : k < l.length
    · obtain ⟨c, hc⟩ : ∃ c : Int, c = (l[k].toNat : Int) := ⟨_, rfl⟩
      have hc0 : 0 ≤ c := by omega
      have hc1 : c ≤ 255 := by have := l[k].toNat_lt; omega
      have hix := fun W => rd_index_str (P := Tryz.prog) Tryz.underlying9 l k h1 c hc W
      have Hc := Lib.hid hc; clear hc
      have Hr := Lib.hid hrl; clear hrl
      have Hu := Lib.hid hu; clear hu
      by_cases h9 : k = 9 ∧ 1 < c
      · obtain ⟨h90, h91⟩ := h9
        have fin := RdRel.nine Hr.out h90 h1 Hc.out h91
        have Fin := Lib.hid fin; clear fin
        have hn9 : ((k : Int) == 9) = true := by simp; omega
        clear h90 hl hk hk10
        go_wp2
        go_ret3
        exact ⟨by rw [rdVal_none Fin.out]; rfl, rfl⟩
      · have hn9 : k = 9 → c ≤ 1 := by omega
        obtain ⟨p, hp, hp0, hp1, hpw⟩ := RdRel.sum Hr.out (by omega) hc0 hc1 hn9 Hu.out
        have hacc0 := Hr.out.1
        have hsumn : acc + p = ((acc.toNat + (c % 128).toNat * 2 ^ (7 * k) : Nat) : Int) := by omega
        have Hsum := Lib.hid hsumn
        clear hp hsumn
        have hub : 0 ≤ uu := by rw [Hu.out]; exact Int.natCast_nonneg _
        by_cases h3 : c < 128
        · have fin := RdRel.last Hr.out h1 (by omega) Hc.out hn9 h3
          have Fin := Lib.hid fin; clear fin
          by_cases h90 : k = 9
          · have hb9 : ((k : Int) == 9) = true := by simp; omega
            have hc9 : c ≤ 1 := by omega
            clear h9 hn9 h90 hl hk hk10
            go_wp2
            go_ret3
            exact ⟨by rw [rdVal_some Fin.out, ← Hsum.out]; rfl, rfl⟩
          · have hb9 : ((k : Int) == 9) = false := by simp; omega
            clear h9 hn9 h90 hl hk hk10
            go_wp2
            go_ret3
            exact ⟨by rw [rdVal_some Fin.out, ← Hsum.out]; rfl, rfl⟩
        · have fin := RdRel.next Hr.out h1 (by omega) Hc.out hn9 (by omega) hc1
          have Fin := Lib.hid fin; clear fin
          have hge : 128 ≤ c := by omega
          by_cases h90 : k = 9
          · exfalso; have := hn9 h90; omega
          · have hb9 : ((k : Int) == 9) = false := by simp; omega
            have hk11 : k + 1 ≤ 9 := by omega
            have hkl : k + 1 ≤ l.length := by omega
            have hu56 : uu ≤ 72057594037927936 := by
              have hp : 2 ^ (7 * k) ≤ 2 ^ 56 := Nat.pow_le_pow_right (by decide) (by omega)
              have e9 : (2 : Nat) ^ 56 = 72057594037927936 := by decide
              rw [e9] at hp
              rw [Hu.out]
              exact Int.ofNat_le.2 hp
            have hun : uu * 128 = ((2 ^ (7 * (k + 1)) : Nat) : Int) := by
              rw [Hu.out, show 7 * (k + 1) = 7 * k + 7 by omega, Nat.pow_add]
              simp
            have Hun := Lib.hid hun
            clear h9 hn9 h90 hk hk10 hun
            go_wp2
            go_round
            case rel => exact ⟨k + 1, acc + p, uu * 128, hkl, hk11, by go_num, rfl, rfl, Hun.out, by rw [Hsum.out]; exact Fin.out⟩
            case measure => simp [intOf]; omega
    · have fin := RdRel.out hrl (by omega)
      have Fin := Lib.hid fin; clear fin
      have Hr := Lib.hid hrl; clear hrl
      have Hu := Lib.hid hu; clear hu
      go_wp2
      go_ret3
      exact ⟨by rw [rdVal_none Fin.out]; rfl, rfl⟩
end Go.Proofs.YtnnnnlcpmocnfaaGreatDoor

/- THE WALKS OVER the reader's num, take, fixed. -/
namespace Go.Proofs.YtnnnnlcpmocnfaaGreatDoor
open Go.RowKit
set_option linter.unusedVariables false

/-- block g is a reader that has l left -/
def Rdr (w : World) (g : Nat) (l : List UInt8) : Prop := w.heap[g]? = some (.cells #[.string ⟨l.toArray⟩] 128 (0, 0))
theorem Rdr.cell {w : World} {g : Nat} {l : List UInt8} (h : Rdr w g l) : w.cell? ⟨g, 0, none⟩ = some (.string ⟨l.toArray⟩) := cell_of_one h
theorem Rdr.free {w : World} {g : Nat} {l : List UInt8} (h : Rdr w g l) : w.frozen? ⟨g, 0, none⟩ = false := free_of_one h
theorem Rdr.set {w : World} {g : Nat} {l : List UInt8} (h : Rdr w g l) (l' : List UInt8) : Rdr (w.setCell ⟨g, 0, none⟩ (.string ⟨l'.toArray⟩)) g l' := one_setCell h
theorem Rdr.lt {w : World} {g : Nat} {l : List UInt8} (h : Rdr w g l) : g < w.heap.size := (Array.getElem?_eq_some_iff.1 h).1
theorem Rdr.grown {w w' : World} {g : Nat} {l : List UInt8} (h : Rdr w g l) {r : Option Nat} (hg : w.grownBy w' r) (hne : some g ≠ r) : Rdr w' g l := (hg.block g h.lt hne).trans h
theorem grownBy_set {w : World} (g : Nat) (v : Value) : w.grownBy (w.setCell ⟨g, 0, none⟩ v) (some g) :=
  ⟨rfl, rfl, rfl, by simp [World.setCell], fun k _ hk => Below.heap_setCell w _ v k (by intro e; exact hk (by rw [e]))⟩

/-- an error's panic -/
abbrev pan (e : Int) : Ending := .panicked [{ v := .iface 31 (.int .i64 e), recovered := false }]

theorem extract_drop (l : List UInt8) (k : Nat) : (ByteArray.mk l.toArray).extract k l.length = ⟨(l.drop k).toArray⟩ := by
  rw [ByteArray.extract_mk]
  congr 2
  apply List.take_of_length_le
  simp
theorem extract_take (l : List UInt8) (k : Nat) : (ByteArray.mk l.toArray).extract 0 k = ⟨(l.take k).toArray⟩ := by
  rw [ByteArray.extract_mk]
  rfl

theorem num_none (g : Nat) (l : List UInt8) (w : World) (hl : l.length ≤ 9223372036854775807) (hx : Rdr w g l) (hr : M.rd l = none) :
    Calls Tryz.prog 105 #[.pointer (some ⟨g, 0, none⟩)] w fun e w' => e = pan 9 ∧ w = w' := by
  have hc := hx.cell
  have hn := fun W => readNum_any l W hl
  rw [rdVal_none hr] at hn
  have Hn := Lib.hid hn
  clear hn hr hl hx
  go_enter Tryz.func105, Tryz.ntmps105
  go_wp2_with fail
  refine (Hn.out _).mono ?_
  rintro e w' ⟨rfl, rfl⟩
  go_wp2
  exact ⟨rfl, rfl, rfl⟩
theorem num_some (g : Nat) (l : List UInt8) (w : World) (hl : l.length ≤ 9223372036854775807) (hx : Rdr w g l) (n k : Nat) (hr : M.rd l = some (n, k)) :
    Calls Tryz.prog 105 #[.pointer (some ⟨g, 0, none⟩)] w fun e w' => e = .returned (.int .u64 (n : Int)) ∧ w.setCell ⟨g, 0, none⟩ (.string ⟨(l.drop k).toArray⟩) = w' := by
  have hc := hx.cell
  have hf := hx.free
  have hn := fun W => readNum_any l W hl
  rw [rdVal_some hr] at hn
  have hb := (M.rd_bound hr).2.1
  have hex := extract_drop l k
  have Hn := Lib.hid hn
  have Hex := Lib.hid hex
  clear hn hr hl hx hex
  go_enter Tryz.func105, Tryz.ntmps105
  go_wp2_with fail
  refine (Hn.out _).mono ?_
  rintro e w' ⟨rfl, rfl⟩
  go_wp2
  go_ret
  exact ⟨rfl, by rw [Hex.out]⟩

theorem take_no (g : Nat) (l : List UInt8) (m : Int) (w : World) (hl : l.length ≤ 9223372036854775807) (hx : Rdr w g l) (hm : (l.length : Int) < m) :
    Calls Tryz.prog 107 #[.pointer (some ⟨g, 0, none⟩), .int .u64 m] w fun e w' => e = pan 10 ∧ w = w' := by
  have hc := hx.cell
  clear hx
  go_enter Tryz.func107, Tryz.ntmps107
  go_wp2
  exact ⟨rfl, rfl, rfl⟩
theorem take_yes (g : Nat) (l : List UInt8) (m : Int) (w : World) (hl : l.length ≤ 9223372036854775807) (hx : Rdr w g l) (h0 : 0 ≤ m) (hm : m ≤ (l.length : Int)) :
    Calls Tryz.prog 107 #[.pointer (some ⟨g, 0, none⟩), .int .u64 m] w fun e w' => e = .returned (.string ⟨(l.take m.toNat).toArray⟩) ∧ w.setCell ⟨g, 0, none⟩ (.string ⟨(l.drop m.toNat).toArray⟩) = w' := by
  have hc := hx.cell
  have hf := hx.free
  obtain ⟨k, rfl⟩ := Int.eq_ofNat_of_zero_le h0
  have hk : k ≤ l.length := by omega
  have hex := extract_drop l k
  have het := extract_take l k
  rw [Int.toNat_natCast]
  have Hex := Lib.hid hex
  have Het := Lib.hid het
  clear hx hex het hm h0
  go_enter Tryz.func107, Tryz.ntmps107
  go_wp2
  go_ret
  exact ⟨by rw [← Het.out]; rfl, by rw [Hex.out]⟩
end Go.Proofs.YtnnnnlcpmocnfaaGreatDoor

/- THE WALK OVER the reader's fixed. -/
namespace Go.Proofs.YtnnnnlcpmocnfaaGreatDoor
open Go.RowKit
set_option linter.unusedVariables false

theorem fixed_no (g : Nat) (l : List UInt8) (m : Int) (w : World) (hl : l.length ≤ 9223372036854775807) (hx : Rdr w g l) (hm : (l.length : Int) < m) :
    Calls Tryz.prog 106 #[.pointer (some ⟨g, 0, none⟩), .int .u64 m] w fun e w' => e = pan 10 ∧ w = w' := by
  go_enter Tryz.func106, Tryz.ntmps106
  go_wp2_with fail
  refine (take_no g l m w hl hx hm).mono ?_
  rintro e w' ⟨rfl, rfl⟩
  go_wp2
  exact ⟨rfl, rfl, rfl⟩

theorem unle_snoc : ∀ (l : List UInt8) (b : UInt8), M.unle (l ++ [b]) = M.unle l + b.toNat * 2 ^ (8 * l.length)
  | [], b => by simp [M.unle]
  | x :: t, b => by
    simp only [List.cons_append, M.unle, unle_snoc t b, List.length_cons]
    rw [show 8 * (t.length + 1) = 8 * t.length + 8 by omega, Nat.pow_add]
    simp only [Nat.reducePow]
    rw [Nat.mul_add, ← Nat.add_assoc]
    congr 1
    rw [Nat.mul_left_comm, Nat.mul_comm 256]

theorem conv_bytes {P : Program} {S T E : TypeId} (w : World) (l : List UInt8) (hS : P.underlying S = some .string) (hT : P.underlying T = some (.slice E)) (hE : P.underlying E = some (.int .u8)) :
    ∃ (C : Nat) (w1 : World), (convert S T (.string ⟨l.toArray⟩)).run P w = .ok (.slice (some ⟨w.heap.size, 0, none⟩) l.length C) w1 ∧ Below w.heap.size w w1 ∧
      ∀ j (h : j < l.length), w1.cell? ⟨w.heap.size, j, none⟩ = some (.int .u8 (l[j].toNat : Int)) := by
  have h := run_bytes_of_string (P := P) w S T E ⟨l.toArray⟩ hS hT hE
  have hs : (ByteArray.mk l.toArray).size = l.length := by simp [ByteArray.size]
  rw [hs] at h
  refine ⟨_, _, h, ?_, ?_⟩
  · exact ((Below.refl _ w).drew).alloc (Nat.le_refl _) _
  · intro j hj
    have h := World.cell?_alloc_mark w.drew (bytesRow ⟨l.toArray⟩ (grownCap w l.length 0 E)) E ((bytesRow ⟨l.toArray⟩ (grownCap w l.length 0 E)).size, (bytesRow ⟨l.toArray⟩ (grownCap w l.length 0 E)).size + 1) j
    refine h.trans ?_
    rw [bytesRow_at _ _ j (by simpa using hj)]
    simp

set_option maxHeartbeats 1000000 in
theorem fixed_yes (g : Nat) (l : List UInt8) (z : Nat) (w : World) (hl : l.length ≤ 9223372036854775807) (hx : Rdr w g l) (hz : z ≤ 8) (hm : z ≤ l.length) :
    Calls Tryz.prog 106 #[.pointer (some ⟨g, 0, none⟩), .int .u64 (z : Int)] w fun e w' => e = .returned (.int .u64 (M.unle (l.take z) : Int)) ∧ Rdr w' g (l.drop z) ∧ w.grownBy w' (some g) := by
  have ht := take_yes g l (z : Int) w hl hx (by omega) (by omega)
  simp only [Int.toNat_natCast] at ht
  obtain ⟨C, w1, hcv, hbel, hcell⟩ := conv_bytes (P := Tryz.prog) (w.setCell ⟨g, 0, none⟩ (.string ⟨(l.drop z).toArray⟩)) (l.take z) Tryz.underlying9 Tryz.underlying110 Tryz.underlying5
  have hlz : (l.take z).length = z := by rw [List.length_take]; omega
  have hsz : (w.setCell ⟨g, 0, none⟩ (.string ⟨(l.drop z).toArray⟩)).heap.size = w.heap.size := by simp [World.setCell]
  rw [hsz] at hbel hcell hcv
  rw [hlz] at hcv
  have hgr : w.grownBy w1 (some g) := grownBy_step (grownBy_set g _) (⟨hbel.os, hbel.tape, hbel.output, hbel.size, fun k hk _ => hbel.block k (by rw [← hsz]; exact hk)⟩ : World.grownBy _ w1 none) (.inr (.inl rfl))
  have hrd : Rdr w1 g (l.drop z) := (hbel.block g hx.lt).trans (hx.set _)
  have Ht := Lib.hid ht
  have Hgr := Lib.hid hgr
  have Hrd := Lib.hid hrd
  have Hcell := Lib.hid hcell
  have Hlz := Lib.hid hlz
  clear ht hgr hrd hcell hbel hsz hlz hx
  obtain ⟨r, hr⟩ : ∃ r : Nat, r = M.unle (l.take z) := ⟨_, rfl⟩
  rw [← hr]
  have Hr := Lib.hid hr
  clear hr
  go_enter Tryz.func106, Tryz.ntmps106
  go_wp2_with fail
  refine (Ht.out).mono ?_
  rintro e w' ⟨rfl, rfl⟩
  go_wp2
  go_loop [5, 13] (fun s i => ∃ (k acc : Nat), i = .int .i64 (k : Int) ∧ k ≤ z ∧ s = .int .u64 (acc : Int) ∧ acc = M.unle ((l.take z).take k)) (fun _ i => z - (intOf i).toNat)
  case atStart => exact ⟨0, 0, rfl, by omega, rfl, rfl⟩
  case round =>
    obtain ⟨k, acc, rfl, hk, rfl, hacc⟩ := hrel
    by_cases hlt : k < z
    · have hkz : k < (l.take z).length := by rw [Hlz.out]; exact hlt
      obtain ⟨c, hc⟩ : ∃ c : Int, c = ((l.take z)[k].toNat : Int) := ⟨_, rfl⟩
      have hc0 : 0 ≤ c := by omega
      have hc1 : c ≤ 255 := by have := (l.take z)[k].toNat_lt; omega
      have hq : w1.cell? ⟨w.heap.size, k, none⟩ = some (.int .u8 c) := by rw [hc]; exact Hcell.out k hkz
      have hlen : ((l.take z).take k).length = k := by rw [List.length_take]; omega
      have hb := M.unle_lt ((l.take z).take k)
      rw [hlen, show (256 : Nat) ^ k = 2 ^ (8 * k) by rw [Nat.pow_mul], ← hacc] at hb
      have hsn : acc + c.toNat * 2 ^ (8 * k) = M.unle ((l.take z).take (k + 1)) := by
        rw [List.take_succ_eq_append_getElem hkz, unle_snoc, hlen, ← hacc, hc, Int.toNat_natCast]
      have hp : 2 ^ (8 * k) ≤ 2 ^ 56 := Nat.pow_le_pow_right (by decide) (by omega)
      have hb2 : c.toNat * 2 ^ (8 * k) < 18446744073709551616 := by
        calc c.toNat * 2 ^ (8 * k) ≤ 255 * 2 ^ 56 := Nat.mul_le_mul (by omega) hp
          _ < _ := by decide
      have hor := shor (acc : Int) c (8 * k) (by omega) (by exact Int.ofNat_lt.2 hb) hc0 hb2 (by
        have e : (2 : Nat) ^ 56 = 72057594037927936 := by decide
        omega)
      rw [Int.toNat_natCast] at hor
      have Hor := Lib.hid hor
      have Hsn := Lib.hid hsn
      clear hc hkz hlen hb hsn hp hb2 hor hacc hl hm
      go_wp2
      go_round
      case rel => exact ⟨k + 1, acc + c.toNat * 2 ^ (8 * k), by go_num, by omega, by rw [Hor.out], Hsn.out⟩
      case measure => simp [intOf]; omega
    · have hkz : k = z := by omega
      have hfin : acc = r := by rw [Hr.out, hacc, hkz, List.take_of_length_le (by rw [Hlz.out]; omega)]
      have Hfin := Lib.hid hfin
      clear hacc hkz hfin
      go_wp2
      go_ret
      exact ⟨by rw [← Hfin.out]; rfl, Hrd.out, Hgr.out⟩
end Go.Proofs.YtnnnnlcpmocnfaaGreatDoor

/- THE WALK OVER the reader's field. -/
namespace Go.Proofs.YtnnnnlcpmocnfaaGreatDoor
open Go.RowKit
set_option linter.unusedVariables false
set_option linter.unusedSimpArgs false

/-- num, with what is kept -/
theorem num_keep (g : Nat) (l : List UInt8) (w : World) (hl : l.length ≤ 9223372036854775807) (hx : Rdr w g l) (n k : Nat) (hr : M.rd l = some (n, k)) :
    Calls Tryz.prog 105 #[.pointer (some ⟨g, 0, none⟩)] w fun e w' => e = .returned (.int .u64 (n : Int)) ∧ Rdr w' g (l.drop k) ∧ w.grownBy w' (some g) :=
  (num_some g l w hl hx n k hr).mono fun _ _ ⟨he, hw⟩ => ⟨he, by rw [← hw]; exact hx.set _, by rw [← hw]; exact grownBy_set g _⟩
theorem take_keep (g : Nat) (l : List UInt8) (m : Int) (w : World) (hl : l.length ≤ 9223372036854775807) (hx : Rdr w g l) (h0 : 0 ≤ m) (hm : m ≤ (l.length : Int)) :
    Calls Tryz.prog 107 #[.pointer (some ⟨g, 0, none⟩), .int .u64 m] w fun e w' => e = .returned (.string ⟨(l.take m.toNat).toArray⟩) ∧ Rdr w' g (l.drop m.toNat) ∧ w.grownBy w' (some g) :=
  (take_yes g l m w hl hx h0 hm).mono fun _ _ ⟨he, hw⟩ => ⟨he, by rw [← hw]; exact hx.set _, by rw [← hw]; exact grownBy_set g _⟩

/-- block b holds four cells -/
def Blk4 (w : World) (b : Nat) (x0 x1 x2 x3 : Value) : Prop := w.heap[b]? = some (.cells #[x0, x1, x2, x3] 73 (0, 0))
theorem Blk4.keep {w w' : World} {b g : Nat} {x0 x1 x2 x3 : Value} (h : Blk4 w b x0 x1 x2 x3) (hg : w.grownBy w' (some g)) (hne : b ≠ g) : Blk4 w' b x0 x1 x2 x3 :=
  (hg.block b (Array.getElem?_eq_some_iff.1 h).1 (by intro e; injection e with e; exact hne e)).trans h
theorem Blk4.alloc {w : World} {b : Nat} {x0 x1 x2 x3 : Value} (h : Blk4 w b x0 x1 x2 x3) (o : Obj) : Blk4 (w.alloc o) b x0 x1 x2 x3 := blk_alloc h o
theorem Blk4.facts {w : World} {b : Nat} {x0 x1 x2 x3 : Value} (h : Blk4 w b x0 x1 x2 x3) :
    (w.cell? ⟨b, 0, none⟩ = some x0 ∧ w.cell? ⟨b, 1, none⟩ = some x1 ∧ w.cell? ⟨b, 2, none⟩ = some x2 ∧ w.cell? ⟨b, 3, none⟩ = some x3) ∧
    w.frozen? ⟨b, 0, none⟩ = false ∧ w.frozen? ⟨b, 1, none⟩ = false ∧ w.frozen? ⟨b, 2, none⟩ = false ∧ w.frozen? ⟨b, 3, none⟩ = false :=
  ⟨box4 h, by simp [World.frozen?, show w.heap[b]? = _ from h], by simp [World.frozen?, show w.heap[b]? = _ from h], by simp [World.frozen?, show w.heap[b]? = _ from h], by simp [World.frozen?, show w.heap[b]? = _ from h]⟩
theorem grown_alloc {w w' : World} {r : Option Nat} (h : w.grownBy w' r) (o : Obj) : w.grownBy (w'.alloc o) r := grownBy_step h (World.grownBy_alloc w' o none) (.inr (.inl rfl))
theorem grown_new {w w' : World} {r : Option Nat} (h : w.grownBy w' r) {p : Addr} (hp : w.heap.size ≤ p.block) (v : Value) : w.grownBy (w'.setCell p v) r :=
  grownBy_step (s := some p.block) h ⟨rfl, rfl, rfl, by simp [World.setCell], fun k _ hk => Below.heap_setCell w' _ v k (by intro e; exact hk (by rw [e]))⟩ (.inr (.inr ⟨_, rfl, hp⟩))
theorem grown_same {w w' w2 : World} {r : Option Nat} (h : w.grownBy w' r) (k : w'.grownBy w2 r) : w.grownBy w2 r := grownBy_step h k (.inl rfl)

theorem Rdr.far {w : World} {g : Nat} {l : List UInt8} (h : Rdr w g l) {b o : Nat} {v : Value} (hp : g ≠ b) : Rdr (w.setCell ⟨b, o, none⟩ v) g l := (Below.heap_setCell w _ v g hp).trans h
theorem field_e9 (g : Nat) (l : List UInt8) (w : World) (hl : l.length ≤ 9223372036854775807) (hx : Rdr w g l) (hr : M.rd l = none) :
    Calls Tryz.prog 103 #[.pointer (some ⟨g, 0, none⟩)] w fun e w' => e = pan 9 ∧ w.grownBy w' (some g) := by
  go_enter Tryz.func103, Tryz.ntmps103
  go_wp2_with fail
  refine (num_none g l _ hl (hx.grown (World.grownBy_alloc w _ none) (by simp)) hr).mono ?_
  rintro e w' ⟨rfl, rfl⟩
  go_wp2
  exact ⟨rfl, rfl, World.grownBy_alloc _ _ _⟩

set_option maxHeartbeats 1000000 in
theorem field_bad (g : Nat) (l : List UInt8) (w : World) (hl : l.length ≤ 9223372036854775807) (hx : Rdr w g l) (k a : Nat) (K : Int) (hK : K = (k : Int)) (hr : M.rd l = some (k, a)) (hb : K / 8 < 1 ∨ 536870911 < K / 8) :
    Calls Tryz.prog 103 #[.pointer (some ⟨g, 0, none⟩)] w fun e w' => e = pan 10 ∧ w.grownBy w' (some g) := by
  have hg0 := hx.lt
  have hK0 : 0 ≤ K := by omega
  have hK1 : K ≤ 18446744073709551615 := by have := (M.rd_bound hr).2.2.2; omega
  have hla : (l.drop a).length ≤ 9223372036854775807 := by rw [List.length_drop]; omega
  have hnum := fun W h => num_keep g l W hl h k a hr
  rw [← hK] at hnum
  have Hnum := Lib.hid hnum
  clear hnum hr hK hl
  go_enter Tryz.func103, Tryz.ntmps103
  go_wp2_with fail
  refine (Hnum.out _ (hx.grown (World.grownBy_alloc w _ none) (by simp))).mono ?_
  rintro e w1 ⟨rfl, hx1, hg1⟩
  have Hg1 := Lib.hid (grown_same (World.grownBy_alloc w _ _) hg1)
  clear hg1 hx1 hx
  rcases hb with hb | hb
  · go_wp2
    exact ⟨rfl, rfl, Hg1.out⟩
  · have hb1 : 1 ≤ K / 8 := by omega
    go_wp2
    exact ⟨rfl, rfl, Hg1.out⟩

set_option maxHeartbeats 1000000 in
theorem field_wire (g : Nat) (l : List UInt8) (w : World) (hl : l.length ≤ 9223372036854775807) (hx : Rdr w g l) (k a : Nat) (K : Int) (hK : K = (k : Int)) (hr : M.rd l = some (k, a)) (h1 : 1 ≤ K / 8) (h2 : K / 8 ≤ 536870911) (h8 : K % 8 = 3 ∨ K % 8 = 4 ∨ K % 8 = 6 ∨ K % 8 = 7) :
    Calls Tryz.prog 103 #[.pointer (some ⟨g, 0, none⟩)] w fun e w' => e = pan 10 ∧ w.grownBy w' (some g) := by
  have hg0 := hx.lt
  have hK0 : 0 ≤ K := by omega
  have hK1 : K ≤ 18446744073709551615 := by have := (M.rd_bound hr).2.2.2; omega
  have hla : (l.drop a).length ≤ 9223372036854775807 := by rw [List.length_drop]; omega
  have hnum := fun W h => num_keep g l W hl h k a hr
  rw [← hK] at hnum
  have Hnum := Lib.hid hnum
  clear hnum hr hK hl
  go_enter Tryz.func103, Tryz.ntmps103
  go_wp2_with fail
  refine (Hnum.out _ (hx.grown (World.grownBy_alloc w _ none) (by simp))).mono ?_
  rintro e w1 ⟨rfl, hx1, hg1⟩
  have Hg1 := Lib.hid (grown_same (World.grownBy_alloc w _ _) hg1)
  clear hg1 hx1 hx
  rcases h8 with h8 | h8 | h8 | h8
  all_goals
    go_wp2
    exact ⟨rfl, rfl, grown_alloc Hg1.out _⟩

set_option maxHeartbeats 1000000 in
theorem field_ok0 (g : Nat) (l : List UInt8) (w : World) (hl : l.length ≤ 9223372036854775807) (hx : Rdr w g l) (k a : Nat) (K : Int) (hK : K = (k : Int)) (hr : M.rd l = some (k, a)) (h1 : 1 ≤ K / 8) (h2 : K / 8 ≤ 536870911) (h8 : K % 8 = 0) (n b : Nat) (hr2 : M.rd (l.drop a) = some (n, b)) :
    Calls Tryz.prog 103 #[.pointer (some ⟨g, 0, none⟩)] w fun e w' => e = .returned (.agg (fcells (K / 8) 0 n [])) ∧ Rdr w' g ((l.drop a).drop b) ∧ w.grownBy w' (some g) := by
  have hg0 := hx.lt
  have hK0 : 0 ≤ K := by omega
  have hK1 : K ≤ 18446744073709551615 := by have := (M.rd_bound hr).2.2.2; omega
  have hla : (l.drop a).length ≤ 9223372036854775807 := by rw [List.length_drop]; omega
  have hnum := fun W h => num_keep g l W hl h k a hr
  rw [← hK] at hnum
  have Hnum := Lib.hid hnum
  clear hnum hr hK hl
  go_enter Tryz.func103, Tryz.ntmps103
  go_wp2_with fail
  refine (Hnum.out _ (hx.grown (World.grownBy_alloc w _ none) (by simp))).mono ?_
  rintro e w1 ⟨rfl, hx1, hg1⟩
  have hB2 : Blk4 w1 w.heap.size (.int .i64 0) (.int .u8 0) (.int .u64 0) (.string ⟨#[]⟩) := Blk4.keep (blk_new w _) hg1 (by omega)
  have hG1 := grown_same (World.grownBy_alloc w _ _) hg1
  have hs1 : w.heap.size < w1.heap.size := by have := hg1.size; simp at this; omega
  have HB2 := Lib.hid hB2
  have HG1 := Lib.hid hG1
  have Hx1 := Lib.hid hx1
  clear hx hx1 hg1 hB2 hG1
  go_wp2_with fail
  refine (num_keep g _ _ hla (Hx1.out.grown (World.grownBy_alloc w1 _ none) (by simp)) n b hr2).mono ?_
  rintro e w2 ⟨rfl, hx2, hg2⟩
  have hA := Blk4.keep (blk_new w1 _) hg2 (by omega)
  have hB := Blk4.keep (HB2.out.alloc _) hg2 (by omega)
  obtain ⟨⟨p0, p1, p2, p3⟩, f0, f1, f2, f3⟩ := hA.facts
  obtain ⟨⟨r0, r1, r2, r3⟩, s0, s1, s2, s3⟩ := hB.facts
  have hs2 : w1.heap.size < w2.heap.size := by have := hg2.size; simp at this; omega
  have HG2 := Lib.hid (grown_same (grown_alloc HG1.out _) hg2)
  have Hx2 := Lib.hid hx2
  clear hg2 hx2 hA hB HB2 HG1 Hx1 Hnum
  go_wp2
  have hne : ¬ w1.heap.size = w.heap.size := by omega
  have hne' : ¬ w.heap.size = w1.heap.size := by omega
  refine bodyPost_ret (v := .agg (fcells (K / 8) 0 n [])) (by simp [results, Tryz.results103, go_sem, hne, hne', r0, r1, r2, r3]) rfl ⟨rfl, ?_, ?_⟩
  · exact (((((Hx2.out.far (by omega)).far (by omega)).far (by omega)).far (by omega)).far (by omega))
  · exact grown_new (grown_new (grown_new (grown_new (grown_new HG2.out (by exact Nat.le_of_lt hs1) _) (Nat.le_refl _) _) (Nat.le_refl _) _) (Nat.le_refl _) _) (Nat.le_refl _) _

set_option maxHeartbeats 1000000 in
theorem field_no0 (g : Nat) (l : List UInt8) (w : World) (hl : l.length ≤ 9223372036854775807) (hx : Rdr w g l) (k a : Nat) (K : Int) (hK : K = (k : Int)) (hr : M.rd l = some (k, a)) (h1 : 1 ≤ K / 8) (h2 : K / 8 ≤ 536870911) (h8 : K % 8 = 0) (hr2 : M.rd (l.drop a) = none) :
    Calls Tryz.prog 103 #[.pointer (some ⟨g, 0, none⟩)] w fun e w' => e = pan 9 ∧ w.grownBy w' (some g) := by
  have hg0 := hx.lt
  have hK0 : 0 ≤ K := by omega
  have hK1 : K ≤ 18446744073709551615 := by have := (M.rd_bound hr).2.2.2; omega
  have hla : (l.drop a).length ≤ 9223372036854775807 := by rw [List.length_drop]; omega
  have hnum := fun W h => num_keep g l W hl h k a hr
  rw [← hK] at hnum
  have Hnum := Lib.hid hnum
  clear hnum hr hK hl
  go_enter Tryz.func103, Tryz.ntmps103
  go_wp2_with fail
  refine (Hnum.out _ (hx.grown (World.grownBy_alloc w _ none) (by simp))).mono ?_
  rintro e w1 ⟨rfl, hx1, hg1⟩
  have hB2 : Blk4 w1 w.heap.size (.int .i64 0) (.int .u8 0) (.int .u64 0) (.string ⟨#[]⟩) := Blk4.keep (blk_new w _) hg1 (by omega)
  have hG1 := grown_same (World.grownBy_alloc w _ _) hg1
  have hs1 : w.heap.size < w1.heap.size := by have := hg1.size; simp at this; omega
  have HB2 := Lib.hid hB2
  have HG1 := Lib.hid hG1
  have Hx1 := Lib.hid hx1
  clear hx hx1 hg1 hB2 hG1
  go_wp2_with fail
  refine (num_none g _ _ hla (Hx1.out.grown (World.grownBy_alloc w1 _ none) (by simp)) hr2).mono ?_
  rintro e w2 ⟨rfl, rfl⟩
  have HG2 := Lib.hid (grown_alloc HG1.out (.cells (fcells (K / 8) 0 0 []) 73))
  go_wp2
  exact ⟨rfl, rfl, HG2.out⟩

set_option maxHeartbeats 1000000 in
theorem field_ok1 (g : Nat) (l : List UInt8) (w : World) (hl : l.length ≤ 9223372036854775807) (hx : Rdr w g l) (k a : Nat) (K : Int) (hK : K = (k : Int)) (hr : M.rd l = some (k, a)) (h1 : 1 ≤ K / 8) (h2 : K / 8 ≤ 536870911) (h8 : K % 8 = 1) (hz : 8 ≤ (l.drop a).length) :
    Calls Tryz.prog 103 #[.pointer (some ⟨g, 0, none⟩)] w fun e w' => e = .returned (.agg (fcells (K / 8) 1 (M.unle ((l.drop a).take 8) : Int) [])) ∧ Rdr w' g ((l.drop a).drop 8) ∧ w.grownBy w' (some g) := by
  have hg0 := hx.lt
  have hK0 : 0 ≤ K := by omega
  have hK1 : K ≤ 18446744073709551615 := by have := (M.rd_bound hr).2.2.2; omega
  have hla : (l.drop a).length ≤ 9223372036854775807 := by rw [List.length_drop]; omega
  have hnum := fun W h => num_keep g l W hl h k a hr
  rw [← hK] at hnum
  have Hnum := Lib.hid hnum
  clear hnum hr hK hl
  have hfx : ∀ W, Rdr W g (l.drop a) → Calls Tryz.prog 106 #[.pointer (some ⟨g, 0, none⟩), .int .u64 8] W fun e w' => e = .returned (.int .u64 (M.unle ((l.drop a).take 8) : Int)) ∧ Rdr w' g ((l.drop a).drop 8) ∧ W.grownBy w' (some g) :=
    fun W h => fixed_yes g (l.drop a) 8 W hla h (by omega) hz
  obtain ⟨un, hun⟩ : ∃ un : Nat, un = M.unle ((l.drop a).take 8) := ⟨_, rfl⟩
  rw [← hun] at hfx ⊢
  have Hfx := Lib.hid hfx
  clear hfx hun hz
  go_enter Tryz.func103, Tryz.ntmps103
  go_wp2_with fail
  refine (Hnum.out _ (hx.grown (World.grownBy_alloc w _ none) (by simp))).mono ?_
  rintro e w1 ⟨rfl, hx1, hg1⟩
  have hB2 : Blk4 w1 w.heap.size (.int .i64 0) (.int .u8 0) (.int .u64 0) (.string ⟨#[]⟩) := Blk4.keep (blk_new w _) hg1 (by omega)
  have hG1 := grown_same (World.grownBy_alloc w _ _) hg1
  have hs1 : w.heap.size < w1.heap.size := by have := hg1.size; simp at this; omega
  have HB2 := Lib.hid hB2
  have HG1 := Lib.hid hG1
  have Hx1 := Lib.hid hx1
  clear hx hx1 hg1 hB2 hG1
  go_wp2_with fail
  refine (Hfx.out _ (Hx1.out.grown (World.grownBy_alloc w1 _ none) (by simp))).mono ?_
  rintro e w2 ⟨rfl, hx2, hg2⟩
  have hA := Blk4.keep (blk_new w1 _) hg2 (by omega)
  have hB := Blk4.keep (HB2.out.alloc _) hg2 (by omega)
  obtain ⟨⟨p0, p1, p2, p3⟩, f0, f1, f2, f3⟩ := hA.facts
  obtain ⟨⟨r0, r1, r2, r3⟩, s0, s1, s2, s3⟩ := hB.facts
  have hs2 : w1.heap.size < w2.heap.size := by have := hg2.size; simp at this; omega
  have HG2 := Lib.hid (grown_same (grown_alloc HG1.out _) hg2)
  have Hx2 := Lib.hid hx2
  clear hg2 hx2 hA hB HB2 HG1 Hx1 Hnum
  go_wp2
  have hne : ¬ w1.heap.size = w.heap.size := by omega
  have hne' : ¬ w.heap.size = w1.heap.size := by omega
  refine bodyPost_ret (v := .agg (fcells (K / 8) 1 un [])) (by simp [results, Tryz.results103, go_sem, hne, hne', r0, r1, r2, r3]) rfl ⟨rfl, ?_, ?_⟩
  · exact (((((Hx2.out.far (by omega)).far (by omega)).far (by omega)).far (by omega)).far (by omega))
  · exact grown_new (grown_new (grown_new (grown_new (grown_new HG2.out (by exact Nat.le_of_lt hs1) _) (Nat.le_refl _) _) (Nat.le_refl _) _) (Nat.le_refl _) _) (Nat.le_refl _) _

set_option maxHeartbeats 1000000 in
theorem field_no1 (g : Nat) (l : List UInt8) (w : World) (hl : l.length ≤ 9223372036854775807) (hx : Rdr w g l) (k a : Nat) (K : Int) (hK : K = (k : Int)) (hr : M.rd l = some (k, a)) (h1 : 1 ≤ K / 8) (h2 : K / 8 ≤ 536870911) (h8 : K % 8 = 1) (hz : (l.drop a).length < 8) :
    Calls Tryz.prog 103 #[.pointer (some ⟨g, 0, none⟩)] w fun e w' => e = pan 10 ∧ w.grownBy w' (some g) := by
  have hg0 := hx.lt
  have hK0 : 0 ≤ K := by omega
  have hK1 : K ≤ 18446744073709551615 := by have := (M.rd_bound hr).2.2.2; omega
  have hla : (l.drop a).length ≤ 9223372036854775807 := by rw [List.length_drop]; omega
  have hnum := fun W h => num_keep g l W hl h k a hr
  rw [← hK] at hnum
  have Hnum := Lib.hid hnum
  clear hnum hr hK hl
  go_enter Tryz.func103, Tryz.ntmps103
  go_wp2_with fail
  refine (Hnum.out _ (hx.grown (World.grownBy_alloc w _ none) (by simp))).mono ?_
  rintro e w1 ⟨rfl, hx1, hg1⟩
  have hB2 : Blk4 w1 w.heap.size (.int .i64 0) (.int .u8 0) (.int .u64 0) (.string ⟨#[]⟩) := Blk4.keep (blk_new w _) hg1 (by omega)
  have hG1 := grown_same (World.grownBy_alloc w _ _) hg1
  have hs1 : w.heap.size < w1.heap.size := by have := hg1.size; simp at this; omega
  have HB2 := Lib.hid hB2
  have HG1 := Lib.hid hG1
  have Hx1 := Lib.hid hx1
  clear hx hx1 hg1 hB2 hG1
  go_wp2_with fail
  refine (fixed_no g _ 8 _ hla (Hx1.out.grown (World.grownBy_alloc w1 _ none) (by simp)) (by omega)).mono ?_
  rintro e w2 ⟨rfl, rfl⟩
  have HG2 := Lib.hid (grown_alloc HG1.out (.cells (fcells (K / 8) 1 0 []) 73))
  go_wp2
  exact ⟨rfl, rfl, HG2.out⟩

set_option maxHeartbeats 1000000 in
theorem field_ok5 (g : Nat) (l : List UInt8) (w : World) (hl : l.length ≤ 9223372036854775807) (hx : Rdr w g l) (k a : Nat) (K : Int) (hK : K = (k : Int)) (hr : M.rd l = some (k, a)) (h1 : 1 ≤ K / 8) (h2 : K / 8 ≤ 536870911) (h8 : K % 8 = 5) (hz : 4 ≤ (l.drop a).length) :
    Calls Tryz.prog 103 #[.pointer (some ⟨g, 0, none⟩)] w fun e w' => e = .returned (.agg (fcells (K / 8) 5 (M.unle ((l.drop a).take 4) : Int) [])) ∧ Rdr w' g ((l.drop a).drop 4) ∧ w.grownBy w' (some g) := by
  have hg0 := hx.lt
  have hK0 : 0 ≤ K := by omega
  have hK1 : K ≤ 18446744073709551615 := by have := (M.rd_bound hr).2.2.2; omega
  have hla : (l.drop a).length ≤ 9223372036854775807 := by rw [List.length_drop]; omega
  have hnum := fun W h => num_keep g l W hl h k a hr
  rw [← hK] at hnum
  have Hnum := Lib.hid hnum
  clear hnum hr hK hl
  have hfx : ∀ W, Rdr W g (l.drop a) → Calls Tryz.prog 106 #[.pointer (some ⟨g, 0, none⟩), .int .u64 4] W fun e w' => e = .returned (.int .u64 (M.unle ((l.drop a).take 4) : Int)) ∧ Rdr w' g ((l.drop a).drop 4) ∧ W.grownBy w' (some g) :=
    fun W h => fixed_yes g (l.drop a) 4 W hla h (by omega) hz
  obtain ⟨un, hun⟩ : ∃ un : Nat, un = M.unle ((l.drop a).take 4) := ⟨_, rfl⟩
  rw [← hun] at hfx ⊢
  have Hfx := Lib.hid hfx
  clear hfx hun hz
  go_enter Tryz.func103, Tryz.ntmps103
  go_wp2_with fail
  refine (Hnum.out _ (hx.grown (World.grownBy_alloc w _ none) (by simp))).mono ?_
  rintro e w1 ⟨rfl, hx1, hg1⟩
  have hB2 : Blk4 w1 w.heap.size (.int .i64 0) (.int .u8 0) (.int .u64 0) (.string ⟨#[]⟩) := Blk4.keep (blk_new w _) hg1 (by omega)
  have hG1 := grown_same (World.grownBy_alloc w _ _) hg1
  have hs1 : w.heap.size < w1.heap.size := by have := hg1.size; simp at this; omega
  have HB2 := Lib.hid hB2
  have HG1 := Lib.hid hG1
  have Hx1 := Lib.hid hx1
  clear hx hx1 hg1 hB2 hG1
  go_wp2_with fail
  refine (Hfx.out _ (Hx1.out.grown (World.grownBy_alloc w1 _ none) (by simp))).mono ?_
  rintro e w2 ⟨rfl, hx2, hg2⟩
  have hA := Blk4.keep (blk_new w1 _) hg2 (by omega)
  have hB := Blk4.keep (HB2.out.alloc _) hg2 (by omega)
  obtain ⟨⟨p0, p1, p2, p3⟩, f0, f1, f2, f3⟩ := hA.facts
  obtain ⟨⟨r0, r1, r2, r3⟩, s0, s1, s2, s3⟩ := hB.facts
  have hs2 : w1.heap.size < w2.heap.size := by have := hg2.size; simp at this; omega
  have HG2 := Lib.hid (grown_same (grown_alloc HG1.out _) hg2)
  have Hx2 := Lib.hid hx2
  clear hg2 hx2 hA hB HB2 HG1 Hx1 Hnum
  go_wp2
  have hne : ¬ w1.heap.size = w.heap.size := by omega
  have hne' : ¬ w.heap.size = w1.heap.size := by omega
  refine bodyPost_ret (v := .agg (fcells (K / 8) 5 un [])) (by simp [results, Tryz.results103, go_sem, hne, hne', r0, r1, r2, r3]) rfl ⟨rfl, ?_, ?_⟩
  · exact (((((Hx2.out.far (by omega)).far (by omega)).far (by omega)).far (by omega)).far (by omega))
  · exact grown_new (grown_new (grown_new (grown_new (grown_new HG2.out (by exact Nat.le_of_lt hs1) _) (Nat.le_refl _) _) (Nat.le_refl _) _) (Nat.le_refl _) _) (Nat.le_refl _) _

set_option maxHeartbeats 1000000 in
theorem field_no5 (g : Nat) (l : List UInt8) (w : World) (hl : l.length ≤ 9223372036854775807) (hx : Rdr w g l) (k a : Nat) (K : Int) (hK : K = (k : Int)) (hr : M.rd l = some (k, a)) (h1 : 1 ≤ K / 8) (h2 : K / 8 ≤ 536870911) (h8 : K % 8 = 5) (hz : (l.drop a).length < 4) :
    Calls Tryz.prog 103 #[.pointer (some ⟨g, 0, none⟩)] w fun e w' => e = pan 10 ∧ w.grownBy w' (some g) := by
  have hg0 := hx.lt
  have hK0 : 0 ≤ K := by omega
  have hK1 : K ≤ 18446744073709551615 := by have := (M.rd_bound hr).2.2.2; omega
  have hla : (l.drop a).length ≤ 9223372036854775807 := by rw [List.length_drop]; omega
  have hnum := fun W h => num_keep g l W hl h k a hr
  rw [← hK] at hnum
  have Hnum := Lib.hid hnum
  clear hnum hr hK hl
  go_enter Tryz.func103, Tryz.ntmps103
  go_wp2_with fail
  refine (Hnum.out _ (hx.grown (World.grownBy_alloc w _ none) (by simp))).mono ?_
  rintro e w1 ⟨rfl, hx1, hg1⟩
  have hB2 : Blk4 w1 w.heap.size (.int .i64 0) (.int .u8 0) (.int .u64 0) (.string ⟨#[]⟩) := Blk4.keep (blk_new w _) hg1 (by omega)
  have hG1 := grown_same (World.grownBy_alloc w _ _) hg1
  have hs1 : w.heap.size < w1.heap.size := by have := hg1.size; simp at this; omega
  have HB2 := Lib.hid hB2
  have HG1 := Lib.hid hG1
  have Hx1 := Lib.hid hx1
  clear hx hx1 hg1 hB2 hG1
  go_wp2_with fail
  refine (fixed_no g _ 4 _ hla (Hx1.out.grown (World.grownBy_alloc w1 _ none) (by simp)) (by omega)).mono ?_
  rintro e w2 ⟨rfl, rfl⟩
  have HG2 := Lib.hid (grown_alloc HG1.out (.cells (fcells (K / 8) 5 0 []) 73))
  go_wp2
  exact ⟨rfl, rfl, HG2.out⟩

set_option maxHeartbeats 1000000 in
theorem field_ok2 (g : Nat) (l : List UInt8) (w : World) (hl : l.length ≤ 9223372036854775807) (hx : Rdr w g l) (k a : Nat) (K : Int) (hK : K = (k : Int)) (hr : M.rd l = some (k, a)) (h1 : 1 ≤ K / 8) (h2 : K / 8 ≤ 536870911) (h8 : K % 8 = 2) (m b : Nat) (hr2 : M.rd (l.drop a) = some (m, b)) (hm : m ≤ ((l.drop a).drop b).length) :
    Calls Tryz.prog 103 #[.pointer (some ⟨g, 0, none⟩)] w fun e w' => e = .returned (.agg (fcells (K / 8) 2 0 (((l.drop a).drop b).take m))) ∧ Rdr w' g (((l.drop a).drop b).drop m) ∧ w.grownBy w' (some g) := by
  have hg0 := hx.lt
  have hK0 : 0 ≤ K := by omega
  have hK1 : K ≤ 18446744073709551615 := by have := (M.rd_bound hr).2.2.2; omega
  have hla : (l.drop a).length ≤ 9223372036854775807 := by rw [List.length_drop]; omega
  have hnum := fun W h => num_keep g l W hl h k a hr
  rw [← hK] at hnum
  have Hnum := Lib.hid hnum
  clear hnum hr hK hl
  go_enter Tryz.func103, Tryz.ntmps103
  go_wp2_with fail
  refine (Hnum.out _ (hx.grown (World.grownBy_alloc w _ none) (by simp))).mono ?_
  rintro e w1 ⟨rfl, hx1, hg1⟩
  have hB2 : Blk4 w1 w.heap.size (.int .i64 0) (.int .u8 0) (.int .u64 0) (.string ⟨#[]⟩) := Blk4.keep (blk_new w _) hg1 (by omega)
  have hG1 := grown_same (World.grownBy_alloc w _ _) hg1
  have hs1 : w.heap.size < w1.heap.size := by have := hg1.size; simp at this; omega
  have HB2 := Lib.hid hB2
  have HG1 := Lib.hid hG1
  have Hx1 := Lib.hid hx1
  clear hx hx1 hg1 hB2 hG1
  have hlb : ((l.drop a).drop b).length ≤ 9223372036854775807 := by rw [List.length_drop]; omega
  go_wp2_with fail
  refine (num_keep g _ _ hla (Hx1.out.grown (World.grownBy_alloc w1 _ none) (by simp)) m b hr2).mono ?_
  rintro e w2 ⟨rfl, hx2, hg2⟩
  have hA1 := Blk4.keep (blk_new w1 _) hg2 (by omega)
  have hB1 := Blk4.keep (HB2.out.alloc _) hg2 (by omega)
  have hs2 : w1.heap.size < w2.heap.size := by have := hg2.size; simp at this; omega
  have HA1 := Lib.hid hA1
  have HB1 := Lib.hid hB1
  have Hx2' := Lib.hid hx2
  have HG2' := Lib.hid (grown_same (grown_alloc HG1.out _) hg2)
  clear hg2 hx2 hA1 hB1 HB2 HG1 Hx1 Hnum
  go_wp2_with fail
  refine (take_keep g _ (m : Int) _ hlb Hx2'.out (by omega) (by omega)).mono ?_
  rw [Int.toNat_natCast]
  rintro e w3 ⟨rfl, hx3, hg3⟩
  have hA := HA1.out.keep hg3 (by omega)
  have hB := HB1.out.keep hg3 (by omega)
  obtain ⟨⟨p0, p1, p2, p3⟩, f0, f1, f2, f3⟩ := hA.facts
  obtain ⟨⟨r0, r1, r2, r3⟩, s0, s1, s2, s3⟩ := hB.facts
  have hs3 : w1.heap.size < w3.heap.size := by have := hg3.size; omega
  have HG2 := Lib.hid (grown_same HG2'.out hg3)
  have Hx2 := Lib.hid hx3
  clear hg3 hx3 hA hB HA1 HB1 HG2' Hx2'
  go_wp2
  have hne : ¬ w1.heap.size = w.heap.size := by omega
  have hne' : ¬ w.heap.size = w1.heap.size := by omega
  refine bodyPost_ret (v := .agg (fcells (K / 8) 2 0 (((l.drop a).drop b).take m))) (by simp [results, Tryz.results103, go_sem, hne, hne', r0, r1, r2, r3]) rfl ⟨rfl, ?_, ?_⟩
  · exact (((((Hx2.out.far (by omega)).far (by omega)).far (by omega)).far (by omega)).far (by omega))
  · exact grown_new (grown_new (grown_new (grown_new (grown_new HG2.out (by exact Nat.le_of_lt hs1) _) (Nat.le_refl _) _) (Nat.le_refl _) _) (Nat.le_refl _) _) (Nat.le_refl _) _

set_option maxHeartbeats 1000000 in
theorem field_no2 (g : Nat) (l : List UInt8) (w : World) (hl : l.length ≤ 9223372036854775807) (hx : Rdr w g l) (k a : Nat) (K : Int) (hK : K = (k : Int)) (hr : M.rd l = some (k, a)) (h1 : 1 ≤ K / 8) (h2 : K / 8 ≤ 536870911) (h8 : K % 8 = 2) (hr2 : M.rd (l.drop a) = none) :
    Calls Tryz.prog 103 #[.pointer (some ⟨g, 0, none⟩)] w fun e w' => e = pan 9 ∧ w.grownBy w' (some g) := by
  have hg0 := hx.lt
  have hK0 : 0 ≤ K := by omega
  have hK1 : K ≤ 18446744073709551615 := by have := (M.rd_bound hr).2.2.2; omega
  have hla : (l.drop a).length ≤ 9223372036854775807 := by rw [List.length_drop]; omega
  have hnum := fun W h => num_keep g l W hl h k a hr
  rw [← hK] at hnum
  have Hnum := Lib.hid hnum
  clear hnum hr hK hl
  go_enter Tryz.func103, Tryz.ntmps103
  go_wp2_with fail
  refine (Hnum.out _ (hx.grown (World.grownBy_alloc w _ none) (by simp))).mono ?_
  rintro e w1 ⟨rfl, hx1, hg1⟩
  have hB2 : Blk4 w1 w.heap.size (.int .i64 0) (.int .u8 0) (.int .u64 0) (.string ⟨#[]⟩) := Blk4.keep (blk_new w _) hg1 (by omega)
  have hG1 := grown_same (World.grownBy_alloc w _ _) hg1
  have hs1 : w.heap.size < w1.heap.size := by have := hg1.size; simp at this; omega
  have HB2 := Lib.hid hB2
  have HG1 := Lib.hid hG1
  have Hx1 := Lib.hid hx1
  clear hx hx1 hg1 hB2 hG1
  go_wp2_with fail
  refine (num_none g _ _ hla (Hx1.out.grown (World.grownBy_alloc w1 _ none) (by simp)) hr2).mono ?_
  rintro e w2 ⟨rfl, rfl⟩
  have HG2 := Lib.hid (grown_alloc HG1.out (.cells (fcells (K / 8) 2 0 []) 73))
  go_wp2
  exact ⟨rfl, rfl, HG2.out⟩

set_option maxHeartbeats 1000000 in
theorem field_long2 (g : Nat) (l : List UInt8) (w : World) (hl : l.length ≤ 9223372036854775807) (hx : Rdr w g l) (k a : Nat) (K : Int) (hK : K = (k : Int)) (hr : M.rd l = some (k, a)) (h1 : 1 ≤ K / 8) (h2 : K / 8 ≤ 536870911) (h8 : K % 8 = 2) (m b : Nat) (hr2 : M.rd (l.drop a) = some (m, b)) (hm : ((l.drop a).drop b).length < m) :
    Calls Tryz.prog 103 #[.pointer (some ⟨g, 0, none⟩)] w fun e w' => e = pan 10 ∧ w.grownBy w' (some g) := by
  have hg0 := hx.lt
  have hK0 : 0 ≤ K := by omega
  have hK1 : K ≤ 18446744073709551615 := by have := (M.rd_bound hr).2.2.2; omega
  have hla : (l.drop a).length ≤ 9223372036854775807 := by rw [List.length_drop]; omega
  have hnum := fun W h => num_keep g l W hl h k a hr
  rw [← hK] at hnum
  have Hnum := Lib.hid hnum
  clear hnum hr hK hl
  go_enter Tryz.func103, Tryz.ntmps103
  go_wp2_with fail
  refine (Hnum.out _ (hx.grown (World.grownBy_alloc w _ none) (by simp))).mono ?_
  rintro e w1 ⟨rfl, hx1, hg1⟩
  have hB2 : Blk4 w1 w.heap.size (.int .i64 0) (.int .u8 0) (.int .u64 0) (.string ⟨#[]⟩) := Blk4.keep (blk_new w _) hg1 (by omega)
  have hG1 := grown_same (World.grownBy_alloc w _ _) hg1
  have hs1 : w.heap.size < w1.heap.size := by have := hg1.size; simp at this; omega
  have HB2 := Lib.hid hB2
  have HG1 := Lib.hid hG1
  have Hx1 := Lib.hid hx1
  clear hx hx1 hg1 hB2 hG1
  have hlb : ((l.drop a).drop b).length ≤ 9223372036854775807 := by rw [List.length_drop]; omega
  go_wp2_with fail
  refine (num_keep g _ _ hla (Hx1.out.grown (World.grownBy_alloc w1 _ none) (by simp)) m b hr2).mono ?_
  rintro e w2 ⟨rfl, hx2, hg2⟩
  have Hx2 := Lib.hid hx2
  have HG2 := Lib.hid (grown_same (grown_alloc HG1.out _) hg2)
  clear hx2 hg2
  go_wp2_with fail
  refine (take_no g _ (m : Int) _ hlb Hx2.out (by omega)).mono ?_
  rintro e w3 ⟨rfl, rfl⟩
  go_wp2
  exact ⟨rfl, rfl, HG2.out⟩
end Go.Proofs.YtnnnnlcpmocnfaaGreatDoor

/- THE reader's field, IN ONE CONTRACT EACH WAY. -/
namespace Go.Proofs.YtnnnnlcpmocnfaaGreatDoor
open Go.RowKit
set_option linter.unusedVariables false
set_option linter.unusedSimpArgs false

theorem field_err (g : Nat) (l : List UInt8) (w : World) (hl : l.length ≤ 65536) (hx : Rdr w g l) (e : Nat) (h : M.parse1 l = .error e) :
    Calls Tryz.prog 103 #[.pointer (some ⟨g, 0, none⟩)] w fun en w' => en = pan e ∧ w.grownBy w' (some g) := by
  have hl' : l.length ≤ 9223372036854775807 := by omega
  unfold M.parse1 at h
  cases hr : M.rd l with
  | none =>
    rw [hr] at h
    injection h with h
    subst h
    exact field_e9 g l w hl' hx hr
  | some x =>
    obtain ⟨k, a⟩ := x
    rw [hr] at h
    simp only at h
    by_cases h0 : k / 8 < 1 ∨ 536870911 < k / 8
    · rw [if_pos h0] at h
      injection h with h
      subst h
      exact field_bad g l w hl' hx k a k rfl hr (by omega)
    · rw [if_neg h0] at h
      have g1 : 1 ≤ (k : Int) / 8 := by omega
      have g2 : (k : Int) / 8 ≤ 536870911 := by omega
      by_cases h1 : k % 8 = 0
      · rw [if_pos h1] at h
        cases hr2 : M.rd (l.drop a) with
        | none =>
          rw [hr2] at h
          injection h with h
          subst h
          exact field_no0 g l w hl' hx k a k rfl hr g1 g2 (by omega) hr2
        | some y => rw [hr2] at h; cases h
      · rw [if_neg h1] at h
        by_cases h2 : k % 8 = 1
        · rw [if_pos h2] at h
          by_cases h3 : (l.drop a).length < 8
          · rw [if_pos h3] at h
            injection h with h
            subst h
            exact field_no1 g l w hl' hx k a k rfl hr g1 g2 (by omega) h3
          · rw [if_neg h3] at h; cases h
        · rw [if_neg h2] at h
          by_cases h3 : k % 8 = 5
          · rw [if_pos h3] at h
            by_cases h4 : (l.drop a).length < 4
            · rw [if_pos h4] at h
              injection h with h
              subst h
              exact field_no5 g l w hl' hx k a k rfl hr g1 g2 (by omega) h4
            · rw [if_neg h4] at h; cases h
          · rw [if_neg h3] at h
            by_cases h4 : k % 8 = 2
            · rw [if_pos h4] at h
              cases hr2 : M.rd (l.drop a) with
              | none =>
                rw [hr2] at h
                injection h with h
                subst h
                exact field_no2 g l w hl' hx k a k rfl hr g1 g2 (by omega) hr2
              | some y =>
                obtain ⟨m, b⟩ := y
                rw [hr2] at h
                simp only at h
                by_cases h5 : ((l.drop a).drop b).length < m
                · rw [if_pos h5] at h
                  injection h with h
                  subst h
                  exact field_long2 g l w hl' hx k a k rfl hr g1 g2 (by omega) m b hr2 h5
                · rw [if_neg h5] at h; cases h
            · rw [if_neg h4] at h
              injection h with h
              subst h
              exact field_wire g l w hl' hx k a k rfl hr g1 g2 (by omega)

theorem field_good (g : Nat) (l : List UInt8) (w : World) (hl : l.length ≤ 65536) (hx : Rdr w g l) (f : M.Fd) (r : List UInt8) (h : M.parse1 l = .ok (f, r)) :
    ∃ a b c s, Fit f a b c s ∧ Calls Tryz.prog 103 #[.pointer (some ⟨g, 0, none⟩)] w fun en w' => en = .returned (.agg (fcells a b c s)) ∧ Rdr w' g r ∧ w.grownBy w' (some g) := by
  have hl' : l.length ≤ 9223372036854775807 := by omega
  unfold M.parse1 at h
  cases hr : M.rd l with
  | none => rw [hr] at h; cases h
  | some x =>
    obtain ⟨k, a⟩ := x
    rw [hr] at h
    simp only at h
    by_cases h0 : k / 8 < 1 ∨ 536870911 < k / 8
    · rw [if_pos h0] at h; cases h
    · rw [if_neg h0] at h
      have g1 : 1 ≤ (k : Int) / 8 := by omega
      have g2 : (k : Int) / 8 ≤ 536870911 := by omega
      have ek : ((k / 8 : Nat) : Int) = (k : Int) / 8 := by omega
      rw [ek] at h
      by_cases h1 : k % 8 = 0
      · rw [if_pos h1] at h
        cases hr2 : M.rd (l.drop a) with
        | none => rw [hr2] at h; cases h
        | some y =>
          obtain ⟨n, b⟩ := y
          rw [hr2] at h
          injection h with h
          injection h with e1 e2
          subst e1 e2
          have hb := (M.rd_bound hr2).2.2.2
          exact ⟨(k : Int) / 8, 0, n, [], ⟨by simp, by omega, by omega, by omega, by omega, by omega, by omega, by simp⟩, field_ok0 g l w hl' hx k a k rfl hr g1 g2 (by omega) n b hr2⟩
      · rw [if_neg h1] at h
        by_cases h2 : k % 8 = 1
        · rw [if_pos h2] at h
          by_cases h3 : (l.drop a).length < 8
          · rw [if_pos h3] at h; cases h
          · rw [if_neg h3] at h
            injection h with h
            injection h with e1 e2
            subst e1 e2
            have hb := M.unle_lt ((l.drop a).take 8)
            have hl8 : ((l.drop a).take 8).length = 8 := by rw [List.length_take]; omega
            rw [hl8] at hb
            simp only [Nat.reducePow] at hb
            exact ⟨(k : Int) / 8, 1, _, [], ⟨by simp, by omega, by omega, by omega, by omega, by omega, by omega, by simp⟩, field_ok1 g l w hl' hx k a k rfl hr g1 g2 (by omega) (by omega)⟩
        · rw [if_neg h2] at h
          by_cases h3 : k % 8 = 5
          · rw [if_pos h3] at h
            by_cases h4 : (l.drop a).length < 4
            · rw [if_pos h4] at h; cases h
            · rw [if_neg h4] at h
              injection h with h
              injection h with e1 e2
              subst e1 e2
              have hb := M.unle_lt ((l.drop a).take 4)
              have hl8 : ((l.drop a).take 4).length = 4 := by rw [List.length_take]; omega
              rw [hl8] at hb
              simp only [Nat.reducePow] at hb
              exact ⟨(k : Int) / 8, 5, _, [], ⟨by simp, by omega, by omega, by omega, by omega, by omega, by omega, by simp⟩, field_ok5 g l w hl' hx k a k rfl hr g1 g2 (by omega) (by omega)⟩
          · rw [if_neg h3] at h
            by_cases h4 : k % 8 = 2
            · rw [if_pos h4] at h
              cases hr2 : M.rd (l.drop a) with
              | none => rw [hr2] at h; cases h
              | some y =>
                obtain ⟨m, b⟩ := y
                rw [hr2] at h
                simp only at h
                by_cases h5 : ((l.drop a).drop b).length < m
                · rw [if_pos h5] at h; cases h
                · rw [if_neg h5] at h
                  injection h with h
                  injection h with e1 e2
                  subst e1 e2
                  exact ⟨(k : Int) / 8, 2, 0, _, ⟨by simp, by omega, by omega, by omega, by omega, by omega, by omega, by simp only [List.length_take, List.length_drop]; omega⟩, field_ok2 g l w hl' hx k a k rfl hr g1 g2 (by omega) m b hr2 (by omega)⟩
            · rw [if_neg h4] at h; cases h
end Go.Proofs.YtnnnnlcpmocnfaaGreatDoor

/- ROWS OF FIELDS OF THE CALL's OWN. -/
namespace Go.Proofs.YtnnnnlcpmocnfaaGreatDoor
open Go.RowKit
set_option linter.unusedVariables false

/-- a field's cells -/
def fc (f : M.Fd) : List Value := [.int .i64 f.num, .int .u8 (f.wire : Int), .int .u64 (f.n : Int), .string ⟨f.s.toArray⟩]
theorem fc_fit {f : M.Fd} {a b c : Int} {l : List UInt8} (h : Fit f a b c l) : (fcells a b c l).toList = fc f := by
  obtain ⟨rfl, h1, _, h2, _, _, _, _⟩ := h
  simp only [fc, Int.toNat_of_nonneg h1, Int.toNat_of_nonneg h2]
theorem fc_one (fs : List M.Fd) : ∀ u ∈ fs.flatMap fc, u.oneCell' = true := by
  intro u hu
  obtain ⟨f, _, hu⟩ := List.mem_flatMap.1 hu
  simp only [fc, List.mem_cons, List.not_mem_nil, or_false] at hu
  rcases hu with rfl | rfl | rfl | rfl <;> rfl
theorem fc_len (fs : List M.Fd) : (fs.flatMap fc).length = fs.length * 4 := by
  induction fs with
  | nil => rfl
  | cons f fs ih => rw [List.flatMap_cons, List.length_append, ih]; simp [fc]; omega
theorem fc_at (fs : List M.Fd) : ∀ (i : Nat) (f : M.Fd), fs[i]? = some f → ∀ j, j < 4 → (fs.flatMap fc)[i * 4 + j]? = (fc f)[j]? := by
  induction fs with
  | nil => intro i f h; simp at h
  | cons x fs ih =>
    intro i f h j hj
    rw [List.flatMap_cons]
    cases i with
    | zero =>
      simp at h; subst h
      rw [List.getElem?_append_left (by simp [fc]; omega)]
      simp
    | succ i =>
      rw [List.getElem?_append_right (by simp [fc]; omega)]
      have e : (i + 1) * 4 + j - (fc x).length = i * 4 + j := by simp [fc]; omega
      rw [e]
      exact ih i f (by simpa using h) j hj

theorem Fit.uniq {f : M.Fd} {a b c a' b' c' : Int} {l l' : List UInt8} (h : Fit f a b c l) (h' : Fit f a' b' c' l') : a = a' ∧ b = b' ∧ c = c' ∧ l = l' := by
  have e := h.e.symm.trans h'.e
  injection e with e1 e2 e3 e4
  have := h.b0; have := h'.b0; have := h.c0; have := h'.c0
  exact ⟨e1, by omega, by omega, e4⟩

/-- numbers that fit -/
def Fine (f : M.Fd) : Prop := ∃ a b c l, Fit f a b c l

/-- the slice v of the call's own has the fields fs -/
def FRow (w : World) (base : Nat) (v : Value) (fs : List M.Fd) : Prop := w.ownsRow base 73 4 v fs.length (fs.flatMap fc)
section
variable {w w' : World} {base : Nat} {v : Value} {fs : List M.Fd}
theorem FRow.nil (w : World) (base : Nat) : FRow w base (.slice none 0 0) [] := World.ownsRow_nil _ _ _ _
theorem FRow.alloc (h : FRow w base v fs) (o : Obj) : FRow (w.alloc o) base v fs := World.ownsRow.alloc h o
theorem FRow.drew (h : FRow w base v fs) : FRow w.drew base v fs := h
theorem FRow.kept {row : Option Nat} (h : FRow w base v fs) (hg : w.grownBy w' row) (hne : v.ownBlock = none ∨ v.ownBlock ≠ row) : FRow w' base v fs := World.ownsRow.kept h hg hne
theorem FRow.lt (h : FRow w base v fs) : ∀ k, v.ownBlock = some k → base ≤ k ∧ k < w.heap.size := World.ownsRow.lt h
theorem FRow.below (h : FRow w base v fs) {r : Nat} (hr : r < base) (hg : w.grownBy w' (some r)) : FRow w' base v fs :=
  h.kept hg (by
    cases hv : v.ownBlock with
    | none => exact .inl rfl
    | some k => refine .inr ?_; intro e; injection e with e; have := (h.lt k hv).1; omega)
theorem FRow.form (h : FRow w base v fs) : ∃ ad cap, v = .slice ad fs.length cap := by
  rcases h.2 with ⟨hv, hn⟩ | ⟨g, cap, cur, hv, _⟩
  · exact ⟨none, 0, by rw [hv, hn]⟩
  · exact ⟨_, cap, hv⟩
theorem FRow.flds (h : FRow w base v fs) (hf : ∀ f ∈ fs, Fine f) (hl : fs.length ≤ 9223372036854775807) : ∃ ad cap, v = .slice ad fs.length cap ∧ Flds w w.heap.size ad fs := by
  rcases h.2 with ⟨hv, hn⟩ | ⟨g, cap, cur, hv, hbg, hg, hnc, hcm, hcs, htake⟩
  · have hx : fs = [] := List.eq_nil_of_length_eq_zero hn
    subst hx
    exact ⟨none, 0, hv, by simp, fun h => absurd rfl h⟩
  · refine ⟨some ⟨g, 0, none⟩, cap, hv, hl, fun _ => ⟨g, 0, rfl, (Array.getElem?_eq_some_iff.1 hg).1, fun i f hi => ?_⟩⟩
    obtain ⟨a, b, c, l, hfit⟩ := hf f (List.mem_of_getElem? hi)
    refine ⟨a, b, c, l, hfit, ?_⟩
    have hcell : ∀ j u, (fs.flatMap fc)[j]? = some u → w.cell? ⟨g, j, none⟩ = some u := fun j u hu => by
      have := World.ownsRow.cells h (g := g) (by rw [hv]; rfl) j u hu
      rwa [show (⟨g, 0, none⟩ : Addr).add j = ⟨g, j, none⟩ by unfold Addr.add; split <;> simp_all] at this
    have hfc := fc_fit hfit
    have at_ : ∀ j u, j < 4 → (fcells a b c l).toList[j]? = some u → w.cell? ⟨g, 0 + i * 4 + j, none⟩ = some u := fun j u hj hu => by
      rw [Nat.zero_add]
      refine hcell _ _ ?_
      rw [fc_at fs i f hi j hj, ← hfc]
      exact hu
    exact ⟨at_ 0 _ (by omega) rfl, at_ 1 _ (by omega) rfl, at_ 2 _ (by omega) rfl, at_ 3 _ (by omega) rfl⟩
end

theorem Tryz.info73 : (Tryz.prog.info? 73).map (fun i => (i.zero, i.size, i.bytes)) = some (some (.agg #[.int .i64 0, .int .u8 0, .int .u64 0, .string ⟨#[]⟩]), 4, 40) := by kernel_rfl

/-- append of one field, as an operation -/
theorem op_app_fd {w : World} {o : Oper} {a : Act} {K : Act → World → Prop} {Q : Exit → Act → World → Prop} (s x : Operand)
    (ho : o.op = .call { callee := .builtin .append, args := #[s, x], argTypes := #[81, 81] }) (base : Nat) (v : Value) (fs : List M.Fd) (hs : a.eval s = v) (hown : FRow w base v fs)
    (f : M.Fd) (cs : Array Value) (hcs : cs.toList = fc f) (hx : a.eval x = .slice (some ⟨w.heap.size, 0, none⟩) 1 1) (hlen : fs.length ≤ 1000000) (hbase : base ≤ w.heap.size)
    (h : ∀ v' w', FRow w' base v' (fs ++ [f]) → Grew w v w' v' → K (a.put o.dst v') w') : Oper.wp Tryz.prog o a (w.alloc (.cells cs 73)) K Q := by
  obtain ⟨i0, hi, hz0, hz1, hz2⟩ := info_parts Tryz.info73
  obtain ⟨v', w', hr, h2, h3, _, h5⟩ := run_append_own_at (P := Tryz.prog) (w.alloc (.cells cs 73)) base 81 o.type 73 i0 _ 4 40 Tryz.underlying81 hi hz0 hz1 hz2 rfl (by decide) v fs.length (fs.flatMap fc) (World.ownsRow.alloc hown _)
    ⟨w.heap.size, 0, none⟩ 1 1 (fc f) rfl
    (by
      intro j u hu
      have e : (⟨w.heap.size, 0, none⟩ : Addr).add j = ⟨w.heap.size, j, none⟩ := by unfold Addr.add; split <;> simp_all
      rw [e, cell_of_row _ w.heap.size j cs 73 (0, 0) (heap_alloc_new w _), ← Array.getElem?_toList, hcs]
      exact hu)
    (by intro u hu; exact fc_one [f] u (by simpa using hu)) (by unfold maxLen; omega) (by omega) (by simp; omega)
  unfold Oper.wp execOp
  simp only [ho, resolve, invoke, builtin, Sem.run_bind, Sem.run_pure, Result.andThen_ok, List.map_toArray, List.map_cons, List.map_nil, hs, hx, hr]
  refine h v' w' ?_ (((Grew.refl w v).alloc _).step h3 h5)
  unfold FRow
  rw [List.length_append, List.flatMap_append]
  simpa using h2
end Go.Proofs.YtnnnnlcpmocnfaaGreatDoor
