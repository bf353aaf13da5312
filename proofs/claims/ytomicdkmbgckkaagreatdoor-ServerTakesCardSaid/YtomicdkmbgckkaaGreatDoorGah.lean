/- HTTP: THE WALK OVER internal/strconv.ParseUint at base 16. -/
import Derived.Test.YtomicdkmbgckkaaGreatDoorGag
import Derived.Laws.BitsAllLaws
import Derived.Lib.AppendStr
import Derived.Laws.IdiomStrings
namespace Go.Proofs.YtomicdkmbgckkaaGreatDoor
open Go.RowKit
set_option maxRecDepth 100000
set_option linter.unusedVariables false
set_option linter.unusedSimpArgs false

theorem hex_lo : ∀ c : Fin 256, ¬ (48 ≤ c.1 ∧ c.1 ≤ 57) → 97 ≤ c.1 ||| 32 → c.1 ||| 32 ≤ 102 → H.hexN c.1 = some ((c.1 ||| 32) - 97 + 10) := by decide
theorem hex_no : ∀ c : Fin 256, ¬ (48 ≤ c.1 ∧ c.1 ≤ 57) → ¬ (97 ≤ c.1 ||| 32 ∧ c.1 ||| 32 ≤ 102) → H.hexN c.1 = none := by decide
theorem lo_lt (c : Nat) (h : c < 256) : c ||| 32 < 256 := Nat.or_lt_two_pow (n := 8) h (by decide)
theorem u8_or (c : Nat) (h : c < 256) : bits .or .u8 (c : Int) 32 = ((c ||| 32 : Nat) : Int) := by
  have := (by decide : ∀ c : Fin 256, bits .or .u8 (c.1 : Int) 32 = ((c.1 ||| 32 : Nat) : Int)) ⟨c, h⟩
  exact this
theorem conv_bytes {P : Program} {S T E : TypeId} (w : World) (l : List UInt8) (hS : P.underlying S = some .string) (hT : P.underlying T = some (.slice E)) (hE : P.underlying E = some (.int .u8)) :
    ∃ (C : Nat) (w1 : World), (convert S T (.string ⟨l.toArray⟩)).run P w = .ok (.slice (some ⟨w.heap.size, 0, none⟩) l.length C) w1 ∧ Below w.heap.size w w1 ∧
      ∀ j (h : j < l.length), w1.cell? ⟨w.heap.size, j, none⟩ = some (.int .u8 (l[j].toNat : Int)) := by
  have h := run_bytes_of_string (P := P) w S T E ⟨l.toArray⟩ hS hT hE
  have hs : (ByteArray.mk l.toArray).size = l.length := by simp [ByteArray.size]
  rw [hs] at h
  refine ⟨_, _, h, ?_, ?_⟩
  · exact ((Below.refl _ w).drew).alloc (Nat.le_refl _) _
  · intro j hj
    have h := World.cell?_alloc_mark w.drew (bytesRow ⟨l.toArray⟩ (grownCap w l.length 0 E)) E ((bytesRow ⟨l.toArray⟩ (grownCap w l.length 0 E)).size, (bytesRow ⟨l.toArray⟩ (grownCap w l.length 0 E)).size + 1) j
    refine h.trans ?_
    rw [bytesRow_at _ _ j (by simpa using hj)]
    simp
/-- what ParseUint at base 16 answers -/
def Pu (l : List UInt8) (v : Int) (err : Value) : Prop := 0 ≤ v ∧ v ≤ 18446744073709551615 ∧ (err = .nilIface ∨ err = .iface 146 (.int .i64 1) ∨ err = .iface 146 (.int .i64 2)) ∧
  (l.length ≤ 8 → match H.hexO l with | some n => err = .nilIface ∧ v = (n : Int) | none => err ≠ .nilIface)
theorem Pu.range {l : List UInt8} {v : Int} (h0 : 0 ≤ v) (h1 : v ≤ 18446744073709551615) (h : 8 < l.length) : Pu l v (.iface 146 (.int .i64 1)) := ⟨h0, h1, .inr (.inl rfl), fun h2 => by omega⟩
theorem Pu.syn {l : List UInt8} {v : Int} (h0 : 0 ≤ v) (h1 : v ≤ 18446744073709551615) (h : H.hexO l = none) : Pu l v (.iface 146 (.int .i64 2)) := ⟨h0, h1, .inr (.inr rfl), fun h2 => by rw [h]; exact fun e => by cases e⟩

set_option maxHeartbeats 4000000 in
theorem iparse_any (w : World) (l : List UInt8) (hl : l.length ≤ 9223372036854775807) :
    Calls Tryz.prog 88 #[.string ⟨l.toArray⟩, .int .i64 16, .int .i64 64] w fun e w' => (∃ v err, e = .returned (.tuple #[.int .u64 v, err]) ∧ Pu l v err) ∧ Below w.heap.size w w' := by
  obtain ⟨C, w1, hcv, hbel, hcell⟩ := conv_bytes (P := Tryz.prog) w l Tryz.underlying9 Tryz.underlying109 Tryz.underlying5
  have Hcell := Lib.hid hcell
  have Hbel := Lib.hid hbel
  clear hcell hbel
  go_enter Tryz.func88, Tryz.ntmps88
  by_cases hl0 : l = []
  · subst hl0
    go_wp2
    go_ret2
    exact ⟨⟨_, _, rfl, Pu.syn (by omega) (by omega) rfl⟩, Below.refl _ _⟩
  · have hne : l.isEmpty = false := by simpa using hl0
    have hw1 : IntKind.u64.wrap 18446744073709551616 = 0 := by decide
    have hw2 : IntKind.u64.wrap (-1) = 18446744073709551615 := by decide
    have hw3 : IntKind.u64.wrap (0 - 1) = 18446744073709551615 := by decide
    go_wp2
    clear hne hw1 hw2 hw3
    go_loop [12, 13, 101] (fun u s i => ∃ (k acc : Nat), i = .int .i64 (k : Int) ∧ k ≤ l.length ∧ u = .bool false ∧ s = .int .u64 (acc : Int) ∧ acc < 18446744073709551616 ∧ H.hexF acc (l.drop k) = H.hexF 0 l ∧ acc < 16 ^ k) (fun _ _ i => l.length - (intOf i).toNat)
    case atStart => exact ⟨0, 0, rfl, by omega, rfl, rfl, by omega, by simp, by simp⟩
    case round =>
      obtain ⟨k, acc, rfl, hk, rfl, rfl, ha, hm, hp⟩ := hrel
      by_cases hlt : k < l.length
      · obtain ⟨c, hc⟩ : ∃ c : Nat, l[k].toNat = c := ⟨_, rfl⟩
        have hc255 : c < 256 := by rw [← hc]; exact l[k].toNat_lt
        have hq := Hcell.out k hlt
        rw [hc] at hq
        have hdr : l.drop k = l[k] :: l.drop (k + 1) := List.drop_eq_getElem_cons hlt
        have hst : H.hexF acc (l.drop k) = match H.hexN c with | some d => H.hexF (acc * 16 + d) (l.drop (k + 1)) | none => none := by
          rw [hdr]
          simp only [H.hexF, H.hexv, hc, Nat.mul_comm]
          cases H.hexN c <;> rfl
        have hok : ∀ d, H.hexN c = some d → H.hexF (acc * 16 + d) (l.drop (k + 1)) = H.hexF 0 l := fun d hd => by rw [← hm, hst, hd]
        have hno : H.hexN c = none → H.hexO l = none := fun hd => by
          unfold H.hexO
          rw [if_neg hl0, ← hm, hst, hd]
        have hov : 1152921504606846976 ≤ acc → 8 < l.length := fun h => by
          rcases Nat.lt_or_ge k 15 with h15 | h15
          · have : 16 ^ k ≤ 16 ^ 14 := Nat.pow_le_pow_right (by omega) (by omega)
            have h14 : (16 : Nat) ^ 14 = 72057594037927936 := by decide
            omega
          · omega
        have hpw : ∀ d, d < 16 → acc * 16 + d < 16 ^ (k + 1) := fun d hd => by rw [Nat.pow_succ]; omega
        have Hok := Lib.hid hok
        have Hno := Lib.hid hno
        have Hov := Lib.hid hov
        have Hpw := Lib.hid hpw
        clear hdr hst hok hno hov hpw hm hp
        have hc0 : (0 : Int) ≤ (c : Int) := by omega
        have hc1 : (c : Int) ≤ 255 := by omega
        have hor := u8_or c hc255
        obtain ⟨lo, hlo⟩ : ∃ lo, c ||| 32 = lo := ⟨_, rfl⟩
        have hlo2 := lo_lt c hc255
        have hlow := hex_lo ⟨c, hc255⟩
        have hnone := hex_no ⟨c, hc255⟩
        simp only at hlow hnone
        rw [hlo] at hor hlo2 hlow hnone
        have Hlow := Lib.hid hlow
        have Hnone := Lib.hid hnone
        have Hlo := Lib.hid hlo
        clear hc hlo hlow hnone
        by_cases h1 : 48 ≤ c ∧ c ≤ 57
        · obtain ⟨hA1, hA2⟩ := h1
          have i1 : (48 : Int) ≤ (c : Int) := by omega
          have i2 : (c : Int) ≤ 57 := by omega
          have i3 : ¬ (c : Int) = 95 := by omega
          have i3b : ((c : Int) == 95) = false := by simp; omega
          have i4 : (0 : Int) ≤ (c : Int) - 48 := by omega
          have i5 : (c : Int) - 48 < 16 := by omega
          have i6 : ¬ (16 : Int) ≤ (c : Int) - 48 := by omega
          by_cases hcut : acc < 1152921504606846976
          · have hcI : (acc : Int) < 1152921504606846976 := by omega
            have hcI2 : ¬ (1152921504606846976 : Int) ≤ (acc : Int) := by omega
            have hs1 : (acc : Int) * 16 ≤ 18446744073709551600 := by omega
            have hs2 : (acc : Int) * 16 + ((c : Int) - 48) ≤ 18446744073709551615 := by omega
            have hs3 : ¬ (acc : Int) * 16 + ((c : Int) - 48) < (acc : Int) * 16 := by omega
            have hs4 : ¬ (18446744073709551615 : Int) < (acc : Int) * 16 + ((c : Int) - 48) := by omega
            go_wp2
            go_round
            case rel => exact ⟨k + 1, acc * 16 + (c - 48), by go_num, by omega, rfl, by go_num, by omega, Hok.out _ (by simp [H.hexN, hA1, hA2]), Hpw.out _ (by omega)⟩
            case measure => simp [intOf]; omega
          · have hcI : (1152921504606846976 : Int) ≤ (acc : Int) := by omega
            go_wp2
            go_ret2
            exact ⟨⟨_, _, rfl, Pu.range (by omega) (by omega) (Hov.out (by omega))⟩, Hbel.out⟩
        · have k0 : (0 : Int) ≤ (lo : Int) := by omega
          have k1 : (lo : Int) ≤ 255 := by omega
          by_cases h2 : 48 ≤ c
          · have i1 : (48 : Int) ≤ (c : Int) := by omega
            have i2 : ¬ (c : Int) ≤ 57 := by omega
            have i2b : (57 : Int) < (c : Int) := by omega
            by_cases h95 : c = 95
            · subst h95
              have hlo127 : lo = 127 := by rw [← Hlo.out]; decide
              subst hlo127
              go_wp2
              go_ret2
              exact ⟨⟨_, _, rfl, Pu.syn (by omega) (by omega) (Hno.out (Hnone.out (by omega) (by omega)))⟩, Hbel.out⟩
            · have i3 : ¬ (c : Int) = 95 := by omega
              have i3b : ((c : Int) == 95) = false := by simp; omega
              by_cases hlo1 : 97 ≤ lo
              · have j1 : (97 : Int) ≤ (lo : Int) := by omega
                by_cases hlo2' : lo ≤ 122
                · have j2 : (lo : Int) ≤ 122 := by omega
                  have j3 : (0 : Int) ≤ (lo : Int) - 97 := by omega
                  by_cases hlo3 : lo ≤ 102
                  · have j4 : (lo : Int) - 97 + 10 < 16 := by omega
                    have j5 : ¬ (16 : Int) ≤ (lo : Int) - 97 + 10 := by omega
                    by_cases hcut : acc < 1152921504606846976
                    · have hcI : (acc : Int) < 1152921504606846976 := by omega
                      have hcI2 : ¬ (1152921504606846976 : Int) ≤ (acc : Int) := by omega
                      have hs1 : (acc : Int) * 16 ≤ 18446744073709551600 := by omega
                      have hs2 : (acc : Int) * 16 + ((lo : Int) - 97 + 10) ≤ 18446744073709551615 := by omega
                      have hs3 : ¬ (acc : Int) * 16 + ((lo : Int) - 97 + 10) < (acc : Int) * 16 := by omega
                      have hs4 : ¬ (18446744073709551615 : Int) < (acc : Int) * 16 + ((lo : Int) - 97 + 10) := by omega
                      go_wp2
                      go_round
                      case rel => exact ⟨k + 1, acc * 16 + (lo - 97 + 10), by go_num, by omega, rfl, by go_num, by omega, Hok.out _ (Hlow.out (by omega) (by omega) (by omega)), Hpw.out _ (by omega)⟩
                      case measure => simp [intOf]; omega
                    · have hcI : (1152921504606846976 : Int) ≤ (acc : Int) := by omega
                      go_wp2
                      go_ret2
                      exact ⟨⟨_, _, rfl, Pu.range (by omega) (by omega) (Hov.out (by omega))⟩, Hbel.out⟩
                  · have j4 : ¬ (lo : Int) - 97 + 10 < 16 := by omega
                    have j5 : (16 : Int) ≤ (lo : Int) - 97 + 10 := by omega
                    go_wp2
                    go_ret2
                    exact ⟨⟨_, _, rfl, Pu.syn (by omega) (by omega) (Hno.out (Hnone.out (by omega) (by omega)))⟩, Hbel.out⟩
                · have j2 : ¬ (lo : Int) ≤ 122 := by omega
                  have j2b : (122 : Int) < (lo : Int) := by omega
                  go_wp2
                  go_ret2
                  exact ⟨⟨_, _, rfl, Pu.syn (by omega) (by omega) (Hno.out (Hnone.out (by omega) (by omega)))⟩, Hbel.out⟩
              · have j1 : ¬ (97 : Int) ≤ (lo : Int) := by omega
                have j1b : (lo : Int) < 97 := by omega
                go_wp2
                go_ret2
                exact ⟨⟨_, _, rfl, Pu.syn (by omega) (by omega) (Hno.out (Hnone.out (by omega) (by omega)))⟩, Hbel.out⟩
          · have i1 : ¬ (48 : Int) ≤ (c : Int) := by omega
            have i1b : (c : Int) < 48 := by omega
            have i3 : ¬ (c : Int) = 95 := by omega
            have i3b : ((c : Int) == 95) = false := by simp; omega
            by_cases hlo1 : 97 ≤ lo
            · have j1 : (97 : Int) ≤ (lo : Int) := by omega
              by_cases hlo2' : lo ≤ 122
              · have j2 : (lo : Int) ≤ 122 := by omega
                have j3 : (0 : Int) ≤ (lo : Int) - 97 := by omega
                by_cases hlo3 : lo ≤ 102
                · have j4 : (lo : Int) - 97 + 10 < 16 := by omega
                  have j5 : ¬ (16 : Int) ≤ (lo : Int) - 97 + 10 := by omega
                  by_cases hcut : acc < 1152921504606846976
                  · have hcI : (acc : Int) < 1152921504606846976 := by omega
                    have hcI2 : ¬ (1152921504606846976 : Int) ≤ (acc : Int) := by omega
                    have hs1 : (acc : Int) * 16 ≤ 18446744073709551600 := by omega
                    have hs2 : (acc : Int) * 16 + ((lo : Int) - 97 + 10) ≤ 18446744073709551615 := by omega
                    have hs3 : ¬ (acc : Int) * 16 + ((lo : Int) - 97 + 10) < (acc : Int) * 16 := by omega
                    have hs4 : ¬ (18446744073709551615 : Int) < (acc : Int) * 16 + ((lo : Int) - 97 + 10) := by omega
                    go_wp2
                    go_round
                    case rel => exact ⟨k + 1, acc * 16 + (lo - 97 + 10), by go_num, by omega, rfl, by go_num, by omega, Hok.out _ (Hlow.out (by omega) (by omega) (by omega)), Hpw.out _ (by omega)⟩
                    case measure => simp [intOf]; omega
                  · have hcI : (1152921504606846976 : Int) ≤ (acc : Int) := by omega
                    go_wp2
                    go_ret2
                    exact ⟨⟨_, _, rfl, Pu.range (by omega) (by omega) (Hov.out (by omega))⟩, Hbel.out⟩
                · have j4 : ¬ (lo : Int) - 97 + 10 < 16 := by omega
                  have j5 : (16 : Int) ≤ (lo : Int) - 97 + 10 := by omega
                  go_wp2
                  go_ret2
                  exact ⟨⟨_, _, rfl, Pu.syn (by omega) (by omega) (Hno.out (Hnone.out (by omega) (by omega)))⟩, Hbel.out⟩
              · have j2 : ¬ (lo : Int) ≤ 122 := by omega
                have j2b : (122 : Int) < (lo : Int) := by omega
                go_wp2
                go_ret2
                exact ⟨⟨_, _, rfl, Pu.syn (by omega) (by omega) (Hno.out (Hnone.out (by omega) (by omega)))⟩, Hbel.out⟩
            · have j1 : ¬ (97 : Int) ≤ (lo : Int) := by omega
              have j1b : (lo : Int) < 97 := by omega
              go_wp2
              go_ret2
              exact ⟨⟨_, _, rfl, Pu.syn (by omega) (by omega) (Hno.out (Hnone.out (by omega) (by omega)))⟩, Hbel.out⟩
      · have hkl : k = l.length := by omega
        go_wp2
        go_ret2
        refine ⟨⟨_, _, rfl, by omega, by omega, .inl rfl, fun _ => ?_⟩, Hbel.out⟩
        unfold H.hexO
        rw [if_neg hl0, ← hm, hkl, List.drop_of_length_le (Nat.le_refl _)]
        exact ⟨rfl, rfl⟩
end Go.Proofs.YtomicdkmbgckkaaGreatDoor
