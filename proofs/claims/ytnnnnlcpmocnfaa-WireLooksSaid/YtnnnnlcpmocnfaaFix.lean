/- THE WALK OVER the reader's fixed. -/
import Derived.Test.YtnnnnlcpmocnfaaRdr
namespace Go.Proofs.Ytnnnnlcpmocnfaa
open Go.RowKit
set_option linter.unusedVariables false

theorem fixed_no (g : Nat) (l : List UInt8) (m : Int) (w : World) (hl : l.length ≤ 9223372036854775807) (hx : Rdr w g l) (hm : (l.length : Int) < m) :
    Calls Try.prog 47 #[.pointer (some ⟨g, 0, none⟩), .int .u64 m] w fun e w' => e = pan 10 ∧ w = w' := by
  go_enter Try.func47, Try.ntmps47
  go_wp2_with fail
  refine (take_no g l m w hl hx hm).mono ?_
  rintro e w' ⟨rfl, rfl⟩
  go_wp2
  exact ⟨rfl, rfl, rfl⟩

theorem unle_snoc : ∀ (l : List UInt8) (b : UInt8), M.unle (l ++ [b]) = M.unle l + b.toNat * 2 ^ (8 * l.length)
  | [], b => by simp [M.unle]
  | x :: t, b => by
    simp only [List.cons_append, M.unle, unle_snoc t b, List.length_cons]
    rw [show 8 * (t.length + 1) = 8 * t.length + 8 by omega, Nat.pow_add]
    simp only [Nat.reducePow]
    rw [Nat.mul_add, ← Nat.add_assoc]
    congr 1
    rw [Nat.mul_left_comm, Nat.mul_comm 256]

theorem conv_bytes {P : Program} {S T E : TypeId} (w : World) (l : List UInt8) (hS : P.underlying S = some .string) (hT : P.underlying T = some (.slice E)) (hE : P.underlying E = some (.int .u8)) :
    ∃ (C : Nat) (w1 : World), (convert S T (.string ⟨l.toArray⟩)).run P w = .ok (.slice (some ⟨w.heap.size, 0, none⟩) l.length C) w1 ∧ Below w.heap.size w w1 ∧
      ∀ j (h : j < l.length), w1.cell? ⟨w.heap.size, j, none⟩ = some (.int .u8 (l[j].toNat : Int)) := by
  have h := run_bytes_of_string (P := P) w S T E ⟨l.toArray⟩ hS hT hE
  have hs : (ByteArray.mk l.toArray).size = l.length := by simp [ByteArray.size]
  rw [hs] at h
  refine ⟨_, _, h, ?_, ?_⟩
  · exact ((Below.refl _ w).drew).alloc (Nat.le_refl _) _
  · intro j hj
    have h := World.cell?_alloc_mark w.drew (bytesRow ⟨l.toArray⟩ (grownCap w l.length 0 E)) E ((bytesRow ⟨l.toArray⟩ (grownCap w l.length 0 E)).size, (bytesRow ⟨l.toArray⟩ (grownCap w l.length 0 E)).size + 1) j
    refine h.trans ?_
    rw [bytesRow_at _ _ j (by simpa using hj)]
    simp

set_option maxHeartbeats 1000000 in
theorem fixed_yes (g : Nat) (l : List UInt8) (z : Nat) (w : World) (hl : l.length ≤ 9223372036854775807) (hx : Rdr w g l) (hz : z ≤ 8) (hm : z ≤ l.length) :
    Calls Try.prog 47 #[.pointer (some ⟨g, 0, none⟩), .int .u64 (z : Int)] w fun e w' => e = .returned (.int .u64 (M.unle (l.take z) : Int)) ∧ Rdr w' g (l.drop z) ∧ w.grownBy w' (some g) := by
  have ht := take_yes g l (z : Int) w hl hx (by omega) (by omega)
  simp only [Int.toNat_natCast] at ht
  obtain ⟨C, w1, hcv, hbel, hcell⟩ := conv_bytes (P := Try.prog) (w.setCell ⟨g, 0, none⟩ (.string ⟨(l.drop z).toArray⟩)) (l.take z) Try.underlying9 Try.underlying51 Try.underlying5
  have hlz : (l.take z).length = z := by rw [List.length_take]; omega
  have hsz : (w.setCell ⟨g, 0, none⟩ (.string ⟨(l.drop z).toArray⟩)).heap.size = w.heap.size := by simp [World.setCell]
  rw [hsz] at hbel hcell hcv
  rw [hlz] at hcv
  have hgr : w.grownBy w1 (some g) := grownBy_step (grownBy_set g _) (⟨hbel.os, hbel.tape, hbel.output, hbel.size, fun k hk _ => hbel.block k (by rw [← hsz]; exact hk)⟩ : World.grownBy _ w1 none) (.inr (.inl rfl))
  have hrd : Rdr w1 g (l.drop z) := (hbel.block g hx.lt).trans (hx.set _)
  have Ht := Lib.hid ht
  have Hgr := Lib.hid hgr
  have Hrd := Lib.hid hrd
  have Hcell := Lib.hid hcell
  have Hlz := Lib.hid hlz
  clear ht hgr hrd hcell hbel hsz hlz hx
  obtain ⟨r, hr⟩ : ∃ r : Nat, r = M.unle (l.take z) := ⟨_, rfl⟩
  rw [← hr]
  have Hr := Lib.hid hr
  clear hr
  go_enter Try.func47, Try.ntmps47
  go_wp2_with fail
  refine (Ht.out).mono ?_
  rintro e w' ⟨rfl, rfl⟩
  go_wp2
  go_loop [5, 13] (fun s i => ∃ (k acc : Nat), i = .int .i64 (k : Int) ∧ k ≤ z ∧ s = .int .u64 (acc : Int) ∧ acc = M.unle ((l.take z).take k)) (fun _ i => z - (intOf i).toNat)
  case atStart => exact ⟨0, 0, rfl, by omega, rfl, rfl⟩
  case round =>
    obtain ⟨k, acc, rfl, hk, rfl, hacc⟩ := hrel
    by_cases hlt : k < z
    · have hkz : k < (l.take z).length := by rw [Hlz.out]; exact hlt
      obtain ⟨c, hc⟩ : ∃ c : Int, c = ((l.take z)[k].toNat : Int) := ⟨_, rfl⟩
      have hc0 : 0 ≤ c := by omega
      have hc1 : c ≤ 255 := by have := (l.take z)[k].toNat_lt; omega
      have hq : w1.cell? ⟨w.heap.size, k, none⟩ = some (.int .u8 c) := by rw [hc]; exact Hcell.out k hkz
      have hlen : ((l.take z).take k).length = k := by rw [List.length_take]; omega
      have hb := M.unle_lt ((l.take z).take k)
      rw [hlen, show (256 : Nat) ^ k = 2 ^ (8 * k) by rw [Nat.pow_mul], ← hacc] at hb
      have hsn : acc + c.toNat * 2 ^ (8 * k) = M.unle ((l.take z).take (k + 1)) := by
        rw [List.take_succ_eq_append_getElem hkz, unle_snoc, hlen, ← hacc, hc, Int.toNat_natCast]
      have hp : 2 ^ (8 * k) ≤ 2 ^ 56 := Nat.pow_le_pow_right (by decide) (by omega)
      have hb2 : c.toNat * 2 ^ (8 * k) < 18446744073709551616 := by
        calc c.toNat * 2 ^ (8 * k) ≤ 255 * 2 ^ 56 := Nat.mul_le_mul (by omega) hp
          _ < _ := by decide
      have hor := shor (acc : Int) c (8 * k) (by omega) (by exact Int.ofNat_lt.2 hb) hc0 hb2 (by
        have e : (2 : Nat) ^ 56 = 72057594037927936 := by decide
        omega)
      rw [Int.toNat_natCast] at hor
      have Hor := Lib.hid hor
      have Hsn := Lib.hid hsn
      clear hc hkz hlen hb hsn hp hb2 hor hacc hl hm
      go_wp2
      go_round
      case rel => exact ⟨k + 1, acc + c.toNat * 2 ^ (8 * k), by go_num, by omega, by rw [Hor.out], Hsn.out⟩
      case measure => simp [intOf]; omega
    · have hkz : k = z := by omega
      have hfin : acc = r := by rw [Hr.out, hacc, hkz, List.take_of_length_le (by rw [Hlz.out]; omega)]
      have Hfin := Lib.hid hfin
      clear hacc hkz hfin
      go_wp2
      go_ret
      exact ⟨by rw [← Hfin.out]; rfl, Hrd.out, Hgr.out⟩
end Go.Proofs.Ytnnnnlcpmocnfaa
