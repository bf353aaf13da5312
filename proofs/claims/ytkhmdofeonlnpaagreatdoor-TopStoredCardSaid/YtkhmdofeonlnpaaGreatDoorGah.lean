/- SEGMENT: BYTES OF NUMBERS; rows of bytes of the call's own. -/
import Derived.Test.YtkhmdofeonlnpaaGreatDoorGag
import Derived.WalkKit
import Derived.Maps.AppendAt
import Derived.Lib.Hide
import Derived.Lib.AppendStr
import Derived.Laws.IdiomStrings
import Derived.Laws.OwnMore
import Derived.Laws.CopyOwn
import Derived.Laws.BitsAllLaws
namespace Go.Proofs.YtkhmdofeonlnpaaGreatDoor
open Go.RowKit
set_option linter.unusedVariables false
set_option linter.unusedSimpArgs false
namespace M
/-- a byte of a number -/
def by8 (n : Nat) : UInt8 := UInt8.ofNat n
theorem by8_toNat (n : Nat) (h : n < 256) : (by8 n).toNat = n := by
  unfold by8
  rw [UInt8.toNat_ofNat']
  exact Nat.mod_eq_of_lt h
/-- a number's bytes, the lowest first -/
def le : Nat → Nat → List UInt8
  | 0, _ => []
  | k + 1, n => by8 (n % 256) :: le k (n / 256)
/-- the number of bytes -/
def unle : List UInt8 → Nat
  | [] => 0
  | b :: t => b.toNat + 256 * unle t
theorem le_len : ∀ k n, (le k n).length = k
  | 0, _ => rfl
  | k + 1, n => by simp [le, le_len k]
theorem le_snoc : ∀ k n, le (k + 1) n = le k n ++ [by8 (n / 256 ^ k % 256)]
  | 0, n => by simp [le]
  | k + 1, n => by
    rw [le, le_snoc k (n / 256), le, Nat.div_div_eq_div_mul, Nat.pow_succ, Nat.mul_comm 256]
    rfl
theorem unle_le : ∀ k n, n < 256 ^ k → unle (le k n) = n
  | 0, n, h => by simp at h; subst h; rfl
  | k + 1, n, h => by
    have := unle_le k (n / 256) (by rw [Nat.pow_succ] at h; omega)
    simp only [le, unle, this, by8_toNat (n % 256) (by omega)]
    omega
theorem unle_lt : ∀ l : List UInt8, unle l < 256 ^ l.length
  | [] => by simp [unle]
  | b :: t => by
    have := unle_lt t
    have hb := b.toNat_lt
    simp only [unle, List.length_cons, Nat.pow_succ]
    omega
end M
/-- a byte as a value -/
abbrev B (b : UInt8) : Value := .int .u8 (b.toNat : Int)
theorem B_one (l : List UInt8) : ∀ u ∈ l.map B, u.oneCell' = true := by
  intro u hu
  obtain ⟨b, _, rfl⟩ := List.mem_map.1 hu
  rfl
theorem by8_int (n : Nat) (h : n < 256) : B (M.by8 n) = .int .u8 (n : Int) := by rw [B, M.by8_toNat n h]
theorem B_of {k : Int} {n : Nat} (h : n < 256) (e : (n : Int) = k) : Value.int .u8 k = B (M.by8 n) := by rw [by8_int n h, e]
theorem fix_byte (n : Int) (h : 0 ≤ n) (k : Nat) : Value.int .u8 (n / 2 ^ (8 * k) % 256) = B (M.by8 (n.toNat / 256 ^ k % 256)) := by
  obtain ⟨m, rfl⟩ := Int.eq_ofNat_of_zero_le h
  rw [by8_int _ (Nat.mod_lt _ (by decide)), Int.toNat_natCast, show (256 : Nat) ^ k = 2 ^ (8 * k) from by rw [Nat.pow_mul]]
  simp
theorem unle_snoc : ∀ (l : List UInt8) (b : UInt8), M.unle (l ++ [b]) = M.unle l + b.toNat * 2 ^ (8 * l.length)
  | [], b => by simp [M.unle]
  | x :: t, b => by
    simp only [List.cons_append, M.unle, unle_snoc t b, List.length_cons]
    rw [show 8 * (t.length + 1) = 8 * t.length + 8 by omega, Nat.pow_add]
    simp only [Nat.reducePow]
    rw [Nat.mul_add, ← Nat.add_assoc]
    congr 1
    rw [Nat.mul_left_comm, Nat.mul_comm 256]
/-- bits put behind bits -/
theorem shor (acc x : Int) (e : Nat) (h0 : 0 ≤ acc) (h1 : acc < ((2 ^ e : Nat) : Int)) (h2 : 0 ≤ x) (h3 : x.toNat * 2 ^ e < 18446744073709551616) (h4 : acc < 18446744073709551616) :
    bits .or .u64 acc (IntKind.u64.wrap (x * 2 ^ e)) = ((acc.toNat + x.toNat * 2 ^ e : Nat) : Int) := by
  obtain ⟨n, rfl⟩ := Int.eq_ofNat_of_zero_le h2
  obtain ⟨a, rfl⟩ := Int.eq_ofNat_of_zero_le h0
  simp only [Int.toNat_natCast] at *
  have e1 : ((n : Int) * 2 ^ e) = ((n * 2 ^ e : Nat) : Int) := by simp
  rw [e1]
  have e2 : IntKind.u64.wrap ((n * 2 ^ e : Nat) : Int) = ((n * 2 ^ e : Nat) : Int) := by
    rw [IntKind.wrap_u64]
    generalize n * 2 ^ e = y at *
    omega
  rw [e2, u64_or_nat _ _ (by omega) h3, Nat.or_comm, nat_join e _ _ (by simp) (by omega), Nat.add_comm]

/-- the row of bytes v of the call's own, whole: its block, its cells -/
def BRow (w : World) (base : Nat) (g n : Nat) (xs : List UInt8) : Prop := w.ownsRow base 5 1 (.slice (some ⟨g, 0, none⟩) n n) n (xs.map B)
section
variable {w w' : World} {base g n : Nat} {xs : List UInt8}
theorem BRow.alloc (h : BRow w base g n xs) (o : Obj) : BRow (w.alloc o) base g n xs := World.ownsRow.alloc h o
theorem BRow.drew (h : BRow w base g n xs) : BRow w.drew base g n xs := h
theorem BRow.len (h : BRow w base g n xs) : xs.length = n := by have := h.1; simpa using this
theorem BRow.lt (h : BRow w base g n xs) : base ≤ g ∧ g < w.heap.size := World.ownsRow.lt h g rfl
theorem BRow.set (h : BRow w base g n xs) (j : Nat) (b : UInt8) : BRow (w.setCell ⟨g, j, none⟩ (B b)) base g n (xs.set j b) ∧ w.grownBy (w.setCell ⟨g, j, none⟩ (B b)) (some g) := by
  have := World.ownsRow.stored h j (B b)
  rwa [← List.map_set] at this
theorem BRow.cell (h : BRow w base g n xs) (j : Nat) (hj : j < n) : w.cell? ⟨g, j, none⟩ = some (B (xs[j]'(by rw [h.len]; exact hj))) := by
  have := World.ownsRow.cells h (g := g) rfl j (B (xs[j]'(by rw [h.len]; exact hj))) (by simp [h.len, hj])
  simpa [Addr.add_lit] using this
theorem BRow.cellE (h : BRow w base g n xs) (j : Nat) (hj : j < n) : ∃ v, w.cell? ⟨g, j, none⟩ = some v := ⟨_, h.cell j hj⟩
theorem BRow.fz (h : BRow w base g n xs) (j : Nat) : w.frozen? ⟨g, j, none⟩ = false := World.ownsRow.frozenAt h j
theorem BRow.under (h : BRow w base g n xs) (hb : Below w.heap.size w w') : BRow w' base g n xs :=
  World.ownsRow.kept (row := none) h ⟨hb.os, hb.tape, hb.output, hb.size, fun k hk _ => hb.block k hk⟩ (.inr (by simp [Value.ownBlock]))
/-- its string -/
theorem BRow.conv {P : Program} {T U : TypeId} (h : BRow w base g n xs) (hT : P.underlying T = some (.slice 5)) (hE : P.underlying 5 = some (.int .u8)) (hU : P.underlying U = some .string) :
    (convert T U (.slice (some ⟨g, 0, none⟩) n n)).run P w = .ok (.string ⟨xs.toArray⟩) w := by
  have := run_convert_bytes_back (P := P) w T U 5 ⟨g, 0, none⟩ n xs hT hE hU fun j hj => World.ownsRow.cells h (g := g) rfl j _ (by simp [hj])
  rwa [h.len] at this
end
theorem rep_set (j size : Nat) (l : List UInt8) (b : UInt8) (hl : l.length = j) (h : j < size) : (l ++ List.replicate (size - j) 0).set j b = l ++ [b] ++ List.replicate (size - (j + 1)) 0 := by
  rw [List.set_append_right _ _ (by omega), hl, Nat.sub_self, show size - j = (size - (j + 1)) + 1 by omega, List.replicate_succ]
  simp
end Go.Proofs.YtkhmdofeonlnpaaGreatDoor

/- SEGMENT: THE WALKS OVER little, whole. -/
namespace Go.Proofs.YtkhmdofeonlnpaaGreatDoor
open Go.RowKit
set_option maxRecDepth 100000
set_option linter.unusedVariables false
set_option linter.unusedSimpArgs false

theorem grown_b {w w' : World} (h : w.grownBy w' none) : Below w.heap.size w w' := (Below.refl _ w).grown h (Nat.le_refl _) (fun _ e => by cases e)
theorem Tryz.info5 : (Tryz.prog.info? 5).map (fun i => (i.zero, i.size, i.bytes)) = some (some (.int .u8 0), 1, 1) := by kernel_rfl
theorem made_bytes {w : World} {base g n : Nat} (h : w.ownsRow base 5 1 (.slice (some ⟨g, 0, none⟩) n n) n (madeCells #[Value.int .u8 0] n).toList) : BRow w base g n (List.replicate n 0) := by
  unfold BRow
  have : (madeCells #[Value.int .u8 0] n).toList = (List.replicate n (0 : UInt8)).map B := by
    rw [List.map_replicate]
    simp only [madeCells, List.size_toArray, List.length_cons, List.length_nil, Nat.mod_one]
    apply List.ext_getElem
    · simp
    · intro i h1 h2
      simp [B, Nat.mod_one]
  rwa [← this]

set_option maxHeartbeats 1000000 in
theorem little_any (w : World) (n : Int) (size : Nat) (hn0 : 0 ≤ n) (hn : n ≤ 18446744073709551615) (hs : size ≤ 8) (hs0 : 0 < size) :
    Calls Tryz.prog 233 #[.int .u64 n, .int .i64 (size : Int)] w fun e w' => e = .returned (.string ⟨(M.le size n.toNat).toArray⟩) ∧ Below w.heap.size w w' := by
  obtain ⟨i0, hi, hz0, hz1, hz2⟩ := info_parts Tryz.info5
  go_enter Tryz.func233, Tryz.ntmps233
  go_wp2_with (at_make; refine wpList_make_full _ rfl _ _ 151 rfl w.heap.size 5 i0 (.int .u8 0) 1 Tryz.underlying151 hi hz0 hz1 _ _ _ _ size rfl rfl rfl rfl ?b2 ?b3 (Nat.le_refl _) ?_)
  case b2 => rw [hz2]; omega
  case b3 => unfold maxLen; omega
  intro w1 hown hgr
  have HR := Lib.hid (made_bytes hown)
  have Hb := Lib.hid (grown_b hgr)
  obtain ⟨g, hg⟩ : ∃ g, w.heap.size = g := ⟨_, rfl⟩
  rw [hg]
  clear hown hgr hi hz0 hz1 hz2
  have hb0 : Below w.heap.size w w1 := Hb.out
  have hgw : w.heap.size ≤ g := by omega
  clear Hb
  have Hb := Lib.hid hb0
  go_wp2
  go_loopw [10] (fun i wr => ∃ (k : Nat), i = .int .i64 (k : Int) ∧ k ≤ size ∧ BRow wr w.heap.size g size (M.le k n.toNat ++ List.replicate (size - k) 0) ∧ Below w.heap.size w wr) (fun i _ => size - (intOf i).toNat)
  case atStart => exact ⟨0, rfl, by omega, by rw [← hg]; simpa [M.le] using HR.out, Hb.out⟩
  case round =>
    obtain ⟨k, rfl, hk, hown, hbel⟩ := hrel
    have HO := Lib.hid hown
    have Hbl := Lib.hid hbel
    have hglt : g < wr.heap.size := hown.lt.2
    by_cases hlt : k < size
    · obtain ⟨b0, hc⟩ := hown.cellE k hlt
      have hf := hown.fz k
      have hfix := Lib.hid (fix_byte n hn0 k)
      have hset := hown.set k (M.by8 (n.toNat / 256 ^ k % 256))
      rw [rep_set k size _ _ (M.le_len k _) hlt, ← M.le_snoc, ← hfix.out] at hset
      have Hset := Lib.hid hset
      clear hset hown hbel
      go_wp2
      go_roundw
      case rel => exact ⟨k + 1, by go_num, by omega, Hset.out.1, Hbl.out.grown Hset.out.2 Hbl.out.size (fun _ e => by cases e; exact hgw)⟩
      case measure => simp [intOf]; omega
    · have hkn : k = size := by omega
      have hcv := hown.conv Tryz.underlying151 Tryz.underlying5 Tryz.underlying9
      rw [hkn, Nat.sub_self, List.replicate_zero, List.append_nil] at hcv
      clear hkn hown hbel
      go_wp2
      go_ret
      exact ⟨rfl, Hbl.out⟩
end Go.Proofs.YtkhmdofeonlnpaaGreatDoor

/- SEGMENT: THE WALKS OVER whole, name. -/
namespace Go.Proofs.YtkhmdofeonlnpaaGreatDoor
open Go.RowKit
set_option maxRecDepth 100000
set_option linter.unusedVariables false
set_option linter.unusedSimpArgs false

set_option maxHeartbeats 1000000 in
theorem whole_of (w : World) (l : List UInt8) (hl : l.length ≤ 8) :
    Calls Tryz.prog 215 #[.string ⟨l.toArray⟩] w fun e w' => e = .returned (.int .u64 (M.unle l : Int)) ∧ w = w' := by
  go_enter Tryz.func215, Tryz.ntmps215
  go_wp2
  go_loop [3, 7] (fun s i => ∃ (k acc : Nat), i = .int .i64 (k : Int) ∧ k ≤ l.length ∧ s = .int .u64 (acc : Int) ∧ acc = M.unle (l.take k)) (fun _ i => l.length - (intOf i).toNat)
  case atStart => exact ⟨0, 0, rfl, by omega, rfl, rfl⟩
  case round =>
    obtain ⟨k, acc, rfl, hk, rfl, hacc⟩ := hrel
    by_cases hlt : k < l.length
    · obtain ⟨c, hc⟩ : ∃ c : Int, c = (l[k].toNat : Int) := ⟨_, rfl⟩
      have hc0 : 0 ≤ c := by omega
      have hc1 : c ≤ 255 := by have := l[k].toNat_lt; omega
      have hlen : (l.take k).length = k := by rw [List.length_take]; omega
      have hb := M.unle_lt (l.take k)
      rw [hlen, show (256 : Nat) ^ k = 2 ^ (8 * k) by rw [Nat.pow_mul], ← hacc] at hb
      have hsn : acc + c.toNat * 2 ^ (8 * k) = M.unle (l.take (k + 1)) := by
        rw [List.take_succ_eq_append_getElem hlt, unle_snoc, hlen, ← hacc, hc, Int.toNat_natCast]
      have hp : 2 ^ (8 * k) ≤ 2 ^ 56 := Nat.pow_le_pow_right (by decide) (by omega)
      have hb2 : c.toNat * 2 ^ (8 * k) < 18446744073709551616 := by
        calc c.toNat * 2 ^ (8 * k) ≤ 255 * 2 ^ 56 := Nat.mul_le_mul (by omega) hp
          _ < _ := by decide
      have hor := shor (acc : Int) c (8 * k) (by omega) (by exact Int.ofNat_lt.2 hb) hc0 hb2 (by
        have e : (2 : Nat) ^ 56 = 72057594037927936 := by decide
        omega)
      rw [Int.toNat_natCast, hc] at hor
      have Hor := Lib.hid hor
      have Hc := Lib.hid hc
      have Hsn := Lib.hid hsn
      have hq : IntKind.u64.wrap (((⟨l.toArray⟩ : ByteArray)[k]'(by simpa [ByteArray.size] using hlt)).toNat : Int) = (l[k].toNat : Int) := by
        rw [IntKind.wrap_u64]
        show ((l[k].toNat : Nat) : Int) % _ = _
        have := l[k].toNat_lt
        omega
      have Hq := Lib.hid hq
      clear hlen hb hsn hp hb2 hor hacc hc1 hc0 hc hq
      go_wp2
      go_round
      case rel => exact ⟨k + 1, acc + c.toNat * 2 ^ (8 * k), by go_num, by omega, by rw [Hq.out, Hor.out, ← Hc.out], Hsn.out⟩
      case measure => simp [intOf]; omega
    · have hkz : k = l.length := by omega
      have hfin : acc = M.unle l := by rw [hacc, hkz, List.take_length]
      have Hfin := Lib.hid hfin
      clear hacc hkz hfin
      go_wp2
      go_ret
      exact ⟨by rw [← Hfin.out]; rfl, rfl⟩

/-- a digit's letter -/
def hexd (n : Nat) : UInt8 := if n < 10 then M.by8 (48 + n) else M.by8 (87 + n)
/-- the lowest digits, the lowest last -/
def hexL (n : Nat) : Nat → List UInt8
  | 0 => []
  | i + 1 => hexd (n / 16 ^ i % 16) :: hexL n i
theorem hexL_len (n : Nat) : ∀ i, (hexL n i).length = i
  | 0 => rfl
  | i + 1 => by simp [hexL, hexL_len n i]
/-- a file's name -/
def nameL (n : Nat) : List UInt8 := hexL n 16
def nameB (n : Nat) : ByteArray := ⟨(nameL n).toArray⟩
/-- an array of bytes -/
def Arr (w : World) (g T : Nat) (xs : List UInt8) : Prop := w.heap[g]? = some (.cells (xs.map B).toArray T (0, 0))
theorem Arr.cell {w : World} {g T : Nat} {xs : List UInt8} (h : Arr w g T xs) (j : Nat) (hj : j < xs.length) : ∃ v, w.cell? ⟨g, j, none⟩ = some v ∧ w.frozen? ⟨g, j, none⟩ = false := by
  refine ⟨B xs[j], ?_, by simp [World.frozen?, show w.heap[g]? = _ from h]⟩
  have := cell_of_row w g j _ T (0, 0) h
  rw [this]; simp [hj]
theorem Arr.set {w : World} {g T : Nat} {xs : List UInt8} (h : Arr w g T xs) (j : Nat) (b : UInt8) : Arr (w.setCell ⟨g, j, none⟩ (B b)) g T (xs.set j b) := by
  have := heap_setCell_same w g j _ T (B b) h
  unfold Arr
  rw [this, List.map_set]
  simp
theorem hexd_val : ∀ k : Fin 16, (⟨#[48, 49, 50, 51, 52, 53, 54, 55, 56, 57, 97, 98, 99, 100, 101, 102]⟩ : ByteArray)[k.1]'k.2 = hexd k.1 := by decide
theorem Arr.conv {P : Program} {w : World} {g T S U : TypeId} {xs : List UInt8} (h : Arr w g T xs) (hT : P.underlying S = some (.slice 5)) (hE : P.underlying 5 = some (.int .u8)) (hU : P.underlying U = some .string) :
    (convert S U (.slice (some ⟨g, 0, none⟩) xs.length xs.length)).run P w = .ok (.string ⟨xs.toArray⟩) w := by
  refine run_convert_bytes_back (P := P) w S U 5 ⟨g, 0, none⟩ xs.length xs hT hE hU fun j hj => ?_
  rw [Addr.add_lit, Nat.zero_add, cell_of_row w g j _ T (0, 0) h]
  simp [hj]
theorem and15 (n : Int) (k : Nat) (h0 : 0 ≤ n) (h1 : n ≤ 18446744073709551615) : bits .and .u64 (n / 2 ^ (4 * k)) 15 = ((n.toNat / 16 ^ k % 16 : Nat) : Int) := by
  obtain ⟨m, rfl⟩ := Int.eq_ofNat_of_zero_le h0
  have e : ((m : Int) / 2 ^ (4 * k)) = ((m / 16 ^ k : Nat) : Int) := by
    rw [show (16 : Nat) ^ k = 2 ^ (4 * k) by rw [Nat.pow_mul]]
    simp
  rw [e, Int.toNat_natCast, show (15 : Int) = ((15 : Nat) : Int) by rfl, u64_and_nat _ _ (Nat.lt_of_le_of_lt (Nat.div_le_self _ _) (by omega)) (by decide)]
  congr 1
  exact Nat.and_two_pow_sub_one_eq_mod _ 4

set_option maxHeartbeats 1000000 in
theorem name_any (w : World) (n : Int) (hn0 : 0 ≤ n) (hn : n ≤ 18446744073709551615) :
    Calls Tryz.prog 180 #[.int .u64 n] w fun e w' => e = .returned (.string (nameB n.toNat)) ∧ Below w.heap.size w w' := by
  go_enter Tryz.func180, Tryz.ntmps180
  go_wp2
  have h0 : Arr (w.alloc (.cells ((List.replicate 16 (0 : UInt8)).map B).toArray 265)) w.heap.size 265 (List.replicate 16 0) := blk_new w _
  have H0 := Lib.hid h0
  have Hb0 := Lib.hid ((Below.refl _ w).alloc (Nat.le_refl _) (.cells ((List.replicate 16 (0 : UInt8)).map B).toArray 265))
  clear h0
  go_loopw [6] (fun i wr => ∃ (k : Nat), i = .int .i64 (k : Int) ∧ k ≤ 16 ∧ Arr wr w.heap.size 265 (List.replicate (16 - k) 0 ++ hexL n.toNat k) ∧ Below w.heap.size w wr) (fun i _ => 16 - (intOf i).toNat)
  case atStart => exact ⟨0, rfl, by omega, H0.out, Hb0.out⟩
  case round =>
    obtain ⟨k, rfl, hk, hA, hbel⟩ := hrel
    have HA := Lib.hid hA
    have Hbl := Lib.hid hbel
    have hglt : w.heap.size < wr.heap.size := (Array.getElem?_eq_some_iff.1 hA).1
    by_cases hlt : k < 16
    · obtain ⟨b0, hc, hf⟩ := hA.cell (15 - k) (by simp [hexL_len]; omega)
      have e15 : (15 : Int) - (k : Int) = ((15 - k : Nat) : Int) := by omega
      have hx := and15 n k hn0 hn
      have hx16 : n.toNat / 16 ^ k % 16 < 16 := Nat.mod_lt _ (by decide)
      have hset := hA.set (15 - k) (hexd (n.toNat / 16 ^ k % 16))
      have hsh : (List.replicate (16 - k) 0 ++ hexL n.toNat k).set (15 - k) (hexd (n.toNat / 16 ^ k % 16)) = List.replicate (16 - (k + 1)) 0 ++ hexL n.toNat (k + 1) := by
        rw [show 16 - k = (15 - k) + 1 by omega, show 16 - (k + 1) = 15 - k by omega, List.replicate_succ', List.append_assoc, List.set_append_right _ _ (by simp)]
        simp [hexL]
      rw [hsh] at hset
      obtain ⟨x, hxe⟩ : ∃ x, n.toNat / 16 ^ k % 16 = x := ⟨_, rfl⟩
      rw [hxe] at hx hx16 hset
      have hv := hexd_val ⟨x, hx16⟩
      have Hset := Lib.hid hset
      have Hv := Lib.hid hv
      have hx0 : (0 : Int) ≤ (x : Int) := by omega
      have hx1 : (x : Int) < 16 := by omega
      clear hA hbel hsh hxe hset hv
      go_wp2
      go_roundw
      case rel => exact ⟨k + 1, by go_num, by omega, by rw [show Value.int .u8 _ = B (hexd x) from by rw [← Hv.out]]; exact Hset.out, Hbl.out.setCell (p := ⟨w.heap.size, 15 - k, none⟩) (Nat.le_refl _) _⟩
      case measure => simp [intOf]; omega
    · have hk16 : k = 16 := by omega
      subst hk16
      have hA2 : Arr wr w.heap.size 265 (nameL n.toNat) := by have := hA; simpa [nameL] using this
      have hcv := hA2.conv (P := Tryz.prog) (S := 151) (U := 9) Tryz.underlying151 Tryz.underlying5 Tryz.underlying9
      have hl16 : (nameL n.toNat).length = 16 := hexL_len _ 16
      rw [hl16] at hcv
      obtain ⟨s, hs⟩ : ∃ s : ByteArray, s = ⟨(nameL n.toNat).toArray⟩ := ⟨_, rfl⟩
      rw [← hs] at hcv
      have Hs := Lib.hid hs
      clear hA hA2 hl16 hbel hs
      go_wp2
      go_ret
      exact ⟨by rw [Hs.out]; rfl, Hbl.out⟩
end Go.Proofs.YtkhmdofeonlnpaaGreatDoor

/- SEGMENT: THE WALK OVER internal/strconv.ParseUint at base 16. -/
namespace Go.Proofs.YtkhmdofeonlnpaaGreatDoor
open Go.RowKit
set_option maxRecDepth 100000
set_option linter.unusedVariables false
set_option linter.unusedSimpArgs false

theorem hexL_at (m : Nat) : ∀ (i k : Nat) (h : k < (hexL m i).length), (hexL m i)[k] = hexd (m / 16 ^ (i - 1 - k) % 16)
  | 0, k, h => by simp [hexL] at h
  | i + 1, 0, h => by simp [hexL]
  | i + 1, k + 1, h => by
    simp only [hexL, List.getElem_cons_succ]
    rw [hexL_at m i k (by simpa [hexL] using h)]
    congr 4
    omega
theorem hexd_nat (x : Nat) (h : x < 16) : (hexd x).toNat = if x < 10 then 48 + x else 87 + x := by
  unfold hexd
  split
  · exact M.by8_toNat _ (by omega)
  · exact M.by8_toNat _ (by omega)
theorem name_at {l : List UInt8} {m k : Nat} (e : l = nameL m) (h : k < l.length) : k < 16 ∧ l[k].toNat = (if m / 16 ^ (15 - k) % 16 < 10 then 48 + m / 16 ^ (15 - k) % 16 else 87 + m / 16 ^ (15 - k) % 16) := by
  subst e
  have hl : (nameL m).length = 16 := hexL_len m 16
  refine ⟨by omega, ?_⟩
  have := hexL_at m 16 k h
  rw [show (nameL m)[k] = _ from this, hexd_nat _ (Nat.mod_lt _ (by decide))]
theorem lo_low : ∀ c : Fin 256, 97 ≤ c.1 → c.1 ≤ 102 → c.1 ||| 32 = c.1 := by decide
theorem lo_lt (c : Nat) (h : c < 256) : c ||| 32 < 256 := Nat.or_lt_two_pow (n := 8) h (by decide)
theorem u8_or (c : Nat) (h : c < 256) : bits .or .u8 (c : Int) 32 = ((c ||| 32 : Nat) : Int) := by
  have := (by decide : ∀ c : Fin 256, bits .or .u8 (c.1 : Int) 32 = ((c.1 ||| 32 : Nat) : Int)) ⟨c, h⟩
  exact this
theorem conv_bytes {P : Program} {S T E : TypeId} (w : World) (l : List UInt8) (hS : P.underlying S = some .string) (hT : P.underlying T = some (.slice E)) (hE : P.underlying E = some (.int .u8)) :
    ∃ (C : Nat) (w1 : World), (convert S T (.string ⟨l.toArray⟩)).run P w = .ok (.slice (some ⟨w.heap.size, 0, none⟩) l.length C) w1 ∧ Below w.heap.size w w1 ∧
      ∀ j (h : j < l.length), w1.cell? ⟨w.heap.size, j, none⟩ = some (.int .u8 (l[j].toNat : Int)) := by
  have h := run_bytes_of_string (P := P) w S T E ⟨l.toArray⟩ hS hT hE
  have hs : (ByteArray.mk l.toArray).size = l.length := by simp [ByteArray.size]
  rw [hs] at h
  refine ⟨_, _, h, ?_, ?_⟩
  · exact ((Below.refl _ w).drew).alloc (Nat.le_refl _) _
  · intro j hj
    have h := World.cell?_alloc_mark w.drew (bytesRow ⟨l.toArray⟩ (grownCap w l.length 0 E)) E ((bytesRow ⟨l.toArray⟩ (grownCap w l.length 0 E)).size, (bytesRow ⟨l.toArray⟩ (grownCap w l.length 0 E)).size + 1) j
    refine h.trans ?_
    rw [bytesRow_at _ _ j (by simpa using hj)]
    simp
/-- what ParseUint at base 16 answers -/
def Pu (l : List UInt8) (v : Int) (err : Value) : Prop := 0 ≤ v ∧ v ≤ 18446744073709551615 ∧ (err = .nilIface ∨ err = .iface 277 (.int .i64 1) ∨ err = .iface 277 (.int .i64 2)) ∧
  ∀ m, m < 18446744073709551616 → l = nameL m → err = .nilIface ∧ v = (m : Int)

set_option maxHeartbeats 4000000 in
theorem iparse_any (w : World) (l : List UInt8) (hl : l.length ≤ 9223372036854775807) :
    Calls Tryz.prog 213 #[.string ⟨l.toArray⟩, .int .i64 16, .int .i64 64] w fun e w' => (∃ v err, e = .returned (.tuple #[.int .u64 v, err]) ∧ Pu l v err) ∧ Below w.heap.size w w' := by
  obtain ⟨C, w1, hcv, hbel, hcell⟩ := conv_bytes (P := Tryz.prog) w l Tryz.underlying9 Tryz.underlying151 Tryz.underlying5
  have Hcell := Lib.hid hcell
  have Hbel := Lib.hid hbel
  clear hcell hbel
  go_enter Tryz.func213, Tryz.ntmps213
  by_cases hl0 : l = []
  · subst hl0
    go_wp2
    go_ret2
    exact ⟨⟨_, _, rfl, by omega, by omega, .inr (.inr rfl), fun m _ e => by have := congrArg List.length e; simp [nameL, hexL_len] at this⟩, Below.refl _ _⟩
  · have hne : l.isEmpty = false := by simpa using hl0
    have hw1 : IntKind.u64.wrap 18446744073709551616 = 0 := by decide
    have hw2 : IntKind.u64.wrap (-1) = 18446744073709551615 := by decide
    have hw3 : IntKind.u64.wrap (0 - 1) = 18446744073709551615 := by decide
    go_wp2
    clear hne hw1 hw2 hw3
    go_loop [12, 13, 101] (fun u s i => ∃ (k acc : Nat), i = .int .i64 (k : Int) ∧ k ≤ l.length ∧ u = .bool false ∧ s = .int .u64 (acc : Int) ∧ acc < 18446744073709551616 ∧ ∀ m, m < 18446744073709551616 → l = nameL m → acc = m / 16 ^ (16 - k)) (fun _ _ i => l.length - (intOf i).toNat)
    case atStart => exact ⟨0, 0, rfl, by omega, rfl, rfl, by omega, fun m hm _ => (Nat.div_eq_of_lt (by simpa using hm)).symm⟩
    case round =>
      obtain ⟨k, acc, rfl, hk, rfl, rfl, ha, hm⟩ := hrel
      by_cases hlt : k < l.length
      · obtain ⟨c, hc⟩ : ∃ c : Nat, l[k].toNat = c := ⟨_, rfl⟩
        have hc255 : c < 256 := by rw [← hc]; exact l[k].toNat_lt
        have hq := Hcell.out k hlt
        rw [hc] at hq
        have hname : ∀ m, m < 18446744073709551616 → l = nameL m → k < 16 ∧ c = (if m / 16 ^ (15 - k) % 16 < 10 then 48 + m / 16 ^ (15 - k) % 16 else 87 + m / 16 ^ (15 - k) % 16) ∧ acc = m / 16 ^ (16 - k) := fun m h1 h2 => by
          have := name_at h2 hlt
          rw [hc] at this
          exact ⟨this.1, this.2, hm m h1 h2⟩
        have hsmall : ∀ m, m < 18446744073709551616 → l = nameL m → acc < 1152921504606846976 ∧ ∀ d, d = m / 16 ^ (15 - k) % 16 → acc * 16 + d = m / 16 ^ (16 - (k + 1)) := fun m h1 h2 => by
          obtain ⟨hk16, _, hacc⟩ := hname m h1 h2
          have e : 16 ^ (16 - k) = 16 ^ (15 - k) * 16 := by rw [← Nat.pow_succ]; congr 1; omega
          rw [e, ← Nat.div_div_eq_div_mul] at hacc
          have hle : m / 16 ^ (15 - k) ≤ m := Nat.div_le_self _ _
          refine ⟨by omega, fun d hd => ?_⟩
          rw [show 16 - (k + 1) = 15 - k by omega]
          omega
        have Hname := Lib.hid hname
        have Hsmall := Lib.hid hsmall
        have Hm := Lib.hid hm
        have hc0 : (0 : Int) ≤ (c : Int) := by omega
        have hc1 : (c : Int) ≤ 255 := by omega
        have hor := u8_or c hc255
        obtain ⟨lo, hlo⟩ : ∃ lo, c ||| 32 = lo := ⟨_, rfl⟩
        have hlo2 := lo_lt c hc255
        have hlow := lo_low ⟨c, hc255⟩
        simp only at hlow
        rw [hlo] at hor hlo2 hlow
        have Hlow := Lib.hid hlow
        have Hlo := Lib.hid hlo
        clear hname hsmall hm hc hlo hlow
        by_cases h1 : 48 ≤ c ∧ c ≤ 57
        · obtain ⟨hA1, hA2⟩ := h1
          have i1 : (48 : Int) ≤ (c : Int) := by omega
          have i2 : (c : Int) ≤ 57 := by omega
          have i3 : ¬ (c : Int) = 95 := by omega
          have i3b : ((c : Int) == 95) = false := by simp; omega
          have i4 : (0 : Int) ≤ (c : Int) - 48 := by omega
          have i5 : (c : Int) - 48 < 16 := by omega
          have i6 : ¬ (16 : Int) ≤ (c : Int) - 48 := by omega
          by_cases hcut : acc < 1152921504606846976
          · have hcI : (acc : Int) < 1152921504606846976 := by omega
            have hcI2 : ¬ (1152921504606846976 : Int) ≤ (acc : Int) := by omega
            have hs1 : (acc : Int) * 16 ≤ 18446744073709551600 := by omega
            have hs2 : (acc : Int) * 16 + ((c : Int) - 48) ≤ 18446744073709551615 := by omega
            have hs3 : ¬ (acc : Int) * 16 + ((c : Int) - 48) < (acc : Int) * 16 := by omega
            have hs4 : ¬ (18446744073709551615 : Int) < (acc : Int) * 16 + ((c : Int) - 48) := by omega
            go_wp2
            go_round
            case rel => exact ⟨k + 1, acc * 16 + (c - 48), by go_num, by omega, rfl, by go_num, by omega, fun m h1 h2 => (Hsmall.out m h1 h2).2 _ (by have := (Hname.out m h1 h2).2.1; split at this <;> omega)⟩
            case measure => simp [intOf]; omega
          · have hcI : (1152921504606846976 : Int) ≤ (acc : Int) := by omega
            go_wp2
            go_ret2
            exact ⟨⟨_, _, rfl, by omega, by omega, .inr (.inl rfl), fun m h1 h2 => absurd h2 (fun h2 => by have := (Hsmall.out m h1 h2).1; omega)⟩, Hbel.out⟩
        · have k0 : (0 : Int) ≤ (lo : Int) := by omega
          have k1 : (lo : Int) ≤ 255 := by omega
          by_cases h2 : 48 ≤ c
          · have i1 : (48 : Int) ≤ (c : Int) := by omega
            have i2 : ¬ (c : Int) ≤ 57 := by omega
            have i2b : (57 : Int) < (c : Int) := by omega
            by_cases h95 : c = 95
            · subst h95
              have hlo127 : lo = 127 := by rw [← Hlo.out]; decide
              subst hlo127
              go_wp2
              go_ret2
              exact ⟨⟨_, _, rfl, by omega, by omega, .inr (.inr rfl), fun m h1 h2 => absurd h2 (fun h2 => by have := (Hname.out m h1 h2).2.1; have h3 := Hlow.out; have h4 : m / 16 ^ (15 - k) % 16 < 16 := Nat.mod_lt _ (by decide); split at this <;> omega)⟩, Hbel.out⟩
            · have i3 : ¬ (c : Int) = 95 := by omega
              have i3b : ((c : Int) == 95) = false := by simp; omega
              by_cases hlo1 : 97 ≤ lo
              · have j1 : (97 : Int) ≤ (lo : Int) := by omega
                by_cases hlo2' : lo ≤ 122
                · have j2 : (lo : Int) ≤ 122 := by omega
                  have j3 : (0 : Int) ≤ (lo : Int) - 97 := by omega
                  by_cases hlo3 : lo ≤ 102
                  · have j4 : (lo : Int) - 97 + 10 < 16 := by omega
                    have j5 : ¬ (16 : Int) ≤ (lo : Int) - 97 + 10 := by omega
                    by_cases hcut : acc < 1152921504606846976
                    · have hcI : (acc : Int) < 1152921504606846976 := by omega
                      have hcI2 : ¬ (1152921504606846976 : Int) ≤ (acc : Int) := by omega
                      have hs1 : (acc : Int) * 16 ≤ 18446744073709551600 := by omega
                      have hs2 : (acc : Int) * 16 + ((lo : Int) - 97 + 10) ≤ 18446744073709551615 := by omega
                      have hs3 : ¬ (acc : Int) * 16 + ((lo : Int) - 97 + 10) < (acc : Int) * 16 := by omega
                      have hs4 : ¬ (18446744073709551615 : Int) < (acc : Int) * 16 + ((lo : Int) - 97 + 10) := by omega
                      go_wp2
                      go_round
                      case rel => exact ⟨k + 1, acc * 16 + (lo - 97 + 10), by go_num, by omega, rfl, by go_num, by omega, fun m h1 h2 => (Hsmall.out m h1 h2).2 _ (by have := (Hname.out m h1 h2).2.1; have h3 := Hlow.out; have h4 : m / 16 ^ (15 - k) % 16 < 16 := Nat.mod_lt _ (by decide); split at this <;> omega)⟩
                      case measure => simp [intOf]; omega
                    · have hcI : (1152921504606846976 : Int) ≤ (acc : Int) := by omega
                      go_wp2
                      go_ret2
                      exact ⟨⟨_, _, rfl, by omega, by omega, .inr (.inl rfl), fun m h1 h2 => absurd h2 (fun h2 => by have := (Hsmall.out m h1 h2).1; omega)⟩, Hbel.out⟩
                  · have j4 : ¬ (lo : Int) - 97 + 10 < 16 := by omega
                    have j5 : (16 : Int) ≤ (lo : Int) - 97 + 10 := by omega
                    go_wp2
                    go_ret2
                    exact ⟨⟨_, _, rfl, by omega, by omega, .inr (.inr rfl), fun m h1 h2 => absurd h2 (fun h2 => by have := (Hname.out m h1 h2).2.1; have h3 := Hlow.out; have h4 : m / 16 ^ (15 - k) % 16 < 16 := Nat.mod_lt _ (by decide); split at this <;> omega)⟩, Hbel.out⟩
                · have j2 : ¬ (lo : Int) ≤ 122 := by omega
                  have j2b : (122 : Int) < (lo : Int) := by omega
                  go_wp2
                  go_ret2
                  exact ⟨⟨_, _, rfl, by omega, by omega, .inr (.inr rfl), fun m h1 h2 => absurd h2 (fun h2 => by have := (Hname.out m h1 h2).2.1; have h3 := Hlow.out; have h4 : m / 16 ^ (15 - k) % 16 < 16 := Nat.mod_lt _ (by decide); split at this <;> omega)⟩, Hbel.out⟩
              · have j1 : ¬ (97 : Int) ≤ (lo : Int) := by omega
                have j1b : (lo : Int) < 97 := by omega
                go_wp2
                go_ret2
                exact ⟨⟨_, _, rfl, by omega, by omega, .inr (.inr rfl), fun m h1 h2 => absurd h2 (fun h2 => by have := (Hname.out m h1 h2).2.1; have h3 := Hlow.out; have h4 : m / 16 ^ (15 - k) % 16 < 16 := Nat.mod_lt _ (by decide); split at this <;> omega)⟩, Hbel.out⟩
          · have i1 : ¬ (48 : Int) ≤ (c : Int) := by omega
            have i1b : (c : Int) < 48 := by omega
            have i3 : ¬ (c : Int) = 95 := by omega
            have i3b : ((c : Int) == 95) = false := by simp; omega
            by_cases hlo1 : 97 ≤ lo
            · have j1 : (97 : Int) ≤ (lo : Int) := by omega
              by_cases hlo2' : lo ≤ 122
              · have j2 : (lo : Int) ≤ 122 := by omega
                have j3 : (0 : Int) ≤ (lo : Int) - 97 := by omega
                by_cases hlo3 : lo ≤ 102
                · have j4 : (lo : Int) - 97 + 10 < 16 := by omega
                  have j5 : ¬ (16 : Int) ≤ (lo : Int) - 97 + 10 := by omega
                  by_cases hcut : acc < 1152921504606846976
                  · have hcI : (acc : Int) < 1152921504606846976 := by omega
                    have hcI2 : ¬ (1152921504606846976 : Int) ≤ (acc : Int) := by omega
                    have hs1 : (acc : Int) * 16 ≤ 18446744073709551600 := by omega
                    have hs2 : (acc : Int) * 16 + ((lo : Int) - 97 + 10) ≤ 18446744073709551615 := by omega
                    have hs3 : ¬ (acc : Int) * 16 + ((lo : Int) - 97 + 10) < (acc : Int) * 16 := by omega
                    have hs4 : ¬ (18446744073709551615 : Int) < (acc : Int) * 16 + ((lo : Int) - 97 + 10) := by omega
                    go_wp2
                    go_round
                    case rel => exact ⟨k + 1, acc * 16 + (lo - 97 + 10), by go_num, by omega, rfl, by go_num, by omega, fun m h1 h2 => (Hsmall.out m h1 h2).2 _ (by have := (Hname.out m h1 h2).2.1; have h3 := Hlow.out; have h4 : m / 16 ^ (15 - k) % 16 < 16 := Nat.mod_lt _ (by decide); split at this <;> omega)⟩
                    case measure => simp [intOf]; omega
                  · have hcI : (1152921504606846976 : Int) ≤ (acc : Int) := by omega
                    go_wp2
                    go_ret2
                    exact ⟨⟨_, _, rfl, by omega, by omega, .inr (.inl rfl), fun m h1 h2 => absurd h2 (fun h2 => by have := (Hsmall.out m h1 h2).1; omega)⟩, Hbel.out⟩
                · have j4 : ¬ (lo : Int) - 97 + 10 < 16 := by omega
                  have j5 : (16 : Int) ≤ (lo : Int) - 97 + 10 := by omega
                  go_wp2
                  go_ret2
                  exact ⟨⟨_, _, rfl, by omega, by omega, .inr (.inr rfl), fun m h1 h2 => absurd h2 (fun h2 => by have := (Hname.out m h1 h2).2.1; have h3 := Hlow.out; have h4 : m / 16 ^ (15 - k) % 16 < 16 := Nat.mod_lt _ (by decide); split at this <;> omega)⟩, Hbel.out⟩
              · have j2 : ¬ (lo : Int) ≤ 122 := by omega
                have j2b : (122 : Int) < (lo : Int) := by omega
                go_wp2
                go_ret2
                exact ⟨⟨_, _, rfl, by omega, by omega, .inr (.inr rfl), fun m h1 h2 => absurd h2 (fun h2 => by have := (Hname.out m h1 h2).2.1; have h3 := Hlow.out; have h4 : m / 16 ^ (15 - k) % 16 < 16 := Nat.mod_lt _ (by decide); split at this <;> omega)⟩, Hbel.out⟩
            · have j1 : ¬ (97 : Int) ≤ (lo : Int) := by omega
              have j1b : (lo : Int) < 97 := by omega
              go_wp2
              go_ret2
              exact ⟨⟨_, _, rfl, by omega, by omega, .inr (.inr rfl), fun m h1 h2 => absurd h2 (fun h2 => by have := (Hname.out m h1 h2).2.1; have h3 := Hlow.out; have h4 : m / 16 ^ (15 - k) % 16 < 16 := Nat.mod_lt _ (by decide); split at this <;> omega)⟩, Hbel.out⟩
      · have hkl : k = l.length := by omega
        go_wp2
        go_ret2
        refine ⟨⟨_, _, rfl, by omega, by omega, .inl rfl, fun m h1 h2 => ⟨rfl, ?_⟩⟩, Hbel.out⟩
        have := hm m h1 h2
        have hl16 : l.length = 16 := by rw [h2]; exact hexL_len m 16
        rw [hkl, hl16] at this
        have this : acc = m := by simpa using this
        omega
end Go.Proofs.YtkhmdofeonlnpaaGreatDoor
