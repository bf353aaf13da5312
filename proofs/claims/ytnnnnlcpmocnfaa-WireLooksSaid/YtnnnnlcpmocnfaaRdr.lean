/- THE WALKS OVER the reader's num, take, fixed. -/
import Derived.Test.YtnnnnlcpmocnfaaRd
import Derived.Test.YtnnnnlcpmocnfaaSize
namespace Go.Proofs.Ytnnnnlcpmocnfaa
open Go.RowKit
set_option linter.unusedVariables false

/-- block g is a reader that has l left -/
def Rdr (w : World) (g : Nat) (l : List UInt8) : Prop := w.heap[g]? = some (.cells #[.string ⟨l.toArray⟩] 64 (0, 0))
theorem Rdr.cell {w : World} {g : Nat} {l : List UInt8} (h : Rdr w g l) : w.cell? ⟨g, 0, none⟩ = some (.string ⟨l.toArray⟩) := cell_of_one h
theorem Rdr.free {w : World} {g : Nat} {l : List UInt8} (h : Rdr w g l) : w.frozen? ⟨g, 0, none⟩ = false := free_of_one h
theorem Rdr.set {w : World} {g : Nat} {l : List UInt8} (h : Rdr w g l) (l' : List UInt8) : Rdr (w.setCell ⟨g, 0, none⟩ (.string ⟨l'.toArray⟩)) g l' := one_setCell h
theorem Rdr.lt {w : World} {g : Nat} {l : List UInt8} (h : Rdr w g l) : g < w.heap.size := (Array.getElem?_eq_some_iff.1 h).1
theorem Rdr.grown {w w' : World} {g : Nat} {l : List UInt8} (h : Rdr w g l) {r : Option Nat} (hg : w.grownBy w' r) (hne : some g ≠ r) : Rdr w' g l := (hg.block g h.lt hne).trans h
theorem grownBy_set {w : World} (g : Nat) (v : Value) : w.grownBy (w.setCell ⟨g, 0, none⟩ v) (some g) :=
  ⟨rfl, rfl, rfl, by simp [World.setCell], fun k _ hk => Below.heap_setCell w _ v k (by intro e; exact hk (by rw [e]))⟩

/-- an error's panic -/
abbrev pan (e : Int) : Ending := .panicked [{ v := .iface 23 (.int .i64 e), recovered := false }]

theorem extract_drop (l : List UInt8) (k : Nat) : (ByteArray.mk l.toArray).extract k l.length = ⟨(l.drop k).toArray⟩ := by
  rw [ByteArray.extract_mk]
  congr 2
  apply List.take_of_length_le
  simp
theorem extract_take (l : List UInt8) (k : Nat) : (ByteArray.mk l.toArray).extract 0 k = ⟨(l.take k).toArray⟩ := by
  rw [ByteArray.extract_mk]
  rfl

theorem num_none (g : Nat) (l : List UInt8) (w : World) (hl : l.length ≤ 9223372036854775807) (hx : Rdr w g l) (hr : M.rd l = none) :
    Calls Try.prog 46 #[.pointer (some ⟨g, 0, none⟩)] w fun e w' => e = pan 9 ∧ w = w' := by
  have hc := hx.cell
  have hn := fun W => readNum_any l W hl
  rw [rdVal_none hr] at hn
  have Hn := Lib.hid hn
  clear hn hr hl hx
  go_enter Try.func46, Try.ntmps46
  go_wp2_with fail
  refine (Hn.out _).mono ?_
  rintro e w' ⟨rfl, rfl⟩
  go_wp2
  exact ⟨rfl, rfl, rfl⟩
theorem num_some (g : Nat) (l : List UInt8) (w : World) (hl : l.length ≤ 9223372036854775807) (hx : Rdr w g l) (n k : Nat) (hr : M.rd l = some (n, k)) :
    Calls Try.prog 46 #[.pointer (some ⟨g, 0, none⟩)] w fun e w' => e = .returned (.int .u64 (n : Int)) ∧ w.setCell ⟨g, 0, none⟩ (.string ⟨(l.drop k).toArray⟩) = w' := by
  have hc := hx.cell
  have hf := hx.free
  have hn := fun W => readNum_any l W hl
  rw [rdVal_some hr] at hn
  have hb := (M.rd_bound hr).2.1
  have hex := extract_drop l k
  have Hn := Lib.hid hn
  have Hex := Lib.hid hex
  clear hn hr hl hx hex
  go_enter Try.func46, Try.ntmps46
  go_wp2_with fail
  refine (Hn.out _).mono ?_
  rintro e w' ⟨rfl, rfl⟩
  go_wp2
  go_ret
  exact ⟨rfl, by rw [Hex.out]⟩

theorem take_no (g : Nat) (l : List UInt8) (m : Int) (w : World) (hl : l.length ≤ 9223372036854775807) (hx : Rdr w g l) (hm : (l.length : Int) < m) :
    Calls Try.prog 48 #[.pointer (some ⟨g, 0, none⟩), .int .u64 m] w fun e w' => e = pan 10 ∧ w = w' := by
  have hc := hx.cell
  clear hx
  go_enter Try.func48, Try.ntmps48
  go_wp2
  exact ⟨rfl, rfl, rfl⟩
theorem take_yes (g : Nat) (l : List UInt8) (m : Int) (w : World) (hl : l.length ≤ 9223372036854775807) (hx : Rdr w g l) (h0 : 0 ≤ m) (hm : m ≤ (l.length : Int)) :
    Calls Try.prog 48 #[.pointer (some ⟨g, 0, none⟩), .int .u64 m] w fun e w' => e = .returned (.string ⟨(l.take m.toNat).toArray⟩) ∧ w.setCell ⟨g, 0, none⟩ (.string ⟨(l.drop m.toNat).toArray⟩) = w' := by
  have hc := hx.cell
  have hf := hx.free
  obtain ⟨k, rfl⟩ := Int.eq_ofNat_of_zero_le h0
  have hk : k ≤ l.length := by omega
  have hex := extract_drop l k
  have het := extract_take l k
  rw [Int.toNat_natCast]
  have Hex := Lib.hid hex
  have Het := Lib.hid het
  clear hx hex het hm h0
  go_enter Try.func48, Try.ntmps48
  go_wp2
  go_ret
  exact ⟨by rw [← Het.out]; rfl, by rw [Hex.out]⟩
end Go.Proofs.Ytnnnnlcpmocnfaa
