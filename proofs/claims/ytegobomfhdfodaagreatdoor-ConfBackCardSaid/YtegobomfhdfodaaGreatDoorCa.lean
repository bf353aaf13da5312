/- CONF: CURSORS; THE WALKS OVER Unless, at, take, next, sign, spaces. -/
import Derived.WalkKit
import Derived.Lib.Hide
import Derived.Maps.AppendAt
import Derived.StillTailTactics
import Derived.Test.YtegobomfhdfodaaGreatDoorCsh
namespace Go.Proofs.YtegobomfhdfodaaGreatDoor
open Go.RowKit
set_option maxRecDepth 100000
set_option linter.unusedVariables false
set_option linter.unusedSimpArgs false
namespace K
abbrev T := List UInt8
/-- what is left behind the spaces -/
def bare (l : T) : T := Lib.trimLeftB l 32
def blanks (l : T) : Nat := l.length - (bare l).length
theorem bare_len (l : T) : (bare l).length ≤ l.length := by
  unfold bare Lib.trimLeftB
  exact (List.dropWhile_suffix _).length_le
end K
/-- a text as a value -/
abbrev S (l : K.T) : Value := .string ⟨l.toArray⟩
theorem S_size (l : K.T) : (⟨l.toArray⟩ : ByteArray).size = l.length := by simp [ByteArray.size]
theorem index_str (l : K.T) (k : Nat) (h : k < l.length) (c : Int) (hc : c = (l[k].toNat : Int)) (W : World) : (Instr.index 9 (S l) (.int .i64 (k : Int))).run Tryz.prog W = .ok (.int .u8 c) W := by
  rw [run_index_string _ _ _ _ _ Tryz.underlying9, dif_pos ⟨by omega, by simp [ByteArray.size]; omega⟩, hc]
  rfl
theorem extract_drop (l : List UInt8) (k : Nat) : (ByteArray.mk l.toArray).extract k l.length = ⟨(l.drop k).toArray⟩ := by
  rw [ByteArray.extract_mk]
  congr 2
  apply List.take_of_length_le
  simp
theorem extract_take (l : List UInt8) (k : Nat) : (ByteArray.mk l.toArray).extract 0 k = ⟨(l.take k).toArray⟩ := by
  rw [ByteArray.extract_mk]
  rfl
theorem slice_from (l : K.T) (k : Nat) (h : k ≤ l.length) (W : World) : (Instr.slice 9 (S l) (some (.int .i64 (k : Int))) none none).run Tryz.prog W = .ok (S (l.drop k)) W := by
  have hs : (ByteArray.mk l.toArray).size = l.length := by simp [ByteArray.size]
  have h1 : (k : Int) ≤ (l.length : Int) := by omega
  show _ = Result.ok (Value.string ⟨(l.drop k).toArray⟩) W
  rw [← extract_drop]
  simp [Instr.slice, Instr.sliceBounds, Instr.sliceBound, asIntOf, run_underlying Tryz.underlying9, hs, h]
theorem slice_to (l : K.T) (Ki : IntKind) (k : Nat) (h : k ≤ l.length) (W : World) : (Instr.slice 9 (S l) none (some (.int Ki (k : Int))) none).run Tryz.prog W = .ok (S (l.take k)) W := by
  have hs : (ByteArray.mk l.toArray).size = l.length := by simp [ByteArray.size]
  have h1 : (k : Int) ≤ (l.length : Int) := by omega
  show _ = Result.ok (Value.string ⟨(l.take k).toArray⟩) W
  rw [← extract_take]
  simp [Instr.slice, Instr.sliceBounds, Instr.sliceBound, asIntOf, run_underlying Tryz.underlying9, hs, h]
theorem blk_new (w : World) (o : Obj) : (w.alloc o).heap[w.heap.size]? = some o := heap_alloc_new w o
theorem blk_alloc {w : World} {g : Nat} {o : Obj} (h : w.heap[g]? = some o) (o' : Obj) : (w.alloc o').heap[g]? = some o := (Below.heap_alloc w o' g (Array.getElem?_eq_some_iff.1 h).1).trans h
theorem blk_lt {w : World} {g : Nat} {o : Obj} (h : w.heap[g]? = some o) : g < w.heap.size := (Array.getElem?_eq_some_iff.1 h).1
theorem blk_under {w w' : World} {g : Nat} {o : Obj} (h : w.heap[g]? = some o) (hb : Below w.heap.size w w') : w'.heap[g]? = some o := (hb.block _ (blk_lt h)).trans h
theorem set_grown1 (w : World) (g i : Nat) (v : Value) : w.grownBy (w.setCell ⟨g, i, none⟩ v) (some g) :=
  ⟨rfl, rfl, rfl, by simp [World.setCell], fun k _ hk => Below.heap_setCell w ⟨g, i, none⟩ v k (fun e => hk (by rw [e]))⟩
/-- a cursor -/
def Cur (w : World) (g : Nat) (l : K.T) : Prop := w.heap[g]? = some (.cells #[S l] 99 (0, 0))
theorem Cur.cell {w : World} {g : Nat} {l : K.T} (h : Cur w g l) : w.cell? ⟨g, 0, none⟩ = some (S l) := cell_of_row w g 0 _ 99 (0, 0) h
theorem Cur.free {w : World} {g : Nat} {l : K.T} (h : Cur w g l) : w.frozen? ⟨g, 0, none⟩ = false := frozen_of_row w g 0 _ 99 h
/-- how a cursor went on: no block else is changed -/
def Mv (g : Nat) (l : K.T) (w w' : World) : Prop := Cur w' g l ∧ w.grownBy w' (some g)
theorem Cur.put {w : World} {g : Nat} {l : K.T} (h : Cur w g l) (l' : K.T) : Mv g l' w (w.setCell ⟨g, 0, none⟩ (S l')) := ⟨heap_setCell_same w g 0 _ 99 _ h, set_grown1 w g 0 _⟩
theorem Mv.trans {g : Nat} {l l' : K.T} {w w1 w2 : World} (h : Mv g l w w1) (k : Mv g l' w1 w2) : Mv g l' w w2 := ⟨k.1, h.2.trans k.2⟩

abbrev pan (c : Int) : Ending := .panicked [{ v := .iface 23 (.int .i64 c), recovered := false }]
theorem unless_yes (e : Int) (w : World) : Calls Tryz.prog 49 #[.bool true, .int .i64 e] w fun en w' => en = .returned (.tuple #[]) ∧ w = w' := by
  go_enter Tryz.func49, Tryz.ntmps49
  go_wp2
  go_end0
  exact ⟨rfl, rfl⟩
theorem unless_no (e : Int) (w : World) : Calls Tryz.prog 49 #[.bool false, .int .i64 e] w fun en w' => en = pan e ∧ w = w' := by
  go_enter Tryz.func49, Tryz.ntmps49
  go_wp2
  exact ⟨rfl, rfl, rfl⟩

theorem cu_at (w : World) (g : Nat) (l : K.T) (b : UInt8) (hc : Cur w g l) : Calls Tryz.prog 57 #[.pointer (some ⟨g, 0, none⟩), .int .u8 (b.toNat : Int)] w fun e w' => e = .returned (.bool (l.head? == some b)) ∧ w = w' := by
  have c0 := hc.cell
  have hlt := blk_lt hc
  clear hc
  cases l with
  | nil =>
    go_enter Tryz.func57, Tryz.ntmps57
    go_wp2
    go_ret
    exact ⟨rfl, rfl⟩
  | cons x t =>
    have he : ((x.toNat : Int) == (b.toNat : Int)) = ((x :: t).head? == some b) := by
      by_cases h : x = b
      · subst h; simp
      · have hn : ¬ (x.toNat : Int) = (b.toNat : Int) := fun e => h (UInt8.toNat_inj.1 (by omega))
        rw [show ((x :: t).head? == some b) = false from by simp [h]]
        exact beq_eq_false_iff_ne.2 hn
    go_enter Tryz.func57, Tryz.ntmps57
    go_wp2
    go_ret
    refine ⟨?_, rfl⟩
    rw [← he]
    rfl
theorem cu_take (w : World) (g : Nat) (l : K.T) (n : Nat) (hc : Cur w g l) (hn : n ≤ l.length) : Calls Tryz.prog 87 #[.pointer (some ⟨g, 0, none⟩), .int .i64 (n : Int)] w fun e w' => e = .returned (S (l.take n)) ∧ Mv g (l.drop n) w w' := by
  have c0 := hc.cell
  have f0 := hc.free
  have hlt := blk_lt hc
  have Hc := Lib.hid hc
  clear hc
  have h1 : ∀ W, (Instr.slice 9 (S l) none (some (.int .i64 (n : Int))) none).run Tryz.prog W = .ok (S (l.take n)) W := slice_to l .i64 n hn
  have h2 : ∀ W, (Instr.slice 9 (S l) (some (.int .i64 (n : Int))) none none).run Tryz.prog W = .ok (S (l.drop n)) W := slice_from l n hn
  go_enter Tryz.func87, Tryz.ntmps87
  go_wp2
  go_ret
  exact ⟨rfl, Hc.out.put _⟩
theorem cu_next_no (w : World) (g : Nat) (hc : Cur w g []) : Calls Tryz.prog 89 #[.pointer (some ⟨g, 0, none⟩)] w fun e w' => e = pan 15 ∧ w = w' := by
  have c0 := hc.cell
  have hlt := blk_lt hc
  clear hc
  go_enter Tryz.func89, Tryz.ntmps89
  go_wp2_with fail
  refine (unless_no 15 w).mono ?_
  rintro e w1 ⟨rfl, rfl⟩
  go_wp2
  exact ⟨rfl, rfl, rfl⟩
theorem cu_next (w : World) (g : Nat) (x : UInt8) (t : K.T) (hc : Cur w g (x :: t)) : Calls Tryz.prog 89 #[.pointer (some ⟨g, 0, none⟩)] w fun e w' => e = .returned (.int .u8 (x.toNat : Int)) ∧ Mv g t w w' := by
  have c0 := hc.cell
  have hlt := blk_lt hc
  have Hc := Lib.hid hc
  clear hc
  have hx := fun W => index_str [x] 0 (by simp) (x.toNat : Int) rfl W
  go_enter Tryz.func89, Tryz.ntmps89
  go_wp2_with fail
  refine (unless_yes 15 w).mono ?_
  rintro e w1 ⟨rfl, rfl⟩
  go_wp2_with fail
  refine (cu_take w g (x :: t) 1 Hc.out (by simp)).mono ?_
  rintro e w1 ⟨rfl, hm⟩
  have hm' : Mv g t w w1 := hm
  clear hm
  go_wp2
  go_ret
  exact ⟨rfl, hm'⟩
theorem cu_sign_no (w : World) (g : Nat) (b : UInt8) (hc : Cur w g []) : Calls Tryz.prog 56 #[.pointer (some ⟨g, 0, none⟩), .int .u8 (b.toNat : Int)] w fun e w' => e = pan 15 ∧ w = w' := by
  go_enter Tryz.func56, Tryz.ntmps56
  go_wp2_with fail
  refine (cu_next_no w g hc).mono ?_
  rintro e w1 ⟨rfl, rfl⟩
  go_wp2
  exact ⟨rfl, rfl, rfl⟩
theorem cu_sign_bad (w : World) (g : Nat) (x b : UInt8) (t : K.T) (hne : x ≠ b) (hc : Cur w g (x :: t)) : Calls Tryz.prog 56 #[.pointer (some ⟨g, 0, none⟩), .int .u8 (b.toNat : Int)] w fun e w' => e = pan 15 ∧ Mv g t w w' := by
  have hn : ((x.toNat : Int) == (b.toNat : Int)) = false := by
    simp only [beq_eq_false_iff_ne, ne_eq]
    intro e
    exact hne (UInt8.toNat_inj.1 (by omega))
  go_enter Tryz.func56, Tryz.ntmps56
  go_wp2_with fail
  refine (cu_next w g x t hc).mono ?_
  rintro e w1 ⟨rfl, hm⟩
  go_wp2_with fail
  refine (unless_no 15 w1).mono ?_
  rintro e w2 ⟨rfl, rfl⟩
  go_wp2
  exact ⟨rfl, rfl, hm⟩
theorem cu_sign (w : World) (g : Nat) (b : UInt8) (t : K.T) (hc : Cur w g (b :: t)) : Calls Tryz.prog 56 #[.pointer (some ⟨g, 0, none⟩), .int .u8 (b.toNat : Int)] w fun e w' => e = .returned (.tuple #[]) ∧ Mv g t w w' := by
  go_enter Tryz.func56, Tryz.ntmps56
  go_wp2_with fail
  refine (cu_next w g b t hc).mono ?_
  rintro e w1 ⟨rfl, hm⟩
  go_wp2_with fail
  refine (unless_yes 15 w1).mono ?_
  rintro e w2 ⟨rfl, rfl⟩
  go_wp2
  go_end0
  exact ⟨rfl, hm⟩
theorem trim_any (w : World) (l : K.T) : Calls Tryz.prog 37 #[S l, .string ⟨#[32]⟩] w fun e w' => e = .returned (S (K.bare l)) ∧ w = w' :=
  (Tryz.strings_TrimLeft_one ⟨l.toArray⟩ 32 (by decide) w).mono fun e w' h => ⟨h.1, h.2.symm⟩
theorem cu_spaces (w : World) (g : Nat) (l : K.T) (hl : l.length ≤ 9223372036854775807) (hc : Cur w g l) : Calls Tryz.prog 53 #[.pointer (some ⟨g, 0, none⟩)] w fun e w' => e = .returned (.int .i64 (K.blanks l : Int)) ∧ Mv g (K.bare l) w w' := by
  have c0 := hc.cell
  have f0 := hc.free
  have hlt := blk_lt hc
  have Hc := Lib.hid hc
  clear hc
  have hb := K.bare_len l
  have s1 := S_size l
  have s2 := S_size (K.bare l)
  go_enter Tryz.func53, Tryz.ntmps53
  go_wp2_with (go_at_call 37; refine (trim_any _ l).mono ?_; rintro e w1 ⟨rfl, rfl⟩)
  go_ret
  exact ⟨by rw [show (K.blanks l : Int) = (l.length : Int) - ((K.bare l).length : Int) from by unfold K.blanks; omega]; rfl, Hc.out.put _⟩
end Go.Proofs.YtegobomfhdfodaaGreatDoor
