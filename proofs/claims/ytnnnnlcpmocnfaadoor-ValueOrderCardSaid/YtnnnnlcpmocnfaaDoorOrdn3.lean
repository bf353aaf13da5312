/- THE LAW ValueOrder, WALKED: case n3. -/
import Derived.Test.YtnnnnlcpmocnfaaDoorVal9
import Derived.Test.YtnnnnlcpmocnfaaDoorOrdBox
import Derived.ProofKit
namespace Go.Proofs.YtnnnnlcpmocnfaaDoor.valueOrder
open Go.ChangeShapes Go.WideShapes Go.ChangeAt Go.RowKit
set_option linter.unusedVariables false
set_option linter.unusedSimpArgs false
attribute [local go_sem] run_store_float

section
variable (ka : Int) (sa : ByteArray) (ba : Bool) (na : Int) (fa : Nat) (pa qa : Value) (kb : Int) (sb : ByteArray) (bb : Bool) (nb : Int) (fb : Nat) (pb qb : Value) (kc : Int) (sc : ByteArray) (bc : Bool) (nc : Int) (fc : Nat) (pc qc : Value) (w : World)
set_option maxRecDepth 100000 in
set_option maxHeartbeats 64000000 in
theorem walk_n3 (k3 : (ka == 3) = true) (x : Int) (ab : Bool) (y : Int) (ba' : Bool) (v : Int) (bc' : Bool) (z : Int) (ac : Bool)
    (h1 : ∀ W, Calls Tryd.prog 13 #[.agg (gv ka sa ba na fa pa qa), .agg (gv kb sb bb nb fb pb qb)] W fun e w' => e = .returned (.tuple #[.int .i64 x, .bool ab]) ∧ Below W.heap.size W w')
    (h2 : ∀ W, Calls Tryd.prog 13 #[.agg (gv kb sb bb nb fb pb qb), .agg (gv ka sa ba na fa pa qa)] W fun e w' => e = .returned (.tuple #[.int .i64 y, .bool ba']) ∧ Below W.heap.size W w')
    (h3 : ∀ W, Calls Tryd.prog 13 #[.agg (gv ka sa ba na fa pa qa), .agg (gv ka sa ba na fa pa qa)] W fun e w' => e = .returned (.tuple #[.int .i64 0, .bool true]) ∧ Below W.heap.size W w')
    (h4 : ∀ W, Calls Tryd.prog 13 #[.agg (gv kb sb bb nb fb pb qb), .agg (gv kc sc bc nc fc pc qc)] W fun e w' => e = .returned (.tuple #[.int .i64 v, .bool bc']) ∧ Below W.heap.size W w')
    (h5 : ∀ W, Calls Tryd.prog 13 #[.agg (gv ka sa ba na fa pa qa), .agg (gv kc sc bc nc fc pc qc)] W fun e w' => e = .returned (.tuple #[.int .i64 z, .bool ac]) ∧ Below W.heap.size W w')
    (hl : lawful x ab y ba' 0 true true v bc' z ac) :
    Calls Tryd.prog 6 #[.agg (gv ka sa ba na fa pa qa), .agg (gv kb sb bb nb fb pb qb), .agg (gv kc sc bc nc fc pc qc)] w fun e w' => e = .returned (.bool true) ∧ Below w.heap.size w w' := by
  have H1 := Lib.hid h1
  have H2 := Lib.hid h2
  have H3 := Lib.hid h3
  have H4 := Lib.hid h4
  have H5 := Lib.hid h5
  clear h1 h2 h3 h4 h5
  obtain ⟨rfl, hy, -, -, hl, hx⟩ := hl
  obtain rfl : y = -x := by omega
  clear hy
  rcases hl with rfl | ⟨rfl, rfl⟩ | ⟨rfl, rfl, rfl⟩ | ⟨rfl, rfl, rfl | rfl, rfl⟩ | ⟨rfl, rfl, rfl, ⟨rfl, rfl | rfl, rfl⟩ | ⟨rfl, rfl, rfl⟩ | ⟨rfl, rfl, rfl⟩⟩
  all_goals
    rcases hx with hx | hx | hx
    all_goals first
    | (exfalso; omega)
    | (
      first | subst hx | clear hx
      go_enter Tryd.func6, Tryd.ntmps6
      go_wp2_with fail
      refine (lives_any _).mono ?_
      rintro e w1 ⟨rfl, hb1⟩
      have Hb1 := Lib.hid (((((Below.refl w.heap.size w).alloc (Nat.le_refl _) (.cells (gv ka sa ba na fa pa qa) 27)).alloc (by simp <;> omega) (.cells (gv kb sb bb nb fb pb qb) 27)).alloc (by simp <;> omega) (.cells (gv kc sc bc nc fc pc qc) 27)).trans (hb1.mono (by simp <;> omega)))
      have ha : w1.heap[w.heap.size]? = some (.cells (gv ka sa ba na fa pa qa) 27 (0, 0)) := (hb1.block _ (by simp <;> omega)).trans (blk_alloc (blk_alloc (blk_new w _) _) _)
      have hb : w1.heap[w.heap.size + 1]? = some (.cells (gv kb sb bb nb fb pb qb) 27 (0, 0)) := (hb1.block _ (by simp <;> omega)).trans (blk_alloc (blk_at (by simp <;> omega)) _)
      have hc : w1.heap[w.heap.size + 2]? = some (.cells (gv kc sc bc nc fc pc qc) 27 (0, 0)) := (hb1.block _ (by simp <;> omega)).trans (blk_at (by simp <;> omega))
      obtain ⟨a0, a1, a2, a3, a4, a5, a6⟩ := boxg ha
      have hla : w.heap.size < w1.heap.size := (Array.getElem?_eq_some_iff.1 ha).1
      have Ha := Lib.hid ha
      obtain ⟨b0, b1, b2, b3, b4, b5, b6⟩ := boxg hb
      have hlb : w.heap.size + 1 < w1.heap.size := (Array.getElem?_eq_some_iff.1 hb).1
      have Hb := Lib.hid hb
      obtain ⟨c0, c1, c2, c3, c4, c5, c6⟩ := boxg hc
      have hlc : w.heap.size + 2 < w1.heap.size := (Array.getElem?_eq_some_iff.1 hc).1
      have Hc := Lib.hid hc
      clear ha hb hc hb1
      go_wp2_with fail
      refine (H1.out _).mono ?_
      rintro e w2 ⟨rfl, hb2⟩
      have Hb2 := Lib.hid (Hb1.out.trans (hb2.mono Hb1.out.size))
      have ha := (hb2.block _ hla).trans Ha.out
      have hb := (hb2.block _ hlb).trans Hb.out
      have hc := (hb2.block _ hlc).trans Hc.out
      clear a0 a1 a2 a3 a4 a5 a6 b0 b1 b2 b3 b4 b5 b6 c0 c1 c2 c3 c4 c5 c6 Ha Hb Hc hla hlb hlc
      obtain ⟨a0, a1, a2, a3, a4, a5, a6⟩ := boxg ha
      have hla : w.heap.size < w2.heap.size := (Array.getElem?_eq_some_iff.1 ha).1
      have Ha := Lib.hid ha
      obtain ⟨b0, b1, b2, b3, b4, b5, b6⟩ := boxg hb
      have hlb : w.heap.size + 1 < w2.heap.size := (Array.getElem?_eq_some_iff.1 hb).1
      have Hb := Lib.hid hb
      obtain ⟨c0, c1, c2, c3, c4, c5, c6⟩ := boxg hc
      have hlc : w.heap.size + 2 < w2.heap.size := (Array.getElem?_eq_some_iff.1 hc).1
      have Hc := Lib.hid hc
      clear ha hb hc hb2
      go_wp2_with fail
      refine (H2.out _).mono ?_
      rintro e w3 ⟨rfl, hb3⟩
      have Hb3 := Lib.hid (Hb2.out.trans (hb3.mono Hb2.out.size))
      have ha := (hb3.block _ hla).trans Ha.out
      have hb := (hb3.block _ hlb).trans Hb.out
      have hc := (hb3.block _ hlc).trans Hc.out
      clear a0 a1 a2 a3 a4 a5 a6 b0 b1 b2 b3 b4 b5 b6 c0 c1 c2 c3 c4 c5 c6 Ha Hb Hc hla hlb hlc
      obtain ⟨a0, a1, a2, a3, a4, a5, a6⟩ := boxg ha
      have hla : w.heap.size < w3.heap.size := (Array.getElem?_eq_some_iff.1 ha).1
      have Ha := Lib.hid ha
      obtain ⟨b0, b1, b2, b3, b4, b5, b6⟩ := boxg hb
      have hlb : w.heap.size + 1 < w3.heap.size := (Array.getElem?_eq_some_iff.1 hb).1
      have Hb := Lib.hid hb
      obtain ⟨c0, c1, c2, c3, c4, c5, c6⟩ := boxg hc
      have hlc : w.heap.size + 2 < w3.heap.size := (Array.getElem?_eq_some_iff.1 hc).1
      have Hc := Lib.hid hc
      clear ha hb hc hb3
      go_wp2_with fail
      refine (H3.out _).mono ?_
      rintro e w4 ⟨rfl, hb4⟩
      have Hb4 := Lib.hid (Hb3.out.trans (hb4.mono Hb3.out.size))
      have ha := (hb4.block _ hla).trans Ha.out
      have hb := (hb4.block _ hlb).trans Hb.out
      have hc := (hb4.block _ hlc).trans Hc.out
      clear a0 a1 a2 a3 a4 a5 a6 b0 b1 b2 b3 b4 b5 b6 c0 c1 c2 c3 c4 c5 c6 Ha Hb Hc hla hlb hlc
      obtain ⟨a0, a1, a2, a3, a4, a5, a6⟩ := boxg ha
      have hla : w.heap.size < w4.heap.size := (Array.getElem?_eq_some_iff.1 ha).1
      have Ha := Lib.hid ha
      obtain ⟨b0, b1, b2, b3, b4, b5, b6⟩ := boxg hb
      have hlb : w.heap.size + 1 < w4.heap.size := (Array.getElem?_eq_some_iff.1 hb).1
      have Hb := Lib.hid hb
      obtain ⟨c0, c1, c2, c3, c4, c5, c6⟩ := boxg hc
      have hlc : w.heap.size + 2 < w4.heap.size := (Array.getElem?_eq_some_iff.1 hc).1
      have Hc := Lib.hid hc
      clear ha hb hc hb4
      go_wp2_with fail
      refine (H4.out _).mono ?_
      rintro e w5 ⟨rfl, hb5⟩
      have Hb5 := Lib.hid (Hb4.out.trans (hb5.mono Hb4.out.size))
      have ha := (hb5.block _ hla).trans Ha.out
      have hb := (hb5.block _ hlb).trans Hb.out
      have hc := (hb5.block _ hlc).trans Hc.out
      clear a0 a1 a2 a3 a4 a5 a6 b0 b1 b2 b3 b4 b5 b6 c0 c1 c2 c3 c4 c5 c6 Ha Hb Hc hla hlb hlc
      obtain ⟨a0, a1, a2, a3, a4, a5, a6⟩ := boxg ha
      have hla : w.heap.size < w5.heap.size := (Array.getElem?_eq_some_iff.1 ha).1
      have Ha := Lib.hid ha
      obtain ⟨b0, b1, b2, b3, b4, b5, b6⟩ := boxg hb
      have hlb : w.heap.size + 1 < w5.heap.size := (Array.getElem?_eq_some_iff.1 hb).1
      have Hb := Lib.hid hb
      obtain ⟨c0, c1, c2, c3, c4, c5, c6⟩ := boxg hc
      have hlc : w.heap.size + 2 < w5.heap.size := (Array.getElem?_eq_some_iff.1 hc).1
      have Hc := Lib.hid hc
      clear ha hb hc hb5
      go_wp2_with fail
      refine (H5.out _).mono ?_
      rintro e w6 ⟨rfl, hb6⟩
      have Hb6 := Lib.hid (Hb5.out.trans (hb6.mono Hb5.out.size))
      have ha := (hb6.block _ hla).trans Ha.out
      have hb := (hb6.block _ hlb).trans Hb.out
      have hc := (hb6.block _ hlc).trans Hc.out
      clear a0 a1 a2 a3 a4 a5 a6 b0 b1 b2 b3 b4 b5 b6 c0 c1 c2 c3 c4 c5 c6 Ha Hb Hc hla hlb hlc
      obtain ⟨a0, a1, a2, a3, a4, a5, a6⟩ := boxg ha
      have hla : w.heap.size < w6.heap.size := (Array.getElem?_eq_some_iff.1 ha).1
      have Ha := Lib.hid ha
      obtain ⟨b0, b1, b2, b3, b4, b5, b6⟩ := boxg hb
      have hlb : w.heap.size + 1 < w6.heap.size := (Array.getElem?_eq_some_iff.1 hb).1
      have Hb := Lib.hid hb
      obtain ⟨c0, c1, c2, c3, c4, c5, c6⟩ := boxg hc
      have hlc : w.heap.size + 2 < w6.heap.size := (Array.getElem?_eq_some_iff.1 hc).1
      have Hc := Lib.hid hc
      clear ha hb hc hb6
      go_wp2
      go_ret
      exact ⟨rfl, Hb6.out⟩)
end
end Go.Proofs.YtnnnnlcpmocnfaaDoor.valueOrder
