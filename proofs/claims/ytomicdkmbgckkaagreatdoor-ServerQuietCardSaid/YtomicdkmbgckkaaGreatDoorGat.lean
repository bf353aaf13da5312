/- SERVER: CONNECTIONS AND RULES THAT CAME IN. -/
import Derived.Test.YtomicdkmbgckkaaGreatDoorGas
import Derived.Test.YtomicdkmbgckkaaGreatDoorRows
import Derived.SliceStrings
import Derived.OpenShut
import Derived.ShutString
import Derived.LaidMore
import Derived.SizedLaws
import Derived.Stop.Joined
import Derived.Lib.SmallJoins
import Derived.Deep.Slices
namespace Go.Proofs.YtomicdkmbgckkaaGreatDoor
open Go.RowKit Go.ChangeShapes Go.WideShapes Go.Deep Joins
set_option linter.unusedVariables false
set_option linter.unusedSimpArgs false
set_option maxRecDepth 100000
theorem list6 {l : List Value} (h : l.length = 6) : ∃ a b c d e f, l = [a, b, c, d, e, f] := by
  match l, h with
  | [a, b, c, d, e, f], _ => exact ⟨a, b, c, d, e, f, rfl⟩
theorem Tryz.ccells24 : Tryz.prog.cellsOf 24 = 6 := by kernel_rfl
theorem Tryz.ccells26 : Tryz.prog.cellsOf 26 = 2 := by kernel_rfl
theorem Tryz.ccells22 : Tryz.prog.cellsOf 22 = 1 := by kernel_rfl
theorem Tryz.ccells9 : Tryz.prog.cellsOf 9 = 1 := by kernel_rfl
theorem Tryz.ccells4 : Tryz.prog.cellsOf 4 = 1 := by kernel_rfl
section
variable {E : Type} {enc : TypeId × Value → E} {w : World}
theorem trod_struct6 {P : Program} {base : Nat} {spare : Nat → Bool} {held : Bool} {t : TypeId} {f0 f1 f2 f3 f4 f5 : Field} {fuel : Nat} {cs : List Value} {x : DataW E × List MemPlace} (ht : P.underlying t = some (.struct #[f0, f1, f2, f3, f4, f5])) (h : DataW.trod enc P w base spare held fuel t cs = some x) :
    ∃ y0 y1 y2 y3 y4 y5 n, cs.length = P.cellsOf t ∧ DataW.trod enc P w base spare held n f0.type ((cs.drop f0.offset).take (P.cellsOf f0.type)) = some y0 ∧
      DataW.trod enc P w base spare held n f1.type ((cs.drop f1.offset).take (P.cellsOf f1.type)) = some y1 ∧ DataW.trod enc P w base spare held n f2.type ((cs.drop f2.offset).take (P.cellsOf f2.type)) = some y2 ∧
      DataW.trod enc P w base spare held n f3.type ((cs.drop f3.offset).take (P.cellsOf f3.type)) = some y3 ∧ DataW.trod enc P w base spare held n f4.type ((cs.drop f4.offset).take (P.cellsOf f4.type)) = some y4 ∧ DataW.trod enc P w base spare held n f5.type ((cs.drop f5.offset).take (P.cellsOf f5.type)) = some y5 := by
  obtain ⟨xs, n, _, rfl, hl, hlen, hf⟩ := DataW.trod_struct ht h
  match xs, hlen with
  | [y0, y1, y2, y3, y4, y5], _ => exact ⟨y0, y1, y2, y3, y4, y5, n, hl, by simpa using hf 0 f0 rfl, by simpa using hf 1 f1 rfl, by simpa using hf 2 f2 rfl, by simpa using hf 3 f3 rfl, by simpa using hf 4 f4 rfl, by simpa using hf 5 f5 rfl⟩
theorem open_conn {r : Reach} {b0 : Nat} {v : Value} {d : DataW E} {p : List MemPlace} (hv : Value.okWide Tryz.prog w r b0 24 v) (h : DataW.Trod enc Tryz.prog w 0 (fun _ => true) true 24 v d p) :
    ∃ c : Cn, v = .agg c.cells ∧ (0 ≤ c.since ∧ c.since ≤ 18446744073709551615) := by
  obtain ⟨cs, rfl, hsz⟩ := okWide_struct Tryz.underlying24 hv
  obtain ⟨fuel, hf⟩ := h
  obtain ⟨y0, y1, y2, y3, y4, y5, n, hlen, h0, h1, h2, h3, h4, h5⟩ := trod_struct6 Tryz.underlying24 hf
  rw [Tryz.ccells24] at hlen
  have hlen2 : cs.toList.length = 6 := by simpa [Value.cells] using hlen
  obtain ⟨v0, v1, v2, v3, v4, v5, hcs⟩ := list6 hlen2
  obtain rfl : cs = #[v0, v1, v2, v3, v4, v5] := by apply Array.toList_inj.1; rw [hcs]
  simp [Value.cells, Tryz.ccells9, Tryz.ccells4, Tryz.ccells22] at h0 h1 h2 h3 h4 h5
  obtain ⟨s0, e0, _, _⟩ := DataW.trod_string Tryz.underlying9 h0
  obtain ⟨s1, e1, _, _⟩ := DataW.trod_string Tryz.underlying9 h1
  obtain ⟨b2, e2, _, _⟩ := DataW.trod_bool Tryz.underlying4 h2
  obtain ⟨b3, e3, _, _⟩ := DataW.trod_bool Tryz.underlying4 h3
  obtain ⟨b4, e4, _, _⟩ := DataW.trod_bool Tryz.underlying4 h4
  obtain ⟨n5, e5, _, w5⟩ := DataW.trod_int Tryz.underlying22 h5
  simp only [List.cons.injEq, and_true] at e0 e1 e2 e3 e4 e5
  subst e0 e1 e2 e3 e4 e5
  have b5 := bounds_u64 w5
  refine ⟨⟨s0.data.toList, s1.data.toList, b2, b3, b4, n5⟩, ?_, b5.1, by show n5 ≤ _; omega⟩
  simp only [S_data]
theorem open_rules {r : Reach} {b0 : Nat} {v : Value} {d : DataW E} {p : List MemPlace} (hv : Value.okWide Tryz.prog w r b0 26 v) (h : DataW.Trod enc Tryz.prog w 0 (fun _ => true) true 26 v d p) :
    ∃ m idle : Int, v = .agg #[.int .i64 m, .int .u64 idle] ∧ (0 ≤ idle ∧ idle ≤ 18446744073709551615) := by
  obtain ⟨v0, v1, y0, y1, n, rfl, _, _, h0, h1⟩ := Joins.open_agg2 Tryz.underlying26 (by kernel_rfl) Tryz.ccells26 hv h
  obtain ⟨m, e0, _, w0⟩ := DataW.trod_int Tryz.underlying3 h0
  obtain ⟨i, e1, _, w1⟩ := DataW.trod_int Tryz.underlying22 h1
  simp only [List.cons.injEq, and_true] at e0 e1
  subst e0 e1
  have b1 := bounds_u64 w1
  exact ⟨m, i, rfl, b1.1, by omega⟩
end
end Go.Proofs.YtomicdkmbgckkaaGreatDoor

/- SERVER: THE WALK OVER Check. -/
namespace Go.Proofs.YtomicdkmbgckkaaGreatDoor
open Go.RowKit
set_option maxRecDepth 100000
set_option linter.unusedVariables false
set_option linter.unusedSimpArgs false

set_option maxHeartbeats 4000000 in
theorem cn_check (w : World) (c : Cn) (m idle : Int) :
    Calls Tryz.prog 11 #[.agg c.cells, .agg #[.int .i64 m, .int .u64 idle]] w fun e w' => e = .returned (.int .i64 (chk c m)) ∧ Below w.heap.size w w' := by
  obtain ⟨X, hX⟩ : ∃ X, X = (w.alloc (.cells c.cells 24)).alloc (.cells #[.int .i64 m, .int .u64 idle] 26) := ⟨_, rfl⟩
  have hb : Below w.heap.size w X := by rw [hX]; exact ((Below.refl _ w).alloc (Nat.le_refl _) _).alloc (by simp) _
  have hx : X.heap[w.heap.size]? = some (.cells c.cells 24 (0, 0)) := by rw [hX]; exact blk_alloc (blk_new w _) _
  have hr : X.heap[w.heap.size + 1]? = some (.cells #[.int .i64 m, .int .u64 idle] 26 (0, 0)) := by rw [hX]; exact blk_at (by simp)
  obtain ⟨buf, out, closed, busy, last, since⟩ := c
  obtain ⟨c0, c1, c2, c3, c4, c5⟩ := box6 hx
  obtain ⟨r0, r1⟩ := box2 hr
  have hlt := blk_lt hx
  have hlr := blk_lt hr
  have Hb := Lib.hid hb
  clear hx hr hb
  obtain ⟨z, hz⟩ : ∃ z : Int, ((buf.length : Nat) : Int) = z := ⟨_, rfl⟩
  obtain ⟨y, hy⟩ : ∃ y : Int, ((out.length : Nat) : Int) = y := ⟨_, rfl⟩
  have Hz := Lib.hid hz
  have Hy := Lib.hid hy
  clear hz hy
  unfold chk
  simp only
  have key : ∀ k : Int, (k = if m < 0 ∨ 65536 < m then 2 else if 262144 < buf.length ∨ 262144 < out.length then 6 else if (closed = true ∧ (buf ≠ [] ∨ busy = true)) ∨ (last = true ∧ busy = false) then 6 else 0) → Calls Tryz.prog 11 #[.agg #[S buf, S out, .bool closed, .bool busy, .bool last, .int .u64 since], .agg #[.int .i64 m, .int .u64 idle]] w fun e w' => e = .returned (.int .i64 k) ∧ Below w.heap.size w w' := by
    intro k hk
    have Hk := Lib.hid hk
    clear hk
    go_enter Tryz.func11, Tryz.ntmps11
    go_upto_region 1 with (fail)
    rw [← hX]
    clear hX
    go_wp2
    all_goals go_ret
    all_goals refine ⟨?_, Hb.out⟩
    all_goals first | show Ending.returned (.int .i64 2) = _ | show Ending.returned (.int .i64 6) = _ | show Ending.returned (.int .i64 0) = _
    all_goals have hk := Hk.out
    all_goals (clear Hk Hb c0 c1 c2 c3 c4 c5 r0 r1 hlt hlr Hz Hy)
    all_goals refine congrArg (fun k => Ending.returned (.int .i64 k)) (Eq.trans ?_ hk.symm)
    all_goals clear hk
    all_goals repeat' split
    all_goals first | rfl | (exfalso; omega) | (exfalso; simp_all <;> omega)
  exact key _ rfl
end Go.Proofs.YtomicdkmbgckkaaGreatDoor

/- SERVER: THE WALK OVER reply, of what is not 200. -/
namespace Go.Proofs.YtomicdkmbgckkaaGreatDoor
open Go.RowKit
set_option maxRecDepth 100000
set_option linter.unusedVariables false
set_option linter.unusedSimpArgs false

def cnClose : H.Hd := ⟨[67, 111, 110, 110, 101, 99, 116, 105, 111, 110], [99, 108, 111, 115, 101]⟩
theorem grown_none {w w' : World} {n : Nat} (h : w.grownBy w' none) (hn : n ≤ w.heap.size) : Below n w w' := ⟨h.os, h.tape, h.output, h.size, fun k hk => h.block k (by omega) (by simp)⟩
theorem cat_S (a b : H.T) : (⟨a.toArray⟩ : ByteArray) ++ ⟨b.toArray⟩ = ⟨(a ++ b).toArray⟩ := by
  apply ByteArray.ext
  simp [ByteArray.data_append]
/-- what WriteResponse comes to -/
def WrC (w : World) (st : Int) (hs : List H.Hd) (s : H.T) : Prop := ∀ (W : World) (ad : Option Addr) (cap : Nat), Below w.heap.size w W → Hds W ad hs →
    Calls Tryz.prog 26 #[.agg #[.int .i64 st, .slice ad hs.length cap, S []]] W fun e w' => e = .returned (.tuple #[S s, .int .i64 0]) ∧ Below W.heap.size W w'
set_option maxHeartbeats 4000000 in
theorem cn_reply0 (w : World) (g : Nat) (c : Cn) (st : Int) (s : H.T) (h2 : ¬ st = 200) (hW : WrC w st [] s) (hlen : c.out.length + s.length ≤ 1000000) (hc : w.heap[g]? = some (.cells c.cells 46 (0, 0))) :
    Calls Tryz.prog 17 #[.pointer (some ⟨g, 0, none⟩), .int .i64 st, .string ⟨#[]⟩, .bool false] w fun e w' => e = .returned (.tuple #[]) ∧ w'.heap[g]? = some (.cells (Cn.mk c.buf (c.out ++ s) c.closed c.busy c.last c.since).cells 46 (0, 0)) ∧ w.grownBy w' (some g) := by
  obtain ⟨A, hA⟩ : ∃ A, A = w.alloc (.cells #[.int .i64 st, .slice none 0 0, S []] 75) := ⟨_, rfl⟩
  have hbA : Below w.heap.size w A := by rw [hA]; exact (Below.refl _ w).alloc (Nat.le_refl _) _
  have hx : A.heap[w.heap.size]? = some (.cells #[.int .i64 st, .slice none 0 0, S []] 75 (0, 0)) := by rw [hA]; exact blk_new w _
  obtain ⟨a0, a1, a2⟩ : A.cell? ⟨w.heap.size, 0, none⟩ = some (.int .i64 st) ∧ A.cell? ⟨w.heap.size, 1, none⟩ = some (.slice none 0 0) ∧ A.cell? ⟨w.heap.size, 2, none⟩ = some (S []) := ⟨cell_of_row A _ 0 _ 75 (0, 0) hx, cell_of_row A _ 1 _ 75 (0, 0) hx, cell_of_row A _ 2 _ 75 (0, 0) hx⟩
  have hla := blk_lt hx
  have hw := hW A none 0 hbA (fun h => absurd rfl h)
  have hcA := blk_under hc hbA
  have HbA := Lib.hid hbA
  have HcA := Lib.hid hcA
  have Hlen := Lib.hid hlen
  have HW := Lib.hid hw
  clear hc hbA hcA hx hW hw
  go_enter Tryz.func17, Tryz.ntmps17
  go_upto_region 1 with (fail)
  rw [← hA]
  clear hA
  go_wp2_with fail
  refine HW.out.mono ?_
  rintro e w2 ⟨rfl, hb⟩
  have hc2 := blk_under HcA.out hb
  obtain ⟨c0, c1, c2, c3, c4, c5⟩ := box6 hc2
  have f1 := fz6 hc2 1
  have hlt := blk_lt hc2
  have Hc2 := Lib.hid hc2
  have Hb2 := Lib.hid (HbA.out.trans (hb.mono HbA.out.size))
  have e1 := cat_S c.out s
  clear a0 a1 a2 hla hb hc2
  go_wp2
  go_end0
  obtain ⟨hk, hg⟩ := put1of6 Hc2.out (S (c.out ++ s))
  exact ⟨rfl, hk, (below_grown Hb2.out _).trans hg⟩
set_option maxHeartbeats 4000000 in
theorem cn_reply1 (w : World) (g : Nat) (c : Cn) (st : Int) (s : H.T) (h2 : ¬ st = 200) (hW : WrC w st [cnClose] s) (hlen : c.out.length + s.length ≤ 1000000) (hc : w.heap[g]? = some (.cells c.cells 46 (0, 0))) :
    Calls Tryz.prog 17 #[.pointer (some ⟨g, 0, none⟩), .int .i64 st, .string ⟨#[]⟩, .bool true] w fun e w' => e = .returned (.tuple #[]) ∧ w'.heap[g]? = some (.cells (Cn.mk [] (c.out ++ s) true false false c.since).cells 46 (0, 0)) ∧ w.grownBy w' (some g) := by
  obtain ⟨A, hA⟩ : ∃ A, A = w.alloc (.cells #[.int .i64 st, .slice none 0 0, S []] 75) := ⟨_, rfl⟩
  have hbA : Below w.heap.size w A := by rw [hA]; exact (Below.refl _ w).alloc (Nat.le_refl _) _
  have hx : A.heap[w.heap.size]? = some (.cells #[.int .i64 st, .slice none 0 0, S []] 75 (0, 0)) := by rw [hA]; exact blk_new w _
  have hsz : A.heap.size = w.heap.size + 1 := by rw [hA]; simp
  obtain ⟨a0, a1, a2⟩ : A.cell? ⟨w.heap.size, 0, none⟩ = some (.int .i64 st) ∧ A.cell? ⟨w.heap.size, 1, none⟩ = some (.slice none 0 0) ∧ A.cell? ⟨w.heap.size, 2, none⟩ = some (S []) := ⟨cell_of_row A _ 0 _ 75 (0, 0) hx, cell_of_row A _ 1 _ 75 (0, 0) hx, cell_of_row A _ 2 _ 75 (0, 0) hx⟩
  have hla := blk_lt hx
  have hlg := blk_lt hc
  have af1 : A.frozen? ⟨w.heap.size, 1, none⟩ = false := fz6 hx 1
  have hcA := blk_under hc hbA
  have HbA := Lib.hid hbA
  have HcA := Lib.hid hcA
  have Hx := Lib.hid hx
  have Hlen := Lib.hid hlen
  have HW := Lib.hid hW
  have hcA' := hc
  clear hc hbA hcA hx hW
  go_enter Tryz.func17, Tryz.ntmps17
  go_upto_region 1 with (fail)
  rw [← hA]
  clear hA
  go_wp2_with fail
  obtain ⟨K, hK⟩ : ∃ K, (Question.appendCap 1 0 77).cut (A.tape A.drawn (Question.appendCap 1 0 77)) = K := ⟨_, rfl⟩
  rw [hK]
  obtain ⟨Z, hZ⟩ : ∃ Z, Builtin.zeroCells #[Value.string ⟨#[]⟩, Value.string ⟨#[]⟩] (K - 1) = Z := ⟨_, rfl⟩
  rw [hZ]
  obtain ⟨Y, hY⟩ : ∃ Y, Y = (((A.setCell ⟨w.heap.size, 1, none⟩ (.slice (some ⟨w.heap.size + 1 + 1, 0, none⟩) 1 K)).alloc (.cells #[.string ⟨#[67, 111, 110, 110, 101, 99, 116, 105, 111, 110]⟩, .string ⟨#[99, 108, 111, 115, 101]⟩] 77)).alloc (.cells (#[.string ⟨#[67, 111, 110, 110, 101, 99, 116, 105, 111, 110]⟩, .string ⟨#[99, 108, 111, 115, 101]⟩] ++ Z) 77)).drew := ⟨_, rfl⟩
  rw [← hY]
  have hs3 : (A.setCell ⟨w.heap.size, 1, none⟩ (.slice (some ⟨w.heap.size + 1 + 1, 0, none⟩) 1 K)).heap.size = w.heap.size + 1 := by simp [World.setCell]; omega
  have hbY : Below w.heap.size w Y := by
    rw [hY]
    exact (((HbA.out.setCell (p := ⟨w.heap.size, 1, none⟩) (Nat.le_refl _) _).alloc (by rw [hs3]; omega) _).alloc (by simp [hs3]; omega) _).drew
  have hk2 : Y.heap[w.heap.size + 1 + 1]? = some (.cells (#[.string ⟨#[67, 111, 110, 110, 101, 99, 116, 105, 111, 110]⟩, .string ⟨#[99, 108, 111, 115, 101]⟩] ++ Z) 77 (0, 0)) := by
    rw [hY]
    exact blk_at (by simp [hs3])
  have hd : Hds Y (some ⟨w.heap.size + 1 + 1, 0, none⟩) [cnClose] := fun _ => ⟨_, 0, rfl, blk_lt hk2, fun i h hi => by
    cases i with
    | zero =>
      simp only [List.getElem?_cons_zero, Option.some.injEq] at hi
      subst hi
      refine ⟨?_, ?_⟩
      · rw [show 0 + 0 * 2 = 0 from rfl, cell_of_row Y _ 0 _ 77 (0, 0) hk2]; simp [cnClose, Array.getElem?_append]
      · rw [show 0 + 0 * 2 + 1 = 1 from rfl, cell_of_row Y _ 1 _ 77 (0, 0) hk2]; simp [cnClose, Array.getElem?_append]
    | succ n => simp at hi⟩
  have hcY := blk_under hcA' hbY
  clear hY hs3 hk2 a0 a1 a2 af1
  refine (HW.out Y (some ⟨w.heap.size + 1 + 1, 0, none⟩) K hbY hd).mono ?_
  rintro e w2 ⟨rfl, hb⟩
  have hc2 := blk_under hcY hb
  obtain ⟨c0, c1, c2, c3, c4, c5⟩ := box6 hc2
  have f1 := fz6 hc2 1
  have hlt := blk_lt hc2
  have Hc2 := Lib.hid hc2
  have Hb2 := Lib.hid (hbY.trans (hb.mono hbY.size))
  have e1 := cat_S c.out s
  clear hb hc2 hcY hbY hd
  obtain ⟨hk, hg⟩ := put1of6 Hc2.out (S (c.out ++ s))
  have hen := cn_end _ g ⟨c.buf, c.out ++ s, c.closed, c.busy, c.last, c.since⟩ hk
  have Hen := Lib.hid hen
  have Hg := Lib.hid hg
  clear hen hk hg
  go_wp2_with fail
  refine Hen.out.mono ?_
  rintro e w3 ⟨rfl, hk3, hg3⟩
  have Hk3 := Lib.hid hk3
  have Hg3 := Lib.hid hg3
  clear hk3 hg3 c0 c1 c2 c3 c4 c5 f1
  go_wp2
  go_end0
  exact ⟨rfl, Hk3.out, ((below_grown Hb2.out _).trans Hg.out).trans Hg3.out⟩
end Go.Proofs.YtomicdkmbgckkaaGreatDoor

/- SERVER: THE WALKS OVER expire, Tick. -/
namespace Go.Proofs.YtomicdkmbgckkaaGreatDoor
open Go.RowKit
set_option maxRecDepth 100000
set_option linter.unusedVariables false
set_option linter.unusedSimpArgs false

theorem WrC.under {w w' : World} {st : Int} {hs : List H.Hd} {s : H.T} (h : WrC w st hs s) (hb : Below w.heap.size w w') : WrC w' st hs s := fun W ad cap h1 h2 => h W ad cap (hb.trans (h1.mono hb.size)) h2
theorem cn_expire (w : World) (g : Nat) (c : Cn) (s : H.T) (hW : WrC w 408 [cnClose] s) (hlen : c.out.length + s.length ≤ 1000000) (hc : w.heap[g]? = some (.cells c.cells 46 (0, 0))) :
    Calls Tryz.prog 12 #[.pointer (some ⟨g, 0, none⟩)] w fun e w' => e = .returned (.tuple #[]) ∧ w'.heap[g]? = some (.cells (Cn.mk [] (if c.buf = [] then c.out else c.out ++ s) true false false c.since).cells 46 (0, 0)) ∧ w.grownBy w' (some g) := by
  obtain ⟨buf, out, closed, busy, last, since⟩ := c
  simp only at hlen
  obtain ⟨c0, c1, c2, c3, c4, c5⟩ := box6 hc
  have hlt := blk_lt hc
  by_cases hb : buf = []
  · subst hb
    have He := Lib.hid (cn_end w g _ hc)
    clear hc
    go_enter Tryz.func12, Tryz.ntmps12
    go_wp2_with fail
    refine He.out.mono ?_
    rintro e w3 ⟨rfl, hk3, hg3⟩
    have Hk3 := Lib.hid hk3
    have Hg3 := Lib.hid hg3
    clear hk3 hg3 c0 c1 c2 c3 c4 c5
    go_wp2
    go_end0
    exact ⟨rfl, by first | exact Hk3.out | (rw [if_pos rfl]; exact Hk3.out), Hg3.out⟩
  · have He := Lib.hid (cn_reply1 w g _ 408 s (by omega) hW hlen hc)
    clear hc
    have Hb := Lib.hid hb
    simp only [if_neg hb]
    have hie : List.isEmpty buf = false := by cases buf with | nil => exact absurd rfl hb | cons a t => rfl
    go_enter Tryz.func12, Tryz.ntmps12
    go_wp2_with fail
    refine He.out.mono ?_
    rintro e w3 ⟨rfl, hk3, hg3⟩
    have Hk3 := Lib.hid hk3
    have Hg3 := Lib.hid hg3
    clear hk3 hg3 c0 c1 c2 c3 c4 c5
    go_wp2
    refine bodyPost_ret (by simp [results, Tryz.results12, go_sem]; try rfl) rfl ?_
    exact ⟨rfl, Hk3.out, Hg3.out⟩
def cn0 : Cn := ⟨[], [], false, false, false, 0⟩
/-- Tick's answer -/
def tickM (c : Cn) (m idle now : Int) (s : H.T) : Cn × Int := if chk c m ≠ 0 then (cn0, chk c m) else if c.closed = true ∨ c.busy = true ∨ now < c.since ∨ now - c.since < idle then (c, 0) else (⟨[], if c.buf = [] then c.out else c.out ++ s, true, false, false, c.since⟩, 0)
theorem frz6 {w : World} {g : Nat} {x : Array Value} {t : TypeId} (h : w.heap[g]? = some (.cells x t (0, 0))) : w.frozen? ⟨g, 0, none⟩ = false ∧ w.frozen? ⟨g, 1, none⟩ = false ∧ w.frozen? ⟨g, 2, none⟩ = false ∧ w.frozen? ⟨g, 3, none⟩ = false ∧ w.frozen? ⟨g, 4, none⟩ = false ∧ w.frozen? ⟨g, 5, none⟩ = false := ⟨fz6 h 0, fz6 h 1, fz6 h 2, fz6 h 3, fz6 h 4, fz6 h 5⟩
theorem chk_out {c : Cn} {m : Int} (h : chk c m = 0) : c.out.length ≤ 262144 ∧ c.buf.length ≤ 262144 := by
  unfold chk at h
  split at h
  · omega
  · split at h
    · omega
    · omega
set_option maxHeartbeats 8000000 in
theorem cn_tick (w : World) (c : Cn) (m idle now : Int) (hsn : 0 ≤ c.since ∧ c.since ≤ 18446744073709551615) (hnw : 0 ≤ now ∧ now ≤ 18446744073709551615) (hid : 0 ≤ idle ∧ idle ≤ 18446744073709551615) (s : H.T) (hW : WrC w 408 [cnClose] s) (hsl : s.length ≤ 1000) :
    Calls Tryz.prog 6 #[.agg c.cells, .agg #[.int .i64 m, .int .u64 idle], .int .u64 now] w fun e w' => e = .returned (.tuple #[.agg (tickM c m idle now s).1.cells, .int .i64 (tickM c m idle now s).2]) ∧ Below w.heap.size w w' := by
  obtain ⟨buf, out, closed, busy, last, since⟩ := c
  obtain ⟨X, hX⟩ : ∃ X, X = ((w.alloc (.cells #[S buf, S out, .bool closed, .bool busy, .bool last, .int .u64 since] 24)).alloc (.cells #[.int .i64 m, .int .u64 idle] 26)).alloc (.cells #[S [], S [], .bool false, .bool false, .bool false, .int .u64 0] 24) := ⟨_, rfl⟩
  have hb : Below w.heap.size w X := by rw [hX]; exact (((Below.refl _ w).alloc (Nat.le_refl _) _).alloc (by simp) _).alloc (by simp; omega) _
  have hx : X.heap[w.heap.size]? = some (.cells #[S buf, S out, .bool closed, .bool busy, .bool last, .int .u64 since] 24 (0, 0)) := by rw [hX]; exact blk_alloc (blk_alloc (blk_new w _) _) _
  have hr : X.heap[w.heap.size + 1]? = some (.cells #[.int .i64 m, .int .u64 idle] 26 (0, 0)) := by rw [hX]; exact blk_alloc (blk_at (by simp)) _
  have ho : X.heap[w.heap.size + 1 + 1]? = some (.cells #[S [], S [], .bool false, .bool false, .bool false, .int .u64 0] 24 (0, 0)) := by rw [hX]; exact blk_at (by simp)
  have hch := cn_check X ⟨buf, out, closed, busy, last, since⟩ m idle
  have hWX := hW.under hb
  have HWX := Lib.hid hWX
  have Hb := Lib.hid hb
  have Hx := Lib.hid hx
  have Hr := Lib.hid hr
  have Ho := Lib.hid ho
  obtain ⟨c0, c1, c2, c3, c4, c5⟩ := box6 hx
  obtain ⟨r0, r1⟩ := box2 hr
  obtain ⟨k, hk⟩ : ∃ k, chk ⟨buf, out, closed, busy, last, since⟩ m = k := ⟨_, rfl⟩
  rw [hk] at hch
  unfold tickM
  rw [hk]
  have Hk := Lib.hid hk
  have Hch := Lib.hid hch
  have hla := blk_lt hx
  have hlb := blk_lt hr
  simp only at hsn
  have Hs := Lib.hid (And.intro hsn hnw)
  clear hb hx hr ho hch hk hW hWX
  by_cases hk0 : k = 0
  · have hou := (chk_out (Hk.out.trans hk0)).1
    simp only at hou
    have Hou := Lib.hid hou
    clear hou
    subst hk0
    rw [if_neg (by simp)]
    simp only
    cases closed with
    | true =>
      rw [if_pos (by simp)]
      go_enter Tryz.func6, Tryz.ntmps6
      go_upto_region 1 with (fail)
      rw [← hX]
      clear hX
      go_wp2_with fail
      refine Hch.out.mono ?_
      rintro e w1 ⟨rfl, h1⟩
      have H1 := Lib.hid (Hb.out.trans (h1.mono Hb.out.size))
      have ho1 := blk_under Ho.out h1
      have Ho1 := Lib.hid ho1
      obtain ⟨f0, f1, f2, f3, f4, f5⟩ := frz6 ho1
      obtain ⟨o0, o1, o2, o3, o4, o5⟩ := box6 ho1
      have hlo := blk_lt ho1
      obtain ⟨c0, c1, c2, c3, c4, c5⟩ := box6 (blk_under Hx.out h1)
      obtain ⟨r0, r1⟩ := box2 (blk_under Hr.out h1)
      have hlc := blk_lt (blk_under Hx.out h1)
      have hlr := blk_lt (blk_under Hr.out h1)
      clear h1 ho1
      go_wp2
      obtain ⟨V, hV⟩ : ∃ V, V = (((((w1.setCell ⟨w.heap.size + 1 + 1, 0, none⟩ (S buf)).setCell ⟨w.heap.size + 1 + 1, 1, none⟩ (S out)).setCell ⟨w.heap.size + 1 + 1, 2, none⟩ (.bool true)).setCell ⟨w.heap.size + 1 + 1, 3, none⟩ (.bool busy)).setCell ⟨w.heap.size + 1 + 1, 4, none⟩ (.bool last)).setCell ⟨w.heap.size + 1 + 1, 5, none⟩ (.int .u64 since) := ⟨_, rfl⟩
      rw [← hV]
      obtain ⟨hkV, hgV⟩ := put6 Ho1.out _ _ _ _ _ _ hV
      obtain ⟨k0, k1, k2, k3, k4, k5⟩ := box6 hkV
      clear hV o0 o1 o2 o3 o4 o5 f0 f1 f2 f3 f4 f5 c0 c1 c2 c3 c4 c5
      refine bodyPost_ret (by simp [results, Tryz.results6, go_sem, k0, k1, k2, k3, k4, k5]; try rfl) rfl ?_
      exact ⟨rfl, grown_below H1.out hgV (by omega) hlo⟩
    | false =>
      cases busy with
      | true =>
        rw [if_pos (by simp)]
        go_enter Tryz.func6, Tryz.ntmps6
        go_upto_region 1 with (fail)
        rw [← hX]
        clear hX
        go_wp2_with fail
        refine Hch.out.mono ?_
        rintro e w1 ⟨rfl, h1⟩
        have H1 := Lib.hid (Hb.out.trans (h1.mono Hb.out.size))
        have ho1 := blk_under Ho.out h1
        have Ho1 := Lib.hid ho1
        obtain ⟨f0, f1, f2, f3, f4, f5⟩ := frz6 ho1
        obtain ⟨o0, o1, o2, o3, o4, o5⟩ := box6 ho1
        have hlo := blk_lt ho1
        obtain ⟨c0, c1, c2, c3, c4, c5⟩ := box6 (blk_under Hx.out h1)
        obtain ⟨r0, r1⟩ := box2 (blk_under Hr.out h1)
        have hlc := blk_lt (blk_under Hx.out h1)
        have hlr := blk_lt (blk_under Hr.out h1)
        clear h1 ho1
        go_wp2
        obtain ⟨V, hV⟩ : ∃ V, V = (((((w1.setCell ⟨w.heap.size + 1 + 1, 0, none⟩ (S buf)).setCell ⟨w.heap.size + 1 + 1, 1, none⟩ (S out)).setCell ⟨w.heap.size + 1 + 1, 2, none⟩ (.bool false)).setCell ⟨w.heap.size + 1 + 1, 3, none⟩ (.bool true)).setCell ⟨w.heap.size + 1 + 1, 4, none⟩ (.bool last)).setCell ⟨w.heap.size + 1 + 1, 5, none⟩ (.int .u64 since) := ⟨_, rfl⟩
        rw [← hV]
        obtain ⟨hkV, hgV⟩ := put6 Ho1.out _ _ _ _ _ _ hV
        obtain ⟨k0, k1, k2, k3, k4, k5⟩ := box6 hkV
        clear hV o0 o1 o2 o3 o4 o5 f0 f1 f2 f3 f4 f5 c0 c1 c2 c3 c4 c5
        refine bodyPost_ret (by simp [results, Tryz.results6, go_sem, k0, k1, k2, k3, k4, k5]; try rfl) rfl ?_
        exact ⟨rfl, grown_below H1.out hgV (by omega) hlo⟩
      | false =>
        by_cases h3 : now < since
        · rw [if_pos (by simp [h3])]
          go_enter Tryz.func6, Tryz.ntmps6
          go_upto_region 1 with (fail)
          rw [← hX]
          clear hX
          go_wp2_with fail
          refine Hch.out.mono ?_
          rintro e w1 ⟨rfl, h1⟩
          have H1 := Lib.hid (Hb.out.trans (h1.mono Hb.out.size))
          have ho1 := blk_under Ho.out h1
          have Ho1 := Lib.hid ho1
          obtain ⟨f0, f1, f2, f3, f4, f5⟩ := frz6 ho1
          obtain ⟨o0, o1, o2, o3, o4, o5⟩ := box6 ho1
          have hlo := blk_lt ho1
          obtain ⟨c0, c1, c2, c3, c4, c5⟩ := box6 (blk_under Hx.out h1)
          obtain ⟨r0, r1⟩ := box2 (blk_under Hr.out h1)
          have hlc := blk_lt (blk_under Hx.out h1)
          have hlr := blk_lt (blk_under Hr.out h1)
          clear h1 ho1
          go_wp2
          obtain ⟨V, hV⟩ : ∃ V, V = (((((w1.setCell ⟨w.heap.size + 1 + 1, 0, none⟩ (S buf)).setCell ⟨w.heap.size + 1 + 1, 1, none⟩ (S out)).setCell ⟨w.heap.size + 1 + 1, 2, none⟩ (.bool false)).setCell ⟨w.heap.size + 1 + 1, 3, none⟩ (.bool false)).setCell ⟨w.heap.size + 1 + 1, 4, none⟩ (.bool last)).setCell ⟨w.heap.size + 1 + 1, 5, none⟩ (.int .u64 since) := ⟨_, rfl⟩
          rw [← hV]
          obtain ⟨hkV, hgV⟩ := put6 Ho1.out _ _ _ _ _ _ hV
          obtain ⟨k0, k1, k2, k3, k4, k5⟩ := box6 hkV
          clear hV o0 o1 o2 o3 o4 o5 f0 f1 f2 f3 f4 f5 c0 c1 c2 c3 c4 c5
          refine bodyPost_ret (by simp [results, Tryz.results6, go_sem, k0, k1, k2, k3, k4, k5]; try rfl) rfl ?_
          exact ⟨rfl, grown_below H1.out hgV (by omega) hlo⟩
        · have h3i : IntKind.u64.wrap (now - since) = now - since := by have := Hs.out; unfold IntKind.wrap; simp [IntKind.signed, IntKind.bits]; omega
          by_cases h4 : now - since < idle
          · rw [if_pos (by simp [h4])]
            go_enter Tryz.func6, Tryz.ntmps6
            go_upto_region 1 with (fail)
            rw [← hX]
            clear hX
            go_wp2_with fail
            refine Hch.out.mono ?_
            rintro e w1 ⟨rfl, h1⟩
            have H1 := Lib.hid (Hb.out.trans (h1.mono Hb.out.size))
            have ho1 := blk_under Ho.out h1
            have Ho1 := Lib.hid ho1
            obtain ⟨f0, f1, f2, f3, f4, f5⟩ := frz6 ho1
            obtain ⟨o0, o1, o2, o3, o4, o5⟩ := box6 ho1
            have hlo := blk_lt ho1
            obtain ⟨c0, c1, c2, c3, c4, c5⟩ := box6 (blk_under Hx.out h1)
            obtain ⟨r0, r1⟩ := box2 (blk_under Hr.out h1)
            have hlc := blk_lt (blk_under Hx.out h1)
            have hlr := blk_lt (blk_under Hr.out h1)
            clear h1 ho1
            go_wp2
            obtain ⟨V, hV⟩ : ∃ V, V = (((((w1.setCell ⟨w.heap.size + 1 + 1, 0, none⟩ (S buf)).setCell ⟨w.heap.size + 1 + 1, 1, none⟩ (S out)).setCell ⟨w.heap.size + 1 + 1, 2, none⟩ (.bool false)).setCell ⟨w.heap.size + 1 + 1, 3, none⟩ (.bool false)).setCell ⟨w.heap.size + 1 + 1, 4, none⟩ (.bool last)).setCell ⟨w.heap.size + 1 + 1, 5, none⟩ (.int .u64 since) := ⟨_, rfl⟩
            rw [← hV]
            obtain ⟨hkV, hgV⟩ := put6 Ho1.out _ _ _ _ _ _ hV
            obtain ⟨k0, k1, k2, k3, k4, k5⟩ := box6 hkV
            clear hV o0 o1 o2 o3 o4 o5 f0 f1 f2 f3 f4 f5 c0 c1 c2 c3 c4 c5
            refine bodyPost_ret (by simp [results, Tryz.results6, go_sem, k0, k1, k2, k3, k4, k5]; try rfl) rfl ?_
            exact ⟨rfl, grown_below H1.out hgV (by omega) hlo⟩
          · rw [if_neg (by simp; omega)]
            obtain ⟨u, hu⟩ : ∃ u : H.T, (if buf = [] then out else out ++ s) = u := ⟨_, rfl⟩
            simp only [hu]
            have Hu := Lib.hid hu
            clear hu
            go_enter Tryz.func6, Tryz.ntmps6
            go_upto_region 1 with (fail)
            rw [← hX]
            clear hX
            go_wp2_with fail
            refine Hch.out.mono ?_
            rintro e w1 ⟨rfl, h1⟩
            have H1 := Lib.hid (Hb.out.trans (h1.mono Hb.out.size))
            have ho1 := blk_under Ho.out h1
            have Ho1 := Lib.hid ho1
            obtain ⟨f0, f1, f2, f3, f4, f5⟩ := frz6 ho1
            obtain ⟨o0, o1, o2, o3, o4, o5⟩ := box6 ho1
            have hlo := blk_lt ho1
            obtain ⟨c0, c1, c2, c3, c4, c5⟩ := box6 (blk_under Hx.out h1)
            obtain ⟨r0, r1⟩ := box2 (blk_under Hr.out h1)
            have hlc := blk_lt (blk_under Hx.out h1)
            have hlr := blk_lt (blk_under Hr.out h1)
            obtain ⟨Y, hY⟩ : ∃ Y, Y = w1.alloc (.cells #[S buf, S out, .bool false, .bool false, .bool last, .int .u64 since] 46) := ⟨_, rfl⟩
            have hbY : Below w1.heap.size w1 Y := by rw [hY]; exact (Below.refl _ w1).alloc (Nat.le_refl _) _
            have hkY : Y.heap[w1.heap.size]? = some (.cells (Cn.mk buf out false false last since).cells 46 (0, 0)) := by rw [hY]; exact blk_new w1 _
            have hex := cn_expire Y w1.heap.size ⟨buf, out, false, false, last, since⟩ s ((HWX.out.under h1).under hbY) (by have := Hou.out; simp only; omega) hkY
            have Hex := Lib.hid hex
            have HoY := Lib.hid (blk_under ho1 hbY)
            have HbY := Lib.hid (H1.out.trans (hbY.mono H1.out.size))
            have hYs := hbY.size
            have hlY := blk_lt hkY
            clear h1 ho1 hbY hkY hex
            go_upto_region 7 with (fail)
            rw [← hY]
            clear hY c0 c1 c2 c3 c4 c5 r0 r1 o0 o1 o2 o3 o4 o5 f0 f1 f2 f3 f4 f5
            go_wp2_with fail
            refine Hex.out.mono ?_
            rintro e w2 ⟨rfl, hk2, hg2⟩
            have ho2 := (hg2.block (w.heap.size + 1 + 1) (by omega) (by intro e; injection e with e; omega)).trans HoY.out
            obtain ⟨f0, f1, f2, f3, f4, f5⟩ := frz6 ho2
            obtain ⟨o0, o1, o2, o3, o4, o5⟩ := box6 ho2
            simp only [Hu.out] at hk2
            obtain ⟨c0, c1, c2, c3, c4, c5⟩ := box6 hk2
            have hl2 := blk_lt hk2
            have hlo2 := blk_lt ho2
            have Ho2 := Lib.hid ho2
            have H2 := Lib.hid (grown_below HbY.out hg2 (by omega) hlY)
            clear hk2 hg2 ho2
            go_wp2
            obtain ⟨V, hV⟩ : ∃ V, V = (((((w2.setCell ⟨w.heap.size + 1 + 1, 0, none⟩ (S [])).setCell ⟨w.heap.size + 1 + 1, 1, none⟩ (S u)).setCell ⟨w.heap.size + 1 + 1, 2, none⟩ (.bool true)).setCell ⟨w.heap.size + 1 + 1, 3, none⟩ (.bool false)).setCell ⟨w.heap.size + 1 + 1, 4, none⟩ (.bool false)).setCell ⟨w.heap.size + 1 + 1, 5, none⟩ (.int .u64 since) := ⟨_, rfl⟩
            rw [← hV]
            obtain ⟨hkV, hgV⟩ := put6 Ho2.out _ _ _ _ _ _ hV
            obtain ⟨k0, k1, k2, k3, k4, k5⟩ := box6 hkV
            clear hV o0 o1 o2 o3 o4 o5 f0 f1 f2 f3 f4 f5 c0 c1 c2 c3 c4 c5
            refine bodyPost_ret (by simp [results, Tryz.results6, go_sem, k0, k1, k2, k3, k4, k5]; try rfl) rfl ?_
            exact ⟨rfl, grown_below H2.out hgV (by omega) hlo2⟩
  · rw [if_pos hk0]
    go_enter Tryz.func6, Tryz.ntmps6
    go_upto_region 1 with (fail)
    rw [← hX]
    clear hX
    go_wp2_with fail
    refine Hch.out.mono ?_
    rintro e w1 ⟨rfl, h1⟩
    have H1 := Lib.hid (Hb.out.trans (h1.mono Hb.out.size))
    have ho1 := blk_under Ho.out h1
    have Ho1 := Lib.hid ho1
    obtain ⟨f0, f1, f2, f3, f4, f5⟩ := frz6 ho1
    obtain ⟨o0, o1, o2, o3, o4, o5⟩ := box6 ho1
    have hlo := blk_lt ho1
    clear h1 ho1 c0 c1 c2 c3 c4 c5 r0 r1
    go_wp2
    obtain ⟨V, hV⟩ : ∃ V, V = (((((w1.setCell ⟨w.heap.size + 1 + 1, 0, none⟩ (S [])).setCell ⟨w.heap.size + 1 + 1, 1, none⟩ (S [])).setCell ⟨w.heap.size + 1 + 1, 2, none⟩ (.bool false)).setCell ⟨w.heap.size + 1 + 1, 3, none⟩ (.bool false)).setCell ⟨w.heap.size + 1 + 1, 4, none⟩ (.bool false)).setCell ⟨w.heap.size + 1 + 1, 5, none⟩ (.int .u64 0) := ⟨_, rfl⟩
    rw [← hV]
    obtain ⟨hkV, hgV⟩ := put6 Ho1.out _ _ _ _ _ _ hV
    obtain ⟨k0, k1, k2, k3, k4, k5⟩ := box6 hkV
    clear hV o0 o1 o2 o3 o4 o5 f0 f1 f2 f3 f4 f5
    refine bodyPost_ret (by simp [results, Tryz.results6, go_sem, k0, k1, k2, k3, k4, k5]; try rfl) rfl ?_
    exact ⟨rfl, grown_below H1.out hgV (by omega) hlo⟩
end Go.Proofs.YtomicdkmbgckkaaGreatDoor

/- SERVER: THE WALKS OVER Feed, Take. -/
namespace Go.Proofs.YtomicdkmbgckkaaGreatDoor
open Go.RowKit
set_option maxRecDepth 100000
set_option linter.unusedVariables false
set_option linter.unusedSimpArgs false
/-- Feed's answer -/
def feedM (c : Cn) (m : Int) (data : H.T) (now : Int) : Cn × Int := if chk c m ≠ 0 then (cn0, chk c m) else if c.closed = true then (cn0, 6) else if 262144 < c.buf.length + data.length then (cn0, 8) else (if data = [] then c else ⟨c.buf ++ data, c.out, c.closed, c.busy, c.last, now⟩, 0)
set_option maxHeartbeats 8000000 in
theorem cn_feed (w : World) (c : Cn) (m idle now : Int) (data : H.T) (hdl : data.length ≤ 281474976710656) :
    Calls Tryz.prog 8 #[.agg c.cells, .agg #[.int .i64 m, .int .u64 idle], S data, .int .u64 now] w fun e w' => e = .returned (.tuple #[.agg (feedM c m data now).1.cells, .int .i64 (feedM c m data now).2]) ∧ Below w.heap.size w w' := by
  obtain ⟨buf, out, closed, busy, last, since⟩ := c
  obtain ⟨X, hX⟩ : ∃ X, X = ((w.alloc (.cells #[S buf, S out, .bool closed, .bool busy, .bool last, .int .u64 since] 24)).alloc (.cells #[.int .i64 m, .int .u64 idle] 26)).alloc (.cells #[S [], S [], .bool false, .bool false, .bool false, .int .u64 0] 24) := ⟨_, rfl⟩
  have hb : Below w.heap.size w X := by rw [hX]; exact (((Below.refl _ w).alloc (Nat.le_refl _) _).alloc (by simp) _).alloc (by simp; omega) _
  have hx : X.heap[w.heap.size]? = some (.cells #[S buf, S out, .bool closed, .bool busy, .bool last, .int .u64 since] 24 (0, 0)) := by rw [hX]; exact blk_alloc (blk_alloc (blk_new w _) _) _
  have hr : X.heap[w.heap.size + 1]? = some (.cells #[.int .i64 m, .int .u64 idle] 26 (0, 0)) := by rw [hX]; exact blk_alloc (blk_at (by simp)) _
  have ho : X.heap[w.heap.size + 1 + 1]? = some (.cells #[S [], S [], .bool false, .bool false, .bool false, .int .u64 0] 24 (0, 0)) := by rw [hX]; exact blk_at (by simp)
  have hch := cn_check X ⟨buf, out, closed, busy, last, since⟩ m idle
  have Hb := Lib.hid hb
  have Hx := Lib.hid hx
  have Hr := Lib.hid hr
  have Ho := Lib.hid ho
  obtain ⟨c0, c1, c2, c3, c4, c5⟩ := box6 hx
  obtain ⟨r0, r1⟩ := box2 hr
  obtain ⟨k, hk⟩ : ∃ k, chk ⟨buf, out, closed, busy, last, since⟩ m = k := ⟨_, rfl⟩
  rw [hk] at hch
  unfold feedM
  rw [hk]
  have Hk := Lib.hid hk
  have Hch := Lib.hid hch
  have hla := blk_lt hx
  have hlb := blk_lt hr
  clear hb hx hr ho hch hk 
  by_cases hk0 : k = 0
  · have hou := (chk_out (Hk.out.trans hk0)).2
    simp only at hou
    subst hk0
    rw [if_neg (by simp)]
    simp only
    have hwr : IntKind.i64.wrap (262144 - (buf.length : Int)) = 262144 - (buf.length : Int) := by rw [IntKind.wrap_i64]; omega
    cases closed with
    | true =>
      rw [if_pos rfl]
      go_enter Tryz.func8, Tryz.ntmps8
      go_upto_region 1 with (fail)
      rw [← hX]
      clear hX
      go_wp2_with fail
      refine Hch.out.mono ?_
      rintro e w1 ⟨rfl, h1⟩
      have H1 := Lib.hid (Hb.out.trans (h1.mono Hb.out.size))
      have ho1 := blk_under Ho.out h1
      have Ho1 := Lib.hid ho1
      obtain ⟨f0, f1, f2, f3, f4, f5⟩ := frz6 ho1
      obtain ⟨o0, o1, o2, o3, o4, o5⟩ := box6 ho1
      have hlo := blk_lt ho1
      obtain ⟨c0, c1, c2, c3, c4, c5⟩ := box6 (blk_under Hx.out h1)
      obtain ⟨r0, r1⟩ := box2 (blk_under Hr.out h1)
      have hlc := blk_lt (blk_under Hx.out h1)
      have hlr := blk_lt (blk_under Hr.out h1)
      clear h1 ho1
      go_wp2
      obtain ⟨V, hV⟩ : ∃ V, V = (((((w1.setCell ⟨w.heap.size + 1 + 1, 0, none⟩ (S [])).setCell ⟨w.heap.size + 1 + 1, 1, none⟩ (S [])).setCell ⟨w.heap.size + 1 + 1, 2, none⟩ (.bool false)).setCell ⟨w.heap.size + 1 + 1, 3, none⟩ (.bool false)).setCell ⟨w.heap.size + 1 + 1, 4, none⟩ (.bool false)).setCell ⟨w.heap.size + 1 + 1, 5, none⟩ (.int .u64 0) := ⟨_, rfl⟩
      rw [← hV]
      obtain ⟨hkV, hgV⟩ := put6 Ho1.out _ _ _ _ _ _ hV
      obtain ⟨k0, k1, k2, k3, k4, k5⟩ := box6 hkV
      clear hV o0 o1 o2 o3 o4 o5 f0 f1 f2 f3 f4 f5 c0 c1 c2 c3 c4 c5
      refine bodyPost_ret (by simp [results, Tryz.results8, go_sem, k0, k1, k2, k3, k4, k5]; try rfl) rfl ?_
      exact ⟨rfl, grown_below H1.out hgV (by omega) hlo⟩
    | false =>
      rw [if_neg (by simp)]
      by_cases h3 : 262144 < buf.length + data.length
      · have h3' : 262144 - (buf.length : Int) < (data.length : Int) := by omega
        rw [if_pos h3]
        go_enter Tryz.func8, Tryz.ntmps8
        go_upto_region 1 with (fail)
        rw [← hX]
        clear hX
        go_wp2_with fail
        refine Hch.out.mono ?_
        rintro e w1 ⟨rfl, h1⟩
        have H1 := Lib.hid (Hb.out.trans (h1.mono Hb.out.size))
        have ho1 := blk_under Ho.out h1
        have Ho1 := Lib.hid ho1
        obtain ⟨f0, f1, f2, f3, f4, f5⟩ := frz6 ho1
        obtain ⟨o0, o1, o2, o3, o4, o5⟩ := box6 ho1
        have hlo := blk_lt ho1
        obtain ⟨c0, c1, c2, c3, c4, c5⟩ := box6 (blk_under Hx.out h1)
        obtain ⟨r0, r1⟩ := box2 (blk_under Hr.out h1)
        have hlc := blk_lt (blk_under Hx.out h1)
        have hlr := blk_lt (blk_under Hr.out h1)
        clear h1 ho1
        go_wp2
        obtain ⟨V, hV⟩ : ∃ V, V = (((((w1.setCell ⟨w.heap.size + 1 + 1, 0, none⟩ (S [])).setCell ⟨w.heap.size + 1 + 1, 1, none⟩ (S [])).setCell ⟨w.heap.size + 1 + 1, 2, none⟩ (.bool false)).setCell ⟨w.heap.size + 1 + 1, 3, none⟩ (.bool false)).setCell ⟨w.heap.size + 1 + 1, 4, none⟩ (.bool false)).setCell ⟨w.heap.size + 1 + 1, 5, none⟩ (.int .u64 0) := ⟨_, rfl⟩
        rw [← hV]
        obtain ⟨hkV, hgV⟩ := put6 Ho1.out _ _ _ _ _ _ hV
        obtain ⟨k0, k1, k2, k3, k4, k5⟩ := box6 hkV
        clear hV o0 o1 o2 o3 o4 o5 f0 f1 f2 f3 f4 f5 c0 c1 c2 c3 c4 c5
        refine bodyPost_ret (by simp [results, Tryz.results8, go_sem, k0, k1, k2, k3, k4, k5]; try rfl) rfl ?_
        exact ⟨rfl, grown_below H1.out hgV (by omega) hlo⟩
      · have h3' : ¬ 262144 - (buf.length : Int) < (data.length : Int) := by omega
        rw [if_neg h3]
        by_cases h4 : data = []
        · subst h4
          simp only [if_true]
          go_enter Tryz.func8, Tryz.ntmps8
          go_upto_region 1 with (fail)
          rw [← hX]
          clear hX
          go_wp2_with fail
          refine Hch.out.mono ?_
          rintro e w1 ⟨rfl, h1⟩
          have H1 := Lib.hid (Hb.out.trans (h1.mono Hb.out.size))
          have ho1 := blk_under Ho.out h1
          have Ho1 := Lib.hid ho1
          obtain ⟨f0, f1, f2, f3, f4, f5⟩ := frz6 ho1
          obtain ⟨o0, o1, o2, o3, o4, o5⟩ := box6 ho1
          have hlo := blk_lt ho1
          obtain ⟨c0, c1, c2, c3, c4, c5⟩ := box6 (blk_under Hx.out h1)
          obtain ⟨r0, r1⟩ := box2 (blk_under Hr.out h1)
          have hlc := blk_lt (blk_under Hx.out h1)
          have hlr := blk_lt (blk_under Hr.out h1)
          clear h1 ho1
          go_wp2
          obtain ⟨V, hV⟩ : ∃ V, V = (((((w1.setCell ⟨w.heap.size + 1 + 1, 0, none⟩ (S buf)).setCell ⟨w.heap.size + 1 + 1, 1, none⟩ (S out)).setCell ⟨w.heap.size + 1 + 1, 2, none⟩ (.bool false)).setCell ⟨w.heap.size + 1 + 1, 3, none⟩ (.bool busy)).setCell ⟨w.heap.size + 1 + 1, 4, none⟩ (.bool last)).setCell ⟨w.heap.size + 1 + 1, 5, none⟩ (.int .u64 since) := ⟨_, rfl⟩
          rw [← hV]
          obtain ⟨hkV, hgV⟩ := put6 Ho1.out _ _ _ _ _ _ hV
          obtain ⟨k0, k1, k2, k3, k4, k5⟩ := box6 hkV
          clear hV o0 o1 o2 o3 o4 o5 f0 f1 f2 f3 f4 f5 c0 c1 c2 c3 c4 c5
          refine bodyPost_ret (by simp [results, Tryz.results8, go_sem, k0, k1, k2, k3, k4, k5]; try rfl) rfl ?_
          exact ⟨rfl, grown_below H1.out hgV (by omega) hlo⟩
        · have hie : List.isEmpty data = false := by cases data with | nil => exact absurd rfl h4 | cons a t => rfl
          simp only [if_neg h4]
          have e1 := cat_S buf data
          go_enter Tryz.func8, Tryz.ntmps8
          go_upto_region 1 with (fail)
          rw [← hX]
          clear hX
          go_wp2_with fail
          refine Hch.out.mono ?_
          rintro e w1 ⟨rfl, h1⟩
          have H1 := Lib.hid (Hb.out.trans (h1.mono Hb.out.size))
          have ho1 := blk_under Ho.out h1
          have Ho1 := Lib.hid ho1
          obtain ⟨f0, f1, f2, f3, f4, f5⟩ := frz6 ho1
          obtain ⟨o0, o1, o2, o3, o4, o5⟩ := box6 ho1
          have hlo := blk_lt ho1
          obtain ⟨c0, c1, c2, c3, c4, c5⟩ := box6 (blk_under Hx.out h1)
          obtain ⟨r0, r1⟩ := box2 (blk_under Hr.out h1)
          have hx1 := blk_under Hx.out h1
          have hlc := blk_lt hx1
          have hlr := blk_lt (blk_under Hr.out h1)
          obtain ⟨g0, g1, g2, g3, g4, g5⟩ := frz6 hx1
          have Hx1 := Lib.hid hx1
          clear h1 ho1 hx1
          go_wp2
          obtain ⟨U, hU⟩ : ∃ U, U = (w1.setCell ⟨w.heap.size, 0, none⟩ (S (buf ++ data))).setCell ⟨w.heap.size, 5, none⟩ (.int .u64 now) := ⟨_, rfl⟩
          rw [← hU]
          have hgU : w1.grownBy U (some w.heap.size) := by rw [hU]; exact (set_grown1 w1 _ 0 _).trans (set_grown1 _ _ 5 _)
          have hoU := (hgU.block (w.heap.size + 1 + 1) hlo (by intro e; injection e with e; omega)).trans Ho1.out
          have hlU := blk_lt hoU
          have HU := Lib.hid (grown_below H1.out hgU (Nat.le_refl _) hlc)
          clear hU hgU
          obtain ⟨V, hV⟩ : ∃ V, V = (((((U.setCell ⟨w.heap.size + 1 + 1, 0, none⟩ (S (buf ++ data))).setCell ⟨w.heap.size + 1 + 1, 1, none⟩ (S out)).setCell ⟨w.heap.size + 1 + 1, 2, none⟩ (.bool false)).setCell ⟨w.heap.size + 1 + 1, 3, none⟩ (.bool busy)).setCell ⟨w.heap.size + 1 + 1, 4, none⟩ (.bool last)).setCell ⟨w.heap.size + 1 + 1, 5, none⟩ (.int .u64 now) := ⟨_, rfl⟩
          rw [← hV]
          obtain ⟨hkV, hgV⟩ := put6 hoU _ _ _ _ _ _ hV
          obtain ⟨k0, k1, k2, k3, k4, k5⟩ := box6 hkV
          clear hV o0 o1 o2 o3 o4 o5 f0 f1 f2 f3 f4 f5 c0 c1 c2 c3 c4 c5 g0 g1 g2 g3 g4 g5
          refine bodyPost_ret (by simp [results, Tryz.results8, go_sem, k0, k1, k2, k3, k4, k5]; try rfl) rfl ?_
          exact ⟨rfl, grown_below HU.out hgV (by omega) hlU⟩
  · rw [if_pos hk0]
    go_enter Tryz.func8, Tryz.ntmps8
    go_upto_region 1 with (fail)
    rw [← hX]
    clear hX
    go_wp2_with fail
    refine Hch.out.mono ?_
    rintro e w1 ⟨rfl, h1⟩
    have H1 := Lib.hid (Hb.out.trans (h1.mono Hb.out.size))
    have ho1 := blk_under Ho.out h1
    have Ho1 := Lib.hid ho1
    obtain ⟨f0, f1, f2, f3, f4, f5⟩ := frz6 ho1
    obtain ⟨o0, o1, o2, o3, o4, o5⟩ := box6 ho1
    have hlo := blk_lt ho1
    clear h1 ho1 c0 c1 c2 c3 c4 c5 r0 r1
    go_wp2
    obtain ⟨V, hV⟩ : ∃ V, V = (((((w1.setCell ⟨w.heap.size + 1 + 1, 0, none⟩ (S [])).setCell ⟨w.heap.size + 1 + 1, 1, none⟩ (S [])).setCell ⟨w.heap.size + 1 + 1, 2, none⟩ (.bool false)).setCell ⟨w.heap.size + 1 + 1, 3, none⟩ (.bool false)).setCell ⟨w.heap.size + 1 + 1, 4, none⟩ (.bool false)).setCell ⟨w.heap.size + 1 + 1, 5, none⟩ (.int .u64 0) := ⟨_, rfl⟩
    rw [← hV]
    obtain ⟨hkV, hgV⟩ := put6 Ho1.out _ _ _ _ _ _ hV
    obtain ⟨k0, k1, k2, k3, k4, k5⟩ := box6 hkV
    clear hV o0 o1 o2 o3 o4 o5 f0 f1 f2 f3 f4 f5
    refine bodyPost_ret (by simp [results, Tryz.results8, go_sem, k0, k1, k2, k3, k4, k5]; try rfl) rfl ?_
    exact ⟨rfl, grown_below H1.out hgV (by omega) hlo⟩
end Go.Proofs.YtomicdkmbgckkaaGreatDoor

/- HTTP: THE WALKS OVER Find, statusLine, mustSay. -/
namespace Go.Proofs.YtomicdkmbgckkaaGreatDoor
open Go.RowKit
set_option maxRecDepth 100000
set_option linter.unusedVariables false
set_option linter.unusedSimpArgs false

theorem tpre_len (s p : H.T) : (Lib.trimPrefix s p).length ≤ s.length := by
  unfold Lib.trimPrefix
  split
  · rw [List.length_drop]; omega
  · exact Nat.le_refl _
theorem parse_lt (M : Nat) : ∀ (l : H.T) (acc v : Nat), Lib.parseUintM M acc l = .ok v → v < (acc + 1) * 10 ^ l.length
  | [], acc, v, h => by
    simp only [Lib.parseUintM, Lib.NumEnd.ok.injEq] at h
    subst h; simp
  | b :: t, acc, v, h => by
    simp only [Lib.parseUintM] at h
    split at h
    · rename_i h1
      split at h
      · cases h
      · split at h
        · cases h
        · have := parse_lt M t _ v h
          refine Nat.lt_of_lt_of_le this ?_
          rw [List.length_cons, Nat.pow_succ, Nat.mul_comm (10 ^ t.length) 10, ← Nat.mul_assoc]
          exact Nat.mul_le_mul_right _ (by have := b.toNat_lt; omega)
    · cases h
theorem whole_lt {s : H.T} {n : Nat} (h : H.whole10 s 3 = .ok n) : n < 1000 := by
  unfold H.whole10 H.wholeO at h
  split at h
  · rename_i h3
    split at h
    · rename_i m hm
      injection h with h
      subst h
      unfold H.decO at hm
      split at hm
      · rename_i u hu
        injection hm with hm
        subst hm
        unfold Lib.parseUintB at hu
        split at hu
        · cases hu
        · have h5 := parse_lt _ _ _ _ hu
          have h6 : (10 : Nat) ^ s.length ≤ 10 ^ 3 := Nat.pow_le_pow_right (by omega) h3
          have h7 : (10 : Nat) ^ 3 = 1000 := rfl
          omega
      · cases hm
    · cases h
  · cases h
def H.findO (hs : List H.Hd) (name : H.T) : H.T × Bool := match hs.find? (fun h => H.alike h.name name) with | some h => (h.value, true) | none => ([], false)
theorem H.idx_find (p : H.Hd → Bool) : ∀ (hs : List H.Hd) (k : Int), (H.idxFrom p k hs = -1 ∧ hs.find? p = none) ∨ ∃ (i : Nat) (h : H.Hd), H.idxFrom p k hs = k + (i : Int) ∧ hs[i]? = some h ∧ hs.find? p = some h
  | [], k => .inl ⟨rfl, rfl⟩
  | h :: t, k => by
    have e : H.idxFrom p k (h :: t) = if p h then k else H.idxFrom p (k + 1) t := rfl
    by_cases hp : p h = true
    · rw [if_pos hp] at e
      exact .inr ⟨0, h, by rw [e]; simp, rfl, by rw [List.find?_cons, hp]⟩
    · rw [if_neg hp] at e
      have e2 : (h :: t).find? p = t.find? p := by rw [List.find?_cons]; simp [hp]
      rw [e, e2]
      rcases H.idx_find p t (k + 1) with ⟨h1, h2⟩ | ⟨i, x, h1, h2, h3⟩
      · exact .inl ⟨h1, h2⟩
      · exact .inr ⟨i + 1, x, by rw [h1]; omega, h2, h3⟩
set_option maxHeartbeats 1000000 in
theorem find_any (w : World) (hs : List H.Hd) (name : H.T) (ad : Option Addr) (cap : Nat) (hH : Hds w ad hs) (hbig : Big hs) (hmx : hs.length ≤ 281474976710656) :
    Calls Tryz.prog 24 #[.slice ad hs.length cap, S name] w fun e w' => e = .returned (.tuple #[S (H.findO hs name).1, .bool (H.findO hs name).2]) ∧ Below w.heap.size w w' := by
  have hN := named_is w name
  have hI : ∀ (W : World) (g : Nat), Below w.heap.size w W → W.heap[g]? = some (.cells #[S name] 9 (0, 0)) → Calls Tryz.prog 41 #[.slice ad hs.length cap, .func (.func 58) #[] #[.pointer (some ⟨g, 0, none⟩)]] W fun e w' => e = .returned (.int .i64 (H.idxFrom (fun h => H.alike h.name name) 0 hs)) ∧ Below W.heap.size W w' := fun W g hb hg =>
    idx_any W hs ad cap (hH.under hb) hmx 58 #[.pointer (some ⟨g, 0, none⟩)] (fun h => H.alike h.name name) (fun args W => by kernel_rfl) (fun V h hm hbV => test_any V h.name h.value name g (blk_under hg hbV) (by have := (hbig h hm).1; omega))
  unfold H.findO
  rcases H.idx_find (fun h => H.alike h.name name) hs 0 with ⟨h1, h2⟩ | ⟨i, x, h1, h2, h3⟩
  · rw [h1] at hI
    rw [h2]
    clear h1 h2
    go_enter Tryz.func24, Tryz.ntmps24
    go_wp2_with fail
    refine hN.mono ?_
    rintro e w1 ⟨g, rfl, hg, hb⟩
    have HI := hI w1 g hb hg
    have Hb := Lib.hid hb
    clear hN hI hb hg
    go_wp2_with fail
    refine HI.mono ?_
    rintro e w2 ⟨rfl, hb2⟩
    have Hb2 := Lib.hid (Hb.out.trans (hb2.mono Hb.out.size))
    clear hb2 HI
    go_wp2
    go_ret2
    exact ⟨rfl, Hb2.out⟩
  · rw [h1, show (0 : Int) + (i : Int) = (i : Int) from by omega] at hI
    rw [h3]
    have hil : i < hs.length := (List.getElem?_eq_some_iff.1 h2).1
    have hne : hs ≠ [] := by rintro rfl; simp at hil
    have HH := Lib.hid hH
    clear h1 h3
    go_enter Tryz.func24, Tryz.ntmps24
    go_wp2_with fail
    refine hN.mono ?_
    rintro e w1 ⟨g, rfl, hg, hb⟩
    have HI := hI w1 g hb hg
    have Hb := Lib.hid hb
    clear hN hI hb hg
    go_wp2_with fail
    refine HI.mono ?_
    rintro e w2 ⟨rfl, hb2⟩
    have Hb2 := Lib.hid (Hb.out.trans (hb2.mono Hb.out.size))
    clear hb2 HI
    obtain ⟨g1, o1, rfl, hg1, k1⟩ := (HH.out.under Hb2.out) hne
    obtain ⟨p1, p2⟩ := k1 i x h2
    have hi0 : ¬ (i : Int) < 0 := by omega
    have hi1 : (i : Int) < (hs.length : Int) := by omega
    clear k1 HH h2 hH
    go_wp2
    go_ret2
    exact ⟨rfl, Hb2.out⟩
end Go.Proofs.YtomicdkmbgckkaaGreatDoor

/- SERVER: THE WALKS OVER cut, and over read and look at a request whose target is /x, without heads. -/
namespace Go.Proofs.YtomicdkmbgckkaaGreatDoor
open Go.RowKit
set_option maxRecDepth 100000
set_option linter.unusedVariables false
set_option linter.unusedSimpArgs false

theorem cn_cut (w : World) (g : Nat) (c : Cn) (n : Nat) (now : Int) (hn : n ≤ c.buf.length) (hl : c.buf.length ≤ 262144) (hc : w.heap[g]? = some (.cells c.cells 46 (0, 0))) :
    Calls Tryz.prog 15 #[.pointer (some ⟨g, 0, none⟩), .int .i64 (n : Int), .int .u64 now] w fun e w' => e = .returned (.tuple #[]) ∧ w'.heap[g]? = some (.cells (Cn.mk (c.buf.drop n) c.out c.closed c.busy c.last now).cells 46 (0, 0)) ∧ w.grownBy w' (some g) := by
  obtain ⟨buf, out, closed, busy, last, since⟩ := c
  simp only at hn hl
  obtain ⟨c0, c1, c2, c3, c4, c5⟩ := box6 hc
  obtain ⟨f0, f1, f2, f3, f4, f5⟩ := frz6 hc
  have hlt := blk_lt hc
  have e1 := ext_drop buf n
  have hni : (0 : Int) ≤ (n : Int) ∧ (n : Int) ≤ (buf.length : Int) := by omega
  have Hc := Lib.hid hc
  clear hc
  go_enter Tryz.func15, Tryz.ntmps15
  go_wp2
  go_end0
  obtain ⟨k1, g1⟩ := put0of6 Hc.out (S (buf.drop n))
  obtain ⟨k2, g2⟩ := put5of6 k1 (.int .u64 now)
  exact ⟨rfl, k2, g1.trans g2⟩
theorem cn_signal (w : World) : Calls Tryz.prog 42 #[S [47, 120]] w fun e w' => e = .returned (.int .u8 0) ∧ w = w' := by
  go_enter Tryz.func42, Tryz.ntmps42
  go_wp2
  go_ret
  exact ⟨rfl, rfl⟩
theorem box2' {w : World} {g : Nat} {x0 x1 : Value} {t : TypeId} (h : w.heap[g]? = some (.cells #[x0, x1] t (0, 0))) : w.frozen? ⟨g, 0, none⟩ = false ∧ w.frozen? ⟨g, 1, none⟩ = false := ⟨fz6 h 0, fz6 h 1⟩
theorem cn_read (w : World) (mth body : H.T) (v : Value) (hv : ∃ ad n cap, v = .slice ad n cap) :
    Calls Tryz.prog 25 #[.agg #[S mth, S [47, 120], v, S body]] w fun e w' => e = .returned (.tuple #[.agg #[.int .u8 0, .slice none 0 0], .int .i64 404]) ∧ Below w.heap.size w w' := by
  obtain ⟨ad, n, cap, rfl⟩ := hv
  obtain ⟨X, hX⟩ : ∃ X, X = (w.alloc (.cells #[S mth, S [47, 120], .slice ad n cap, S body] 50)).alloc (.cells #[.int .u8 0, .slice none 0 0] 40) := ⟨_, rfl⟩
  have hb : Below w.heap.size w X := by rw [hX]; exact ((Below.refl _ w).alloc (Nat.le_refl _) _).alloc (by simp) _
  have hx : X.heap[w.heap.size]? = some (.cells #[S mth, S [47, 120], .slice ad n cap, S body] 50 (0, 0)) := by rw [hX]; exact blk_alloc (blk_new w _) _
  have ho : X.heap[w.heap.size + 1]? = some (.cells #[.int .u8 0, .slice none 0 0] 40 (0, 0)) := by rw [hX]; exact blk_at (by simp)
  obtain ⟨a0, a1, a2, a3⟩ := box4 hx
  obtain ⟨o0, o1⟩ := box2 ho
  obtain ⟨f0, f1⟩ := box2' ho
  have hla := blk_lt hx
  have hlo := blk_lt ho
  have Ho := Lib.hid ho
  have Hb := Lib.hid hb
  clear hb hx ho
  have hsg := cn_signal X
  go_enter Tryz.func25, Tryz.ntmps25
  go_upto_region 1 with (fail)
  rw [← hX]
  clear hX
  go_wp2_with (refine hsg.mono ?_; rintro e w1 ⟨rfl, rfl⟩)
  obtain ⟨V, hV⟩ : ∃ V, V = (X.setCell ⟨w.heap.size + 1, 0, none⟩ (.int .u8 0)).setCell ⟨w.heap.size + 1, 1, none⟩ (.slice none 0 0) := ⟨_, rfl⟩
  rw [← hV]
  obtain ⟨hk, hg⟩ := put2 Ho.out _ _ hV
  obtain ⟨k0, k1⟩ := box2 hk
  clear hV o0 o1 f0 f1
  refine bodyPost_ret (by simp [results, Tryz.results25, go_sem, k0, k1]; try rfl) rfl ?_
  exact ⟨rfl, grown_below Hb.out hg (by omega) hlo⟩
set_option maxHeartbeats 4000000 in
theorem cn_look (w : World) (g : Nat) (c : Cn) (mth body s : H.T) (ad : Option Addr) (cap : Nat) (hW : WrC w 404 [] s) (hlen : c.out.length + s.length ≤ 1000000) (hc : w.heap[g]? = some (.cells c.cells 46 (0, 0))) :
    Calls Tryz.prog 16 #[.pointer (some ⟨g, 0, none⟩), .agg #[S mth, S [47, 120], .slice ad 0 cap, S body]] w fun e w' => e = .returned (.tuple #[.agg #[.int .u8 0, .slice none 0 0], .int .u8 1]) ∧ w'.heap[g]? = some (.cells (Cn.mk c.buf (c.out ++ s) c.closed c.busy c.last c.since).cells 46 (0, 0)) ∧ w.grownBy w' (some g) := by
  obtain ⟨X, hX⟩ : ∃ X, X = (w.alloc (.cells #[S mth, S [47, 120], .slice ad 0 cap, S body] 50)).alloc (.cells #[.int .u8 0, .slice none 0 0] 40) := ⟨_, rfl⟩
  have hb : Below w.heap.size w X := by rw [hX]; exact ((Below.refl _ w).alloc (Nat.le_refl _) _).alloc (by simp) _
  have hx : X.heap[w.heap.size]? = some (.cells #[S mth, S [47, 120], .slice ad 0 cap, S body] 50 (0, 0)) := by rw [hX]; exact blk_alloc (blk_new w _) _
  have ho : X.heap[w.heap.size + 1]? = some (.cells #[.int .u8 0, .slice none 0 0] 40 (0, 0)) := by rw [hX]; exact blk_at (by simp)
  have hlg := blk_lt hc
  have Hc := Lib.hid (blk_under hc hb)
  have Hx := Lib.hid hx
  have Ho := Lib.hid ho
  have Hb := Lib.hid hb
  have HW := Lib.hid hW
  have Hlen := Lib.hid hlen
  obtain ⟨a0, a1, a2, a3⟩ := box4 hx
  have hla := blk_lt hx
  have hlo := blk_lt ho
  have hfi : Calls Tryz.prog 24 #[.slice ad 0 cap, S [67, 111, 110, 110, 101, 99, 116, 105, 111, 110]] X fun e w' => e = .returned (.tuple #[S [], .bool false]) ∧ Below X.heap.size X w' := find_any X [] [67, 111, 110, 110, 101, 99, 116, 105, 111, 110] ad cap (fun h => absurd rfl h) (fun h hm => by cases hm) (by simp)
  have Hfi := Lib.hid hfi
  clear hb hx ho hc hW hlen hfi
  go_enter Tryz.func16, Tryz.ntmps16
  go_upto_region 1 with (fail)
  rw [← hX]
  clear hX
  go_wp2_with fail
  refine Hfi.out.mono ?_
  rintro e w1 ⟨rfl, h1⟩
  obtain ⟨a0, a1, a2, a3⟩ := box4 (blk_under Hx.out h1)
  have hrd := cn_read w1 mth body (.slice ad 0 cap) ⟨_, _, _, rfl⟩
  have H1 := Lib.hid h1
  have Hrd := Lib.hid hrd
  have hl1 := blk_lt (blk_under Hx.out h1)
  clear h1 hrd
  go_wp2_with fail
  refine Hrd.out.mono ?_
  rintro e w2 ⟨rfl, h2⟩
  obtain ⟨Z, hZ⟩ : ∃ Z, Z = w2.alloc (.cells #[.int .u8 0, .slice none 0 0] 40) := ⟨_, rfl⟩
  have hbZ : Below w2.heap.size w2 Z := by rw [hZ]; exact (Below.refl _ w2).alloc (Nat.le_refl _) _
  have hbXZ : Below X.heap.size X Z := (H1.out.trans (h2.mono H1.out.size)).trans (hbZ.mono (Nat.le_trans H1.out.size h2.size))
  have hbwZ : Below w.heap.size w Z := Hb.out.trans (hbXZ.mono Hb.out.size)
  have hre := cn_reply0 Z g c 404 s (by omega) (HW.out.under hbwZ) Hlen.out (blk_under Hc.out hbXZ)
  have Hre := Lib.hid hre
  have HoZ := Lib.hid (blk_under Ho.out hbXZ)
  have HbZ := Lib.hid hbwZ
  clear h2 hbZ hbXZ hbwZ hre a0 a1 a2 a3
  go_wp2_with fail
  rw [← hZ]
  clear hZ
  refine Hre.out.mono ?_
  rintro e w3 ⟨rfl, hk3, hg3⟩
  have hlZ := blk_lt HoZ.out
  have ho3 := (hg3.block (w.heap.size + 1) hlZ (by intro e; injection e with e; omega)).trans HoZ.out
  obtain ⟨o0, o1⟩ := box2 ho3
  obtain ⟨f0, f1⟩ := box2' ho3
  have hl3 := blk_lt ho3
  have Hk3 := Lib.hid hk3
  have Ho3 := Lib.hid ho3
  have Hg3 := Lib.hid ((below_grown HbZ.out (some g)).trans hg3)
  clear hk3 ho3 hg3
  go_wp2
  obtain ⟨V, hV⟩ : ∃ V, V = (w3.setCell ⟨w.heap.size + 1, 0, none⟩ (.int .u8 0)).setCell ⟨w.heap.size + 1, 1, none⟩ (.slice none 0 0) := ⟨_, rfl⟩
  rw [← hV]
  obtain ⟨hk, hg⟩ := put2 Ho3.out _ _ hV
  obtain ⟨k0, k1⟩ := box2 hk
  clear hV o0 o1 f0 f1
  refine bodyPost_ret (by simp [results, Tryz.results16, go_sem, k0, k1]; try rfl) rfl ?_
  have hl4 := blk_lt Hk3.out
  exact ⟨rfl, (hg.block g hl4 (by intro e; injection e with e; omega)).trans Hk3.out, hg.os.trans Hg3.out.os, hg.tape.trans Hg3.out.tape, hg.output.trans Hg3.out.output, Nat.le_trans Hg3.out.size hg.size, fun k hk hne => (hg.block k (Nat.lt_of_lt_of_le hk Hg3.out.size) (by intro e; injection e with e; omega)).trans (Hg3.out.block k hk hne)⟩
end Go.Proofs.YtomicdkmbgckkaaGreatDoor
