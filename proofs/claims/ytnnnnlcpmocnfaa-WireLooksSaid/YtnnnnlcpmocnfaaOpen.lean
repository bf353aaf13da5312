/- AN ARGUMENT THAT IS A SLICE OF FIELDS, OPENED TO ITS FIELDS. -/
import Derived.Test.YtnnnnlcpmocnfaaRow
import Derived.ProofKit
import Derived.OpenShut
import Derived.Deep.Slices
import Derived.Deep.Fields
import Derived.ChangeSame
import Derived.Lib.SmallJoins
namespace Go.Proofs.Ytnnnnlcpmocnfaa
open Go.RowKit Go.ChangeShapes Go.WideShapes Go.Deep
set_option linter.unusedVariables false
set_option linter.unusedSimpArgs false

theorem Try.cells39 : Try.prog.cellsOf 39 = 4 := by kernel_rfl

theorem list_choose {α : Type} {P : Nat → α → Prop} : ∀ n, (∀ i, i < n → ∃ x, P i x) → ∃ l : List α, l.length = n ∧ ∀ i x, l[i]? = some x → P i x := by
  intro n
  induction n with
  | zero => intro _; exact ⟨[], rfl, fun i x h => by simp at h⟩
  | succ n ih =>
    intro h
    obtain ⟨l, hl, hp⟩ := ih fun i hi => h i (by omega)
    obtain ⟨x, hx⟩ := h n (by omega)
    refine ⟨l ++ [x], by simp [hl], fun i y hy => ?_⟩
    by_cases hi : i < n
    · rw [List.getElem?_append_left (by omega)] at hy; exact hp i y hy
    · have hin : i < (l ++ [x]).length := (List.getElem?_eq_some_iff.1 hy).1
      have e : i = n := by simp at hin; omega
      subst e
      rw [List.getElem?_append_right (by omega), hl] at hy
      simp at hy
      subst hy
      exact hx

section
variable {H : Type} {enc : TypeId × Value → H} {w : World}
theorem list4 {l : List Value} (h : l.length = 4) : ∃ a b c d, l = [a, b, c, d] := by
  match l, h with
  | [a, b, c, d], _ => exact ⟨a, b, c, d, rfl⟩
theorem Try.cells3 : Try.prog.cellsOf 3 = 1 := by kernel_rfl
theorem Try.cells37 : Try.prog.cellsOf 37 = 1 := by kernel_rfl
theorem Try.cells22 : Try.prog.cellsOf 22 = 1 := by kernel_rfl
theorem Try.cells9 : Try.prog.cellsOf 9 = 1 := by kernel_rfl
/-- one element: its cells, and that its numbers fit -/
theorem open_field {base : Nat} {spare : Nat → Bool} {held : Bool} {fuel : Nat} {cs : List Value} {x : DataW H × List MemPlace} (h : DataW.trod enc Try.prog w base spare held fuel 39 cs = some x) :
    ∃ f a b c l, Fit f a b c l ∧ cs = [.int .i64 a, .int .u8 b, .int .u64 c, .string ⟨l.toArray⟩] := by
  obtain ⟨y0, y1, y2, y3, n, hx, hlen, h0, h1, h2, h3⟩ := Joins.trod_struct4 Try.underlying39 h
  rw [Try.cells39] at hlen
  obtain ⟨c0, c1, c2, c3, rfl⟩ := list4 hlen
  simp [Try.cells3, Try.cells37, Try.cells22, Try.cells9] at h0 h1 h2 h3
  obtain ⟨na, e0, _, wa⟩ := DataW.trod_int Try.underlying3 h0
  obtain ⟨nb, e1, _, wb⟩ := DataW.trod_int Try.underlying37 h1
  obtain ⟨nc, e2, _, wc⟩ := DataW.trod_int Try.underlying22 h2
  obtain ⟨s, e3, _, ws⟩ := DataW.trod_string Try.underlying9 h3
  simp only [List.cons.injEq, and_true] at e0 e1 e2 e3
  subst e0 e1 e2 e3
  obtain ⟨l, rfl⟩ : ∃ l : List UInt8, s = ⟨l.toArray⟩ := ⟨s.data.toList, by cases s; simp⟩
  have ba := bounds_i64 wa
  have bb := bounds_u8 wb
  have bc := bounds_u64 wc
  exact ⟨⟨na, nb.toNat, nc.toNat, l⟩, na, nb, nc, l, ⟨rfl, bb.1, bb.2, bc.1, bc.2, ba.1, ba.2, by simpa [ByteArray.size, maxLen] using ws⟩, rfl⟩
theorem open_fds {v : Value} {d : DataW H} {p : List MemPlace} {base : Nat} (hv : Value.okWide Try.prog w .any base 31 v) (h : DataW.Trod enc Try.prog w 0 (fun _ => true) true 31 v d p) :
    ∃ ad n cap fs, v = .slice ad n cap ∧ n = fs.length ∧ Flds w w.heap.size ad fs := by
  obtain ⟨ad, len, cap, rfl⟩ := okWide_slice Try.underlying31 hv
  obtain ⟨fuel, hf⟩ := h
  rcases Deep.open_slice Try.underlying31 hf with ⟨hcs, _⟩ | ⟨a, len', cap', m, n, D, Pl, hcs, _, hl, hm, hmm, _, hi⟩
  · simp [Value.cells] at hcs
    obtain ⟨rfl, rfl, rfl⟩ := hcs
    exact ⟨none, 0, 0, [], rfl, rfl, by simp, fun h => absurd rfl h⟩
  · simp [Value.cells] at hcs
    obtain ⟨rfl, rfl, rfl⟩ := hcs
    simp only [if_true] at hmm
    subst hmm
    rw [Try.cells39] at hi
    by_cases h0 : len = 0
    · subst h0
      exact ⟨_, 0, _, [], rfl, rfl, by simp, fun h => absurd rfl h⟩
    obtain ⟨b, off, spot⟩ := a
    have hs : spot = none := by
      obtain ⟨cs', hc, _⟩ := hi 0 (by omega)
      obtain ⟨_, hlc, hcell⟩ := World.cells?_some hc
      have hc0 := hcell 0 (by omega)
      have he : cs'[0]? = some (cs'[0]'(by omega)) := by simp
      rw [he] at hc0
      simpa [Addr.add] using World.cell?_spot hc0
    subst hs
    have hP : ∀ i, i < len → ∃ f : M.Fd, b < w.heap.size ∧ ∃ x y z l, Fit f x y z l ∧ At4 w b off i x y z l := by
      intro i hil
      obtain ⟨cs', hc, ht⟩ := hi i (by omega)
      obtain ⟨f, x, y, z, l, hfit, rfl⟩ := open_field ht
      obtain ⟨_, _, hcell⟩ := World.cells?_some hc
      have hc0 := hcell 0 (by omega)
      have hc1 := hcell 1 (by omega)
      have hc2 := hcell 2 (by omega)
      have hc3 := hcell 3 (by omega)
      simp only [Addr.add_lit] at hc0 hc1 hc2 hc3
      have hb := World.block_lt_of_cell? w _ hc0
      exact ⟨f, hb, x, y, z, l, hfit, hc0, hc1, hc2, hc3⟩
    obtain ⟨fs, hfl, hfs⟩ := list_choose len hP
    refine ⟨_, _, _, fs, rfl, hfl.symm, by simp only [maxLen] at hm; omega, fun hne => ?_⟩
    have h0 : 0 < fs.length := List.length_pos_iff.2 hne
    obtain ⟨hb, _⟩ := hfs 0 fs[0] (by simp)
    exact ⟨b, off, rfl, hb, fun i f hf => (hfs i f hf).2⟩
end
end Go.Proofs.Ytnnnnlcpmocnfaa
