/- ARGUMENTS OPENED: disks, steps, numbers. -/
import Derived.Test.YtkhmdofeonlnpaaGreatDoorGaw
import Derived.ProofKit
import Derived.OpenShut
import Derived.Deep.Slices
import Derived.Deep.Fields
import Derived.Deep.Strs
import Derived.ChangeSame
import Derived.Lib.SmallJoins
import Derived.SizedLaws
import Derived.ShutString
namespace Go.Proofs.YtkhmdofeonlnpaaGreatDoor
open Go.RowKit Go.ChangeShapes Go.WideShapes Go.Deep Joins
set_option maxRecDepth 100000
set_option linter.unusedVariables false
set_option linter.unusedSimpArgs false

theorem Tryz.cells107 : Tryz.prog.cellsOf 107 = 3 := by kernel_rfl
theorem Tryz.cells24 : Tryz.prog.cellsOf 24 = 4 := by kernel_rfl
theorem Tryz.cells182 : Tryz.prog.cellsOf 182 = 4 := by kernel_rfl
theorem Tryz.cells9 : Tryz.prog.cellsOf 9 = 1 := by kernel_rfl
theorem Tryz.cells3 : Tryz.prog.cellsOf 3 = 1 := by kernel_rfl
theorem list_choose {α : Type} {P : Nat → α → Prop} : ∀ n, (∀ i, i < n → ∃ x, P i x) → ∃ l : List α, l.length = n ∧ ∀ i x, l[i]? = some x → P i x := by
  intro n
  induction n with
  | zero => intro _; exact ⟨[], rfl, fun i x h => by simp at h⟩
  | succ n ih =>
    intro h
    obtain ⟨l, hl, hp⟩ := ih fun i hi => h i (by omega)
    obtain ⟨x, hx⟩ := h n (by omega)
    refine ⟨l ++ [x], by simp [hl], fun i y hy => ?_⟩
    by_cases hi : i < n
    · rw [List.getElem?_append_left (by omega)] at hy; exact hp i y hy
    · have hin : i < (l ++ [x]).length := (List.getElem?_eq_some_iff.1 hy).1
      have e : i = n := by simp at hin; omega
      subst e
      rw [List.getElem?_append_right (by omega), hl] at hy
      simp at hy
      subst hy
      exact hx
theorem list3 {l : List Value} (h : l.length = 3) : ∃ a b c, l = [a, b, c] := by
  match l, h with
  | [a, b, c], _ => exact ⟨a, b, c, rfl⟩
section
variable {H : Type} {enc : TypeId × Value → H} {w : World}
theorem open_nums {base : Nat} {v : Value} {d : DataW H} {p : List MemPlace} (hv : Value.okWide Tryz.prog w .any base 47 v) (h : DataW.Trod enc Tryz.prog w 0 (fun _ => true) true 47 v d p) :
    ∃ ad n cap ks, v = .slice ad n cap ∧ n = ks.length ∧ Ints w w.heap.size ad ks ∧ n ≤ 9223372036854775807 := by
  obtain ⟨ad, len, cap, rfl⟩ := okWide_slice Tryz.underlying47 hv
  obtain ⟨fuel, hf⟩ := h
  rcases Deep.open_slice Tryz.underlying47 hf with ⟨hcs, _⟩ | ⟨a, len', cap', m, n, D, Pl, hcs, _, hl, hm, hmm, _, hi⟩
  · simp [Value.cells] at hcs
    obtain ⟨rfl, rfl, rfl⟩ := hcs
    exact ⟨none, 0, 0, [], rfl, rfl, Ints.nil _ _ _, by omega⟩
  · simp [Value.cells] at hcs
    obtain ⟨rfl, rfl, rfl⟩ := hcs
    simp only [if_true] at hmm
    subst hmm
    rw [Tryz.cells3] at hi
    by_cases h0 : len = 0
    · subst h0
      exact ⟨_, 0, _, [], rfl, rfl, Ints.nil _ _ _, by omega⟩
    obtain ⟨b, off, spot⟩ := a
    have hs : spot = none := by
      obtain ⟨cs', hc, _⟩ := hi 0 (by omega)
      obtain ⟨_, hlc, hcell⟩ := World.cells?_some hc
      have hc0 := hcell 0 (by omega)
      have he : cs'[0]? = some (cs'[0]'(by omega)) := by simp
      rw [he] at hc0
      simpa [Addr.add] using World.cell?_spot hc0
    subst hs
    have hP : ∀ i, i < len → ∃ k : Int, (-9223372036854775808 ≤ k ∧ k ≤ 9223372036854775807) ∧ b < w.heap.size ∧ w.cell? ⟨b, off + i, none⟩ = some (.int .i64 k) := by
      intro i hil
      obtain ⟨cs', hc, ht⟩ := hi i (by omega)
      obtain ⟨k, e, _, wk⟩ := DataW.trod_int Tryz.underlying3 ht
      subst e
      obtain ⟨_, _, hcell⟩ := World.cells?_some hc
      have hc0 := hcell 0 (by omega)
      simp only [Addr.add_lit, Nat.mul_one, Nat.add_zero] at hc0
      exact ⟨k, bounds_i64 wk, World.block_lt_of_cell? w _ hc0, hc0⟩
    obtain ⟨ks, hkl, hks⟩ := list_choose len hP
    refine ⟨_, _, _, ks, rfl, hkl.symm, ⟨fun k hk => ?_, fun hne => ?_⟩, by simp only [maxLen] at hm; omega⟩
    · obtain ⟨i, hi'⟩ := List.getElem?_of_mem hk
      exact (hks i k hi').1
    · have h0 : 0 < ks.length := List.length_pos_iff.2 hne
      obtain ⟨_, hb, _⟩ := hks 0 ks[0] (by simp)
      exact ⟨b, off, rfl, hb, fun i k hk => (hks i k hk).2.2⟩
end
end Go.Proofs.YtkhmdofeonlnpaaGreatDoor
