/- ARGUMENTS OPENED: disks, steps, numbers. -/
import Derived.Test.YtlgbehagflnfgaaGreatDoorGda
import Derived.ProofKit
import Derived.OpenShut
import Derived.Deep.Slices
import Derived.Deep.Fields
import Derived.Deep.Strs
import Derived.ChangeSame
import Derived.Lib.SmallJoins
import Derived.SizedLaws
import Derived.ShutString
namespace Go.Proofs.YtlgbehagflnfgaaGreatDoor
open Go.RowKit Go.ChangeShapes Go.WideShapes Go.Deep Joins
set_option maxRecDepth 100000
set_option linter.unusedVariables false
set_option linter.unusedSimpArgs false

theorem Tryz.cells94 : Tryz.prog.cellsOf 94 = 3 := by kernel_rfl
theorem Tryz.cells24 : Tryz.prog.cellsOf 24 = 4 := by kernel_rfl
theorem Tryz.cells150 : Tryz.prog.cellsOf 150 = 4 := by kernel_rfl
theorem Tryz.cells9 : Tryz.prog.cellsOf 9 = 1 := by kernel_rfl
theorem Tryz.cells3 : Tryz.prog.cellsOf 3 = 1 := by kernel_rfl
theorem list_choose {α : Type} {P : Nat → α → Prop} : ∀ n, (∀ i, i < n → ∃ x, P i x) → ∃ l : List α, l.length = n ∧ ∀ i x, l[i]? = some x → P i x := by
  intro n
  induction n with
  | zero => intro _; exact ⟨[], rfl, fun i x h => by simp at h⟩
  | succ n ih =>
    intro h
    obtain ⟨l, hl, hp⟩ := ih fun i hi => h i (by omega)
    obtain ⟨x, hx⟩ := h n (by omega)
    refine ⟨l ++ [x], by simp [hl], fun i y hy => ?_⟩
    by_cases hi : i < n
    · rw [List.getElem?_append_left (by omega)] at hy; exact hp i y hy
    · have hin : i < (l ++ [x]).length := (List.getElem?_eq_some_iff.1 hy).1
      have e : i = n := by simp at hin; omega
      subst e
      rw [List.getElem?_append_right (by omega), hl] at hy
      simp at hy
      subst hy
      exact hx
theorem list3 {l : List Value} (h : l.length = 3) : ∃ a b c, l = [a, b, c] := by
  match l, h with
  | [a, b, c], _ => exact ⟨a, b, c, rfl⟩
section
variable {H : Type} {enc : TypeId × Value → H} {w : World}
theorem open_file {base : Nat} {spare : Nat → Bool} {held : Bool} {fuel : Nat} {cs : List Value} {x : DataW H × List MemPlace} (h : DataW.trod enc Tryz.prog w base spare held fuel 94 cs = some x) :
    ∃ f : F, Fit f ∧ cs = fc f := by
  obtain ⟨y0, y1, y2, n, hx, hlen, h0, h1, h2⟩ := Deep.trod_struct3 Tryz.underlying94 h
  rw [Tryz.cells94] at hlen
  obtain ⟨c0, c1, c2, rfl⟩ := list3 hlen
  simp [Tryz.cells3, Tryz.cells9] at h0 h1 h2
  obtain ⟨s0, e0, _, w0⟩ := DataW.trod_string Tryz.underlying9 h0
  obtain ⟨s1, e1, _, w1⟩ := DataW.trod_string Tryz.underlying9 h1
  obtain ⟨n2, e2, _, w2⟩ := DataW.trod_int Tryz.underlying3 h2
  simp only [List.cons.injEq, and_true] at e0 e1 e2
  subst e0 e1 e2
  have b2 := bounds_i64 w2
  exact ⟨⟨s0, s1, n2⟩, ⟨by simpa [maxLen] using w0, by simpa [maxLen] using w1, b2.1, b2.2⟩, rfl⟩
theorem open_files {fuel : Nat} {v : Value} {x : DataW H × List MemPlace} (h : DataW.trod enc Tryz.prog w 0 (fun _ => true) true fuel 22 [v] = some x) :
    ∃ ad n cap fs, v = .slice ad n cap ∧ Inp w w.heap.size ad n cap fs ∧ ∀ f ∈ fs, Fit f := by
  rcases Deep.open_slice Tryz.underlying22 h with ⟨hcs, _⟩ | ⟨a, len, cap, m, n, D, Pl, hcs, _, hl, hm, hmm, _, hi⟩
  · simp at hcs
    subst hcs
    exact ⟨none, 0, 0, [], rfl, Inp.nil _ _, fun f hf => by cases hf⟩
  · simp at hcs
    subst hcs
    simp only [if_true] at hmm
    subst hmm
    rw [Tryz.cells94] at hi
    by_cases h0 : len = 0
    · subst h0
      exact ⟨_, 0, _, [], rfl, ⟨rfl, hl, (fun h => by cases h), Fls.nil _ _ _⟩, fun f hf => by cases hf⟩
    obtain ⟨b, off, spot⟩ := a
    have hs : spot = none := by
      obtain ⟨cs', hc, _⟩ := hi 0 (by omega)
      obtain ⟨_, hlc, hcell⟩ := World.cells?_some hc
      have hc0 := hcell 0 (by omega)
      have he : cs'[0]? = some (cs'[0]'(by omega)) := by simp
      rw [he] at hc0
      simpa [Addr.add] using World.cell?_spot hc0
    subst hs
    have hP : ∀ i, i < len → ∃ f : F, Fit f ∧ b < w.heap.size ∧ At3 w b off i f := by
      intro i hil
      obtain ⟨cs', hc, ht⟩ := hi i (by omega)
      obtain ⟨f, hfit, rfl⟩ := open_file ht
      obtain ⟨_, _, hcell⟩ := World.cells?_some hc
      have hc0 := hcell 0 (by omega)
      have hc1 := hcell 1 (by omega)
      have hc2 := hcell 2 (by omega)
      simp only [Addr.add_lit] at hc0 hc1 hc2
      exact ⟨f, hfit, World.block_lt_of_cell? w _ hc0, hc0, hc1, hc2⟩
    obtain ⟨fs, hfl, hfs⟩ := list_choose len hP
    refine ⟨_, _, _, fs, rfl, ⟨hfl.symm, hl, (fun h => by cases h), fun hne => ?_⟩, fun f hf => ?_⟩
    · have h0 : 0 < fs.length := List.length_pos_iff.2 hne
      obtain ⟨_, hb, _⟩ := hfs 0 fs[0] (by simp)
      exact ⟨b, off, rfl, hb, fun i f hf => (hfs i f hf).2.2⟩
    · obtain ⟨i, hi'⟩ := List.getElem?_of_mem hf
      exact (hfs i f hi').1
set_option maxRecDepth 100000 in
theorem open_disk {r : Reach} {b0 : Nat} {v : Value} {d : DataW H} {p : List MemPlace} (hv : Value.okWide Tryz.prog w r b0 24 v) (h : DataW.Trod enc Tryz.prog w 0 (fun _ => true) true 24 v d p) :
    ∃ ad n cap down fuse fault fs, v = .agg (dcells (.slice ad n cap) down fuse fault) ∧ DIn w ad n cap fuse fault fs := by
  obtain ⟨v0, v1, v2, v3, y0, y1, y2, y3, n, rfl, _, _, h0, h1, h2, h3⟩ := Joins.open_agg4 Tryz.underlying24 (by kernel_rfl) Tryz.cells24 hv h
  obtain ⟨ad, m, cap, fs, rfl, hi, hfit⟩ := open_files h0
  obtain ⟨b, e1, _, _⟩ := DataW.trod_bool Tryz.underlying4 h1
  obtain ⟨n2, e2, _, w2⟩ := DataW.trod_int Tryz.underlying3 h2
  obtain ⟨n3, e3, _, w3⟩ := DataW.trod_int Tryz.underlying3 h3
  simp only [List.cons.injEq, and_true] at e1 e2 e3
  subst e1 e2 e3
  have b2 := bounds_i64 w2
  have b3 := bounds_i64 w3
  exact ⟨ad, m, cap, b, n2, n3, fs, rfl, hi, hfit, b2.1, b2.2, b3.1, b3.2⟩
set_option maxRecDepth 100000 in
theorem open_step {r : Reach} {b0 : Nat} {v : Value} {d : DataW H} {p : List MemPlace} (hv : Value.okWide Tryz.prog w r b0 150 v) (h : DataW.Trod enc Tryz.prog w 0 (fun _ => true) true 150 v d p) :
    ∃ k nm dt z, v = .agg (scells k nm dt z) ∧ nm.size ≤ 9223372036854775807 ∧ dt.size ≤ 9223372036854775807 ∧ 0 ≤ k ∧ k ≤ 255 ∧ -9223372036854775808 ≤ z ∧ z ≤ 9223372036854775807 := by
  obtain ⟨v0, v1, v2, v3, y0, y1, y2, y3, n, rfl, _, _, h0, h1, h2, h3⟩ := Joins.open_agg4 Tryz.underlying150 (by kernel_rfl) Tryz.cells150 hv h
  obtain ⟨k, e0, _, w0⟩ := DataW.trod_int Tryz.underlying148 h0
  obtain ⟨s1, e1, _, w1⟩ := DataW.trod_string Tryz.underlying9 h1
  obtain ⟨s2, e2, _, w2⟩ := DataW.trod_string Tryz.underlying9 h2
  obtain ⟨z, e3, _, w3⟩ := DataW.trod_int Tryz.underlying3 h3
  simp only [List.cons.injEq, and_true] at e0 e1 e2 e3
  subst e0 e1 e2 e3
  have b0 := bounds_u8 w0
  have b3 := bounds_i64 w3
  exact ⟨k, s1, s2, z, rfl, by simpa [maxLen] using w1, by simpa [maxLen] using w2, b0.1, b0.2, b3.1, b3.2⟩
theorem open_nums {base : Nat} {v : Value} {d : DataW H} {p : List MemPlace} (hv : Value.okWide Tryz.prog w .any base 47 v) (h : DataW.Trod enc Tryz.prog w 0 (fun _ => true) true 47 v d p) :
    ∃ ad n cap ks, v = .slice ad n cap ∧ n = ks.length ∧ Ints w w.heap.size ad ks ∧ n ≤ 9223372036854775807 := by
  obtain ⟨ad, len, cap, rfl⟩ := okWide_slice Tryz.underlying47 hv
  obtain ⟨fuel, hf⟩ := h
  rcases Deep.open_slice Tryz.underlying47 hf with ⟨hcs, _⟩ | ⟨a, len', cap', m, n, D, Pl, hcs, _, hl, hm, hmm, _, hi⟩
  · simp [Value.cells] at hcs
    obtain ⟨rfl, rfl, rfl⟩ := hcs
    exact ⟨none, 0, 0, [], rfl, rfl, Ints.nil _ _ _, by omega⟩
  · simp [Value.cells] at hcs
    obtain ⟨rfl, rfl, rfl⟩ := hcs
    simp only [if_true] at hmm
    subst hmm
    rw [Tryz.cells3] at hi
    by_cases h0 : len = 0
    · subst h0
      exact ⟨_, 0, _, [], rfl, rfl, Ints.nil _ _ _, by omega⟩
    obtain ⟨b, off, spot⟩ := a
    have hs : spot = none := by
      obtain ⟨cs', hc, _⟩ := hi 0 (by omega)
      obtain ⟨_, hlc, hcell⟩ := World.cells?_some hc
      have hc0 := hcell 0 (by omega)
      have he : cs'[0]? = some (cs'[0]'(by omega)) := by simp
      rw [he] at hc0
      simpa [Addr.add] using World.cell?_spot hc0
    subst hs
    have hP : ∀ i, i < len → ∃ k : Int, (-9223372036854775808 ≤ k ∧ k ≤ 9223372036854775807) ∧ b < w.heap.size ∧ w.cell? ⟨b, off + i, none⟩ = some (.int .i64 k) := by
      intro i hil
      obtain ⟨cs', hc, ht⟩ := hi i (by omega)
      obtain ⟨k, e, _, wk⟩ := DataW.trod_int Tryz.underlying3 ht
      subst e
      obtain ⟨_, _, hcell⟩ := World.cells?_some hc
      have hc0 := hcell 0 (by omega)
      simp only [Addr.add_lit, Nat.mul_one, Nat.add_zero] at hc0
      exact ⟨k, bounds_i64 wk, World.block_lt_of_cell? w _ hc0, hc0⟩
    obtain ⟨ks, hkl, hks⟩ := list_choose len hP
    refine ⟨_, _, _, ks, rfl, hkl.symm, ⟨fun k hk => ?_, fun hne => ?_⟩, by simp only [maxLen] at hm; omega⟩
    · obtain ⟨i, hi'⟩ := List.getElem?_of_mem hk
      exact (hks i k hi').1
    · have h0 : 0 < ks.length := List.length_pos_iff.2 hne
      obtain ⟨_, hb, _⟩ := hks 0 ks[0] (by simp)
      exact ⟨b, off, rfl, hb, fun i k hk => (hks i k hk).2.2⟩
end
end Go.Proofs.YtlgbehagflnfgaaGreatDoor
