/- QUEUE: the package's variables, from what the row lists; texts that came in. -/
import Derived.Test.YtkhmdofeonlnpaaGreatDoorGax
import Derived.Test.YtkhmdofeonlnpaaGreatDoorRows
import Derived.Lib.LaidU8
import Derived.LaidLaws
import Derived.SliceStrings
import Derived.LaidMore
namespace Go.Proofs.YtkhmdofeonlnpaaGreatDoor
open Go.RowKit Go.ChangeShapes Go.WideShapes Go.Deep Joins
set_option linter.unusedVariables false
set_option linter.unusedSimpArgs false
set_option maxRecDepth 100000
def nibZ : List Int := (List.range 16).map fun i => (nib i : Int)
theorem nib_data : (Rows.laid_penstock_segment_nibbles : DataW Unit) = Lib.tabData .u32 nibZ := by rfl
theorem iface_at {w : World} {name tn : String} {g : Nat} {d : DataW Unit} (hg : Tryz.prog.globalNamed name = some g) (hty : (Tryz.prog.globals[g]?).map (·.type) = some 241) (h : Lib.VarReads Tryz.prog w name (.iface tn d)) : ∃ te pe, w.cell? ⟨g, 0, none⟩ = some (.iface te pe) := by
  obtain ⟨g', t, cs, fuel, p, h1, h2, h3, h4⟩ := h
  obtain rfl := Option.some.inj (hg.symm.trans h1)
  obtain rfl := Option.some.inj (hty.symm.trans h2)
  obtain ⟨_, u, v, e, _, _⟩ := iface_of_trod (ms := #[("Error", 203)]) (by kernel_rfl) h4
  refine ⟨u, v, ?_⟩
  have h5 : w.var? Tryz.prog name = some ([Value.iface u v]).toArray := by rw [h3, ← e]
  have := World.var?_cell hg h5 0
  simpa using this
theorem seg_tabs {w : World} {l : List (String × DataW Unit)} (h : laidMet Tryz.prog l w) (h0 : ("penstock/segment.nibbles", Rows.laid_penstock_segment_nibbles) ∈ l)
    (h2 : ("strconv.ErrSyntax", Rows.laid_strconv_ErrSyntax) ∈ l) (h3 : ("strconv.ErrRange", Rows.laid_strconv_ErrRange) ∈ l) (h9 : ("internal/strconv.uint64pow10", Rows.laid_internal_strconv_uint64pow10) ∈ l) : Tabs w := by
  have e2 := iface_at (g := 3) (by kernel_rfl) (by kernel_rfl) (Lib.laidMet.reads h h2)
  have e3 := iface_at (g := 4) (by kernel_rfl) (by kernel_rfl) (Lib.laidMet.reads h h3)
  refine ⟨fun i hi => ?_, e2, e3, ?_⟩
  · obtain ⟨g', t, cs, fuel, p, h1, h2, h3, h4⟩ := Lib.laidMet.reads h h0
    have hg : Tryz.prog.globalNamed "penstock/segment.nibbles" = some 5 := by kernel_rfl
    have hty : (Tryz.prog.globals[5]?).map (·.type) = some 290 := by kernel_rfl
    obtain rfl := Option.some.inj (hg.symm.trans h1)
    obtain rfl := Option.some.inj (hty.symm.trans h2)
    rw [nib_data] at h4
    have e := Lib.cells_of_tab (n := 16) (e := 224) (by kernel_rfl) (by kernel_rfl) (by kernel_rfl) (by kernel_rfl) h4
    have ht : Lib.TabIs Tryz.prog w "penstock/segment.nibbles" .u32 nibZ := by unfold Lib.TabIs; rw [h3, ← e]
    have := ht.cell hg i (by simp [nibZ]; exact hi)
    rw [this]
    simp [nibZ, hi]
  · obtain ⟨g', t, cs, fuel, p, h1, h2, h3, h4⟩ := Lib.laidMet.reads h h9
    have hg : Tryz.prog.globalNamed "internal/strconv.uint64pow10" = some 6 := by kernel_rfl
    obtain rfl := Option.some.inj (hg.symm.trans h1)
    have h5 := h3
    simp only [World.var?, hg, Option.bind_some] at h5
    split at h5
    · rename_i hh
      have := (Array.getElem?_eq_some_iff.1 hh).1
      omega
    · cases h5
section
variable {H : Type} {enc : TypeId × Value → H} {w : World}
theorem open_texts {base : Nat} {v : Value} {d : DataW H} {p : List MemPlace} (hv : Value.okWide Tryz.prog w .any base 46 v) (h : DataW.Trod enc Tryz.prog w 0 (fun _ => true) true 46 v d p) :
    ∃ ad n cap ss, v = .slice ad n cap ∧ n = ss.length ∧ Strs w w.heap.size ad ss ∧ n ≤ 9223372036854775807 ∧ ∀ s ∈ ss, s.size ≤ 9223372036854775807 := by
  obtain ⟨ad, len, cap, rfl⟩ := okWide_slice Tryz.underlying46 hv
  obtain ⟨fuel, hf⟩ := h
  rcases open_strings Tryz.underlying46 Tryz.underlying9 (by kernel_rfl) hf with ⟨hcs, _⟩ | ⟨a, len', cap', ss, hcs, _, hl, hm, hz, _, hcell, hsz⟩
  · simp [Value.cells] at hcs
    obtain ⟨rfl, rfl, rfl⟩ := hcs
    exact ⟨none, 0, 0, [], rfl, rfl, fun h => absurd rfl h, by omega, fun s hs => by cases hs⟩
  · simp [Value.cells] at hcs
    obtain ⟨rfl, rfl, rfl⟩ := hcs
    simp only [if_true] at hz
    simp only [maxLen] at hm
    refine ⟨some a, len, cap, ss.take len, rfl, by rw [List.length_take]; omega, fun hne => ?_, by omega, fun s hs => ?_⟩
    · have h0 : 0 < ss.length := by
        rcases Nat.eq_zero_or_pos ss.length with e | e
        · rw [List.eq_nil_of_length_eq_zero e] at hne; simp at hne
        · exact e
      obtain ⟨b, off, spot⟩ := a
      have hc0 := hcell 0 h0
      have hs : spot = none := by simpa [Addr.add] using World.cell?_spot hc0
      subst hs
      refine ⟨b, off, rfl, World.block_lt_of_cell? w _ hc0, fun i s hi => ?_⟩
      have h2 : ss[i]? = some s := by
        rw [List.getElem?_take] at hi
        split at hi
        · exact hi
        · cases hi
      have hil : i < ss.length := (List.getElem?_eq_some_iff.1 h2).1
      have := hcell i hil
      rw [Addr.add_lit] at this
      rw [this]
      simp [List.getD, h2]
    · have := hsz s (List.mem_of_mem_take hs)
      simpa [maxLen] using this
end
end Go.Proofs.YtkhmdofeonlnpaaGreatDoor

/- QUEUE: ARGUMENTS OPENED: queues, steps. -/
namespace Go.Proofs.YtkhmdofeonlnpaaGreatDoor
open Go.RowKit Go.ChangeShapes Go.WideShapes Go.Deep Joins
set_option linter.unusedVariables false
set_option linter.unusedSimpArgs false
set_option maxRecDepth 100000

theorem Tryz.cells39 : Tryz.prog.cellsOf 39 = 3 := by kernel_rfl
theorem Tryz.cells25 : Tryz.prog.cellsOf 25 = 1 := by kernel_rfl
theorem Tryz.cells4 : Tryz.prog.cellsOf 4 = 1 := by kernel_rfl
theorem Tryz.cells22 : Tryz.prog.cellsOf 22 = 1 := by kernel_rfl
theorem Tryz.cells28 : Tryz.prog.cellsOf 28 = 1 := by kernel_rfl
theorem Tryz.cells27' : Tryz.prog.cellsOf 27 = 8 := by kernel_rfl
theorem Tryz.cells30 : Tryz.prog.cellsOf 30 = 10 := by kernel_rfl
theorem Tryz.cells33 : Tryz.prog.cellsOf 33 = 3 := by kernel_rfl
theorem list10 {l : List Value} (h : l.length = 10) : ∃ a b c d e f g i j k, l = [a, b, c, d, e, f, g, i, j, k] := by
  match l, h with
  | [a, b, c, d, e, f, g, i, j, k], _ => exact ⟨a, b, c, d, e, f, g, i, j, k, rfl⟩
section
variable {H : Type} {enc : TypeId × Value → H} {w : World}
end
end Go.Proofs.YtkhmdofeonlnpaaGreatDoor

/- QUEUE: texts that came in, and the form's own reach. -/
namespace Go.Proofs.YtkhmdofeonlnpaaGreatDoor
open Go.RowKit Go.ChangeShapes Go.WideShapes Go.Deep Joins
set_option linter.unusedVariables false
set_option linter.unusedSimpArgs false
set_option maxRecDepth 100000
section
variable {H : Type} {enc : TypeId × Value → H} {w : World}
theorem weights_strs : ∀ {l : List ByteArray} {s : ByteArray}, s ∈ l → s.size ∈ DataW.weightsAll Tryz.prog 9 (strs (H := H) l)
  | a :: t, s, h => by
    show s.size ∈ DataW.weightsAll Tryz.prog 9 (_ :: strs (H := H) t)
    rw [DataW.weightsAll, List.mem_append]
    rcases List.mem_cons.1 h with e | e
    · subst e; left; simp [DataW.weights]
    · exact .inr (weights_strs e)
theorem open_texts_wt {base : Nat} {v : Value} {d : DataW H} {p : List MemPlace} (hv : Value.okWide Tryz.prog w .any base 46 v) (h : DataW.Trod enc Tryz.prog w 0 (fun _ => true) true 46 v d p) (hw : ∀ k ∈ d.weights Tryz.prog 46, k ≤ reachBytes) :
    ∃ ad n cap ss, v = .slice ad n cap ∧ n = ss.length ∧ Strs w w.heap.size ad ss ∧ n ≤ 9223372036854775807 ∧ ∀ s ∈ ss, s.size ≤ 9223372036854775000 := by
  have h2 := h
  obtain ⟨ad, n, cap, ss, rfl, h3, h4, h5, h6⟩ := open_texts hv h
  refine ⟨ad, n, cap, ss, rfl, h3, h4, h5, fun s hs => ?_⟩
  obtain ⟨fuel, hf⟩ := h2
  rcases open_strings Tryz.underlying46 Tryz.underlying9 (by kernel_rfl) hf with ⟨hcs, _⟩ | ⟨a, len', cap', ss2, hcs, _, hl, hm, hz, hx, hcell, hsz⟩
  · simp [Value.cells] at hcs
    obtain ⟨rfl, rfl, rfl⟩ := hcs
    rw [List.length_eq_zero_iff.1 h3.symm] at hs
    cases hs
  · simp [Value.cells] at hcs
    obtain ⟨rfl, rfl, rfl⟩ := hcs
    simp only [if_true] at hz
    injection hx with hd _
    subst hd
    obtain ⟨i, hi⟩ := List.getElem?_of_mem hs
    have hil := (List.getElem?_eq_some_iff.1 hi).1
    obtain ⟨g, off, e, _, hc⟩ := h4 (by rintro rfl; simp at hi)
    injection e with e
    subst e
    have c1 := hc i s hi
    have c2 := hcell i (by omega)
    rw [Addr.add_lit, c1] at c2
    have e2 : s = ss2.getD i ByteArray.empty := by injection c2 with c2; injection c2
    have hm2 : s ∈ ss2.take n := by
      rw [e2]
      have hlt : i < ss2.length := by omega
      simp only [List.getD, List.getElem?_eq_getElem hlt, Option.getD_some]
      rw [List.mem_take_iff_getElem]
      exact ⟨i, by omega, rfl⟩
    have := hw s.size (by
      rw [DataW.weights, Tryz.underlying46]
      exact List.mem_cons_of_mem _ (List.mem_append_left _ (weights_strs hm2)))
    have h47 := reachBytes_lt
    omega
end
end Go.Proofs.YtkhmdofeonlnpaaGreatDoor
