/- SEGMENT: the package's variables, from what the row lists; texts that came in. -/
import Derived.Test.YtcefhcailhediaaDoorHas
import Derived.Test.YtcefhcailhediaaDoorRows
import Derived.Lib.LaidU8
import Derived.LaidLaws
import Derived.SliceStrings
import Derived.LaidMore
namespace Go.Proofs.YtcefhcailhediaaDoor
open Go.RowKit Go.ChangeShapes Go.WideShapes Go.Deep Joins
set_option linter.unusedVariables false
set_option linter.unusedSimpArgs false
set_option maxRecDepth 100000
def nibZ : List Int := (List.range 16).map fun i => (nib i : Int)
theorem nib_data : (Rows.laid_penstock_segment_nibbles : DataW Unit) = Lib.tabData .u32 nibZ := by rfl
theorem iface_at {w : World} {name tn : String} {g : Nat} {d : DataW Unit} (hg : Tryd.prog.globalNamed name = some g) (hty : (Tryd.prog.globals[g]?).map (·.type) = some 124) (h : Lib.VarReads Tryd.prog w name (.iface tn d)) : ∃ te pe, w.cell? ⟨g, 0, none⟩ = some (.iface te pe) := by
  obtain ⟨g', t, cs, fuel, p, h1, h2, h3, h4⟩ := h
  obtain rfl := Option.some.inj (hg.symm.trans h1)
  obtain rfl := Option.some.inj (hty.symm.trans h2)
  obtain ⟨_, u, v, e, _, _⟩ := iface_of_trod (ms := #[("Error", 170)]) (by kernel_rfl) h4
  refine ⟨u, v, ?_⟩
  have h5 : w.var? Tryd.prog name = some ([Value.iface u v]).toArray := by rw [h3, ← e]
  have := World.var?_cell hg h5 0
  simpa using this
theorem seg_tabs {w : World} {l : List (String × DataW Unit)} (h : laidMet Tryd.prog l w) (h0 : ("penstock/segment.nibbles", Rows.laid_penstock_segment_nibbles) ∈ l)
    (h2 : ("strconv.ErrSyntax", Rows.laid_strconv_ErrSyntax) ∈ l) (h3 : ("strconv.ErrRange", Rows.laid_strconv_ErrRange) ∈ l) : Tabs w := by
  have e2 := iface_at (g := 2) (by kernel_rfl) (by kernel_rfl) (Lib.laidMet.reads h h2)
  have e3 := iface_at (g := 3) (by kernel_rfl) (by kernel_rfl) (Lib.laidMet.reads h h3)
  refine ⟨fun i hi => ?_, e2, e3, ?_⟩
  · obtain ⟨g', t, cs, fuel, p, h1, h2, h3, h4⟩ := Lib.laidMet.reads h h0
    have hg : Tryd.prog.globalNamed "penstock/segment.nibbles" = some 0 := by kernel_rfl
    have hty : (Tryd.prog.globals[0]?).map (·.type) = some 141 := by kernel_rfl
    obtain rfl := Option.some.inj (hg.symm.trans h1)
    obtain rfl := Option.some.inj (hty.symm.trans h2)
    rw [nib_data] at h4
    have e := Lib.cells_of_tab (n := 16) (e := 135) (by kernel_rfl) (by kernel_rfl) (by kernel_rfl) (by kernel_rfl) h4
    have ht : Lib.TabIs Tryd.prog w "penstock/segment.nibbles" .u32 nibZ := by unfold Lib.TabIs; rw [h3, ← e]
    have := ht.cell hg i (by simp [nibZ]; exact hi)
    rw [this]
    simp [nibZ, hi]
  · obtain ⟨te, pe, e⟩ := e3
    exact World.block_lt_of_cell? w _ e
section
variable {H : Type} {enc : TypeId × Value → H} {w : World}
theorem open_texts {base : Nat} {v : Value} {d : DataW H} {p : List MemPlace} (hv : Value.okWide Tryd.prog w .any base 22 v) (h : DataW.Trod enc Tryd.prog w 0 (fun _ => true) true 22 v d p) :
    ∃ ad n cap ss, v = .slice ad n cap ∧ n = ss.length ∧ Strs w w.heap.size ad ss ∧ n ≤ 9223372036854775807 ∧ ∀ s ∈ ss, s.size ≤ 9223372036854775807 := by
  obtain ⟨ad, len, cap, rfl⟩ := okWide_slice Tryd.underlying22 hv
  obtain ⟨fuel, hf⟩ := h
  rcases open_strings Tryd.underlying22 Tryd.underlying9 (by kernel_rfl) hf with ⟨hcs, _⟩ | ⟨a, len', cap', ss, hcs, _, hl, hm, hz, _, hcell, hsz⟩
  · simp [Value.cells] at hcs
    obtain ⟨rfl, rfl, rfl⟩ := hcs
    exact ⟨none, 0, 0, [], rfl, rfl, fun h => absurd rfl h, by omega, fun s hs => by cases hs⟩
  · simp [Value.cells] at hcs
    obtain ⟨rfl, rfl, rfl⟩ := hcs
    simp only [if_true] at hz
    simp only [maxLen] at hm
    refine ⟨some a, len, cap, ss.take len, rfl, by rw [List.length_take]; omega, fun hne => ?_, by omega, fun s hs => ?_⟩
    · have h0 : 0 < ss.length := by
        rcases Nat.eq_zero_or_pos ss.length with e | e
        · rw [List.eq_nil_of_length_eq_zero e] at hne; simp at hne
        · exact e
      obtain ⟨b, off, spot⟩ := a
      have hc0 := hcell 0 h0
      have hs : spot = none := by simpa [Addr.add] using World.cell?_spot hc0
      subst hs
      refine ⟨b, off, rfl, World.block_lt_of_cell? w _ hc0, fun i s hi => ?_⟩
      have h2 : ss[i]? = some s := by
        rw [List.getElem?_take] at hi
        split at hi
        · exact hi
        · cases hi
      have hil : i < ss.length := (List.getElem?_eq_some_iff.1 h2).1
      have := hcell i hil
      rw [Addr.add_lit] at this
      rw [this]
      simp [List.getD, h2]
    · have := hsz s (List.mem_of_mem_take hs)
      simpa [maxLen] using this
end
end Go.Proofs.YtcefhcailhediaaDoor
