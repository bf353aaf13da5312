/- QUEUE: the package's variables, from what the row lists; texts that came in. -/
import Derived.Test.YtlgbehagflnfgaaGreatDoorGdb
import Derived.Test.YtlgbehagflnfgaaGreatDoorRows
import Derived.Lib.LaidU8
import Derived.LaidLaws
import Derived.SliceStrings
import Derived.LaidMore
namespace Go.Proofs.YtlgbehagflnfgaaGreatDoor
open Go.RowKit Go.ChangeShapes Go.WideShapes Go.Deep Joins
set_option linter.unusedVariables false
set_option linter.unusedSimpArgs false
set_option maxRecDepth 100000
def nibZ : List Int := (List.range 16).map fun i => (nib i : Int)
theorem nib_data : (Rows.laid_penstock_segment_nibbles : DataW Unit) = Lib.tabData .u32 nibZ := by rfl
theorem iface_at {w : World} {name tn : String} {g : Nat} {d : DataW Unit} (hg : Tryz.prog.globalNamed name = some g) (hty : (Tryz.prog.globals[g]?).map (·.type) = some 184) (h : Lib.VarReads Tryz.prog w name (.iface tn d)) : ∃ te pe, w.cell? ⟨g, 0, none⟩ = some (.iface te pe) := by
  obtain ⟨g', t, cs, fuel, p, h1, h2, h3, h4⟩ := h
  obtain rfl := Option.some.inj (hg.symm.trans h1)
  obtain rfl := Option.some.inj (hty.symm.trans h2)
  obtain ⟨_, u, v, e, _, _⟩ := iface_of_trod (ms := #[("Error", 237)]) (by kernel_rfl) h4
  refine ⟨u, v, ?_⟩
  have h5 : w.var? Tryz.prog name = some ([Value.iface u v]).toArray := by rw [h3, ← e]
  have := World.var?_cell hg h5 0
  simpa using this
theorem seg_tabs {w : World} {l : List (String × DataW Unit)} (h : laidMet Tryz.prog l w) (h0 : ("penstock/segment.nibbles", Rows.laid_penstock_segment_nibbles) ∈ l)
    (h2 : ("strconv.ErrSyntax", Rows.laid_strconv_ErrSyntax) ∈ l) (h3 : ("strconv.ErrRange", Rows.laid_strconv_ErrRange) ∈ l) (h9 : ("internal/strconv.uint64pow10", Rows.laid_internal_strconv_uint64pow10) ∈ l) : Tabs w := by
  have e2 := iface_at (g := 0) (by kernel_rfl) (by kernel_rfl) (Lib.laidMet.reads h h2)
  have e3 := iface_at (g := 1) (by kernel_rfl) (by kernel_rfl) (Lib.laidMet.reads h h3)
  refine ⟨fun i hi => ?_, e2, e3, ?_⟩
  · obtain ⟨g', t, cs, fuel, p, h1, h2, h3, h4⟩ := Lib.laidMet.reads h h0
    have hg : Tryz.prog.globalNamed "penstock/segment.nibbles" = some 2 := by kernel_rfl
    have hty : (Tryz.prog.globals[2]?).map (·.type) = some 219 := by kernel_rfl
    obtain rfl := Option.some.inj (hg.symm.trans h1)
    obtain rfl := Option.some.inj (hty.symm.trans h2)
    rw [nib_data] at h4
    have e := Lib.cells_of_tab (n := 16) (e := 182) (by kernel_rfl) (by kernel_rfl) (by kernel_rfl) (by kernel_rfl) h4
    have ht : Lib.TabIs Tryz.prog w "penstock/segment.nibbles" .u32 nibZ := by unfold Lib.TabIs; rw [h3, ← e]
    have := ht.cell hg i (by simp [nibZ]; exact hi)
    rw [this]
    simp [nibZ, hi]
  · obtain ⟨g', t, cs, fuel, p, h1, h2, h3, h4⟩ := Lib.laidMet.reads h h9
    have hg : Tryz.prog.globalNamed "internal/strconv.uint64pow10" = some 4 := by kernel_rfl
    obtain rfl := Option.some.inj (hg.symm.trans h1)
    have h5 := h3
    simp only [World.var?, hg, Option.bind_some] at h5
    split at h5
    · rename_i hh
      have := (Array.getElem?_eq_some_iff.1 hh).1
      omega
    · cases h5
section
variable {H : Type} {enc : TypeId × Value → H} {w : World}
theorem open_texts {base : Nat} {v : Value} {d : DataW H} {p : List MemPlace} (hv : Value.okWide Tryz.prog w .any base 54 v) (h : DataW.Trod enc Tryz.prog w 0 (fun _ => true) true 54 v d p) :
    ∃ ad n cap ss, v = .slice ad n cap ∧ n = ss.length ∧ Strs w w.heap.size ad ss ∧ n ≤ 9223372036854775807 ∧ ∀ s ∈ ss, s.size ≤ 9223372036854775807 := by
  obtain ⟨ad, len, cap, rfl⟩ := okWide_slice Tryz.underlying54 hv
  obtain ⟨fuel, hf⟩ := h
  rcases open_strings Tryz.underlying54 Tryz.underlying9 (by kernel_rfl) hf with ⟨hcs, _⟩ | ⟨a, len', cap', ss, hcs, _, hl, hm, hz, _, hcell, hsz⟩
  · simp [Value.cells] at hcs
    obtain ⟨rfl, rfl, rfl⟩ := hcs
    exact ⟨none, 0, 0, [], rfl, rfl, fun h => absurd rfl h, by omega, fun s hs => by cases hs⟩
  · simp [Value.cells] at hcs
    obtain ⟨rfl, rfl, rfl⟩ := hcs
    simp only [if_true] at hz
    simp only [maxLen] at hm
    refine ⟨some a, len, cap, ss.take len, rfl, by rw [List.length_take]; omega, fun hne => ?_, by omega, fun s hs => ?_⟩
    · have h0 : 0 < ss.length := by
        rcases Nat.eq_zero_or_pos ss.length with e | e
        · rw [List.eq_nil_of_length_eq_zero e] at hne; simp at hne
        · exact e
      obtain ⟨b, off, spot⟩ := a
      have hc0 := hcell 0 h0
      have hs : spot = none := by simpa [Addr.add] using World.cell?_spot hc0
      subst hs
      refine ⟨b, off, rfl, World.block_lt_of_cell? w _ hc0, fun i s hi => ?_⟩
      have h2 : ss[i]? = some s := by
        rw [List.getElem?_take] at hi
        split at hi
        · exact hi
        · cases hi
      have hil : i < ss.length := (List.getElem?_eq_some_iff.1 h2).1
      have := hcell i hil
      rw [Addr.add_lit] at this
      rw [this]
      simp [List.getD, h2]
    · have := hsz s (List.mem_of_mem_take hs)
      simpa [maxLen] using this
end
end Go.Proofs.YtlgbehagflnfgaaGreatDoor

/- QUEUE: ARGUMENTS OPENED: queues, steps. -/
namespace Go.Proofs.YtlgbehagflnfgaaGreatDoor
open Go.RowKit Go.ChangeShapes Go.WideShapes Go.Deep Joins
set_option linter.unusedVariables false
set_option linter.unusedSimpArgs false
set_option maxRecDepth 100000

theorem Tryz.cells39 : Tryz.prog.cellsOf 39 = 3 := by kernel_rfl
theorem Tryz.cells25 : Tryz.prog.cellsOf 25 = 1 := by kernel_rfl
theorem Tryz.cells4 : Tryz.prog.cellsOf 4 = 1 := by kernel_rfl
theorem Tryz.cells22 : Tryz.prog.cellsOf 22 = 1 := by kernel_rfl
theorem Tryz.cells28 : Tryz.prog.cellsOf 28 = 1 := by kernel_rfl
theorem Tryz.cells27' : Tryz.prog.cellsOf 27 = 8 := by kernel_rfl
theorem Tryz.cells30 : Tryz.prog.cellsOf 30 = 10 := by kernel_rfl
theorem Tryz.cells33 : Tryz.prog.cellsOf 33 = 3 := by kernel_rfl
theorem list10 {l : List Value} (h : l.length = 10) : ∃ a b c d e f g i j k, l = [a, b, c, d, e, f, g, i, j, k] := by
  match l, h with
  | [a, b, c, d, e, f, g, i, j, k], _ => exact ⟨a, b, c, d, e, f, g, i, j, k, rfl⟩
section
variable {H : Type} {enc : TypeId × Value → H} {w : World}
theorem trod_struct5 {P : Program} {base : Nat} {spare : Nat → Bool} {held : Bool} {t : TypeId} {f0 f1 f2 f3 f4 : Field} {fuel : Nat} {cs : List Value} {x : DataW H × List MemPlace} (ht : P.underlying t = some (.struct #[f0, f1, f2, f3, f4])) (h : DataW.trod enc P w base spare held fuel t cs = some x) :
    ∃ y0 y1 y2 y3 y4 n, x = (.agg [y0.1, y1.1, y2.1, y3.1, y4.1], y0.2 ++ (y1.2 ++ (y2.2 ++ (y3.2 ++ y4.2)))) ∧ cs.length = P.cellsOf t ∧ DataW.trod enc P w base spare held n f0.type ((cs.drop f0.offset).take (P.cellsOf f0.type)) = some y0 ∧
      DataW.trod enc P w base spare held n f1.type ((cs.drop f1.offset).take (P.cellsOf f1.type)) = some y1 ∧ DataW.trod enc P w base spare held n f2.type ((cs.drop f2.offset).take (P.cellsOf f2.type)) = some y2 ∧
      DataW.trod enc P w base spare held n f3.type ((cs.drop f3.offset).take (P.cellsOf f3.type)) = some y3 ∧ DataW.trod enc P w base spare held n f4.type ((cs.drop f4.offset).take (P.cellsOf f4.type)) = some y4 := by
  obtain ⟨xs, n, _, rfl, hl, hlen, hf⟩ := DataW.trod_struct ht h
  match xs, hlen with
  | [y0, y1, y2, y3, y4], _ => exact ⟨y0, y1, y2, y3, y4, n, by simp, hl, by simpa using hf 0 f0 rfl, by simpa using hf 1 f1 rfl, by simpa using hf 2 f2 rfl, by simpa using hf 3 f3 rfl, by simpa using hf 4 f4 rfl⟩
theorem open_entry {base : Nat} {spare : Nat → Bool} {held : Bool} {fuel : Nat} {cs : List Value} {x : DataW H × List MemPlace} (h : DataW.trod enc Tryz.prog w base spare held fuel 39 cs = some x) :
    ∃ f : E, EFit f ∧ cs = ec f := by
  obtain ⟨y0, y1, y2, n, hx, hlen, h0, h1, h2⟩ := Deep.trod_struct3 Tryz.underlying39 h
  rw [Tryz.cells39] at hlen
  obtain ⟨c0, c1, c2, rfl⟩ := list3 hlen
  simp [Tryz.cells25, Tryz.cells9, Tryz.cells4] at h0 h1 h2
  obtain ⟨n0, e0, _, w0⟩ := DataW.trod_int Tryz.underlying25 h0
  obtain ⟨s1, e1, _, w1⟩ := DataW.trod_string Tryz.underlying9 h1
  obtain ⟨b2, e2, _⟩ := DataW.trod_bool Tryz.underlying4 h2
  simp only [List.cons.injEq, and_true] at e0 e1 e2
  subst e0 e1 e2
  have b0 := bounds_u64 w0
  obtain ⟨m, rfl⟩ : ∃ m : Nat, n0 = (m : Int) := ⟨n0.toNat, by omega⟩
  exact ⟨⟨m, s1, b2⟩, ⟨by show m < _; omega, by simpa [maxLen] using w1⟩, rfl⟩
theorem open_entries {fuel : Nat} {v : Value} {x : DataW H × List MemPlace} (h : DataW.trod enc Tryz.prog w 0 (fun _ => true) true fuel 28 [v] = some x) :
    ∃ ad n cap fs, v = .slice ad n cap ∧ EIn w w.heap.size ad n cap fs ∧ ∀ f ∈ fs, EFit f := by
  rcases Deep.open_slice Tryz.underlying28 h with ⟨hcs, _⟩ | ⟨a, len, cap, m, n, D, Pl, hcs, _, hl, hm, hmm, _, hi⟩
  · simp at hcs
    subst hcs
    exact ⟨none, 0, 0, [], rfl, ⟨rfl, Nat.le_refl _, fun _ => rfl, Els.nil _ _ _⟩, fun f hf => by cases hf⟩
  · simp at hcs
    subst hcs
    simp only [if_true] at hmm
    subst hmm
    rw [Tryz.cells39] at hi
    by_cases h0 : len = 0
    · subst h0
      exact ⟨_, 0, _, [], rfl, ⟨rfl, hl, (fun h => by cases h), Els.nil _ _ _⟩, fun f hf => by cases hf⟩
    obtain ⟨b, off, spot⟩ := a
    have hs : spot = none := by
      obtain ⟨cs', hc, _⟩ := hi 0 (by omega)
      obtain ⟨_, hlc, hcell⟩ := World.cells?_some hc
      have hc0 := hcell 0 (by omega)
      have he : cs'[0]? = some (cs'[0]'(by omega)) := by simp
      rw [he] at hc0
      simpa [Addr.add] using World.cell?_spot hc0
    subst hs
    have hP : ∀ i, i < len → ∃ f : E, EFit f ∧ b < w.heap.size ∧ Ae3 w b off i f := by
      intro i hil
      obtain ⟨cs', hc, ht⟩ := hi i (by omega)
      obtain ⟨f, hfit, rfl⟩ := open_entry ht
      obtain ⟨_, _, hcell⟩ := World.cells?_some hc
      have hc0 := hcell 0 (by omega)
      have hc1 := hcell 1 (by omega)
      have hc2 := hcell 2 (by omega)
      simp only [Addr.add_lit] at hc0 hc1 hc2
      exact ⟨f, hfit, World.block_lt_of_cell? w _ hc0, hc0, hc1, hc2⟩
    obtain ⟨fs, hfl, hfs⟩ := list_choose len hP
    refine ⟨_, _, _, fs, rfl, ⟨hfl.symm, hl, (fun h => by cases h), fun hne => ?_⟩, fun f hf => ?_⟩
    · have h0 : 0 < fs.length := List.length_pos_iff.2 hne
      obtain ⟨_, hb, _⟩ := hfs 0 fs[0] (by simp)
      exact ⟨b, off, rfl, hb, fun i f hf => (hfs i f hf).2.2⟩
    · obtain ⟨i, hi'⟩ := List.getElem?_of_mem hf
      exact (hfs i f hi').1
theorem open_queue {r : Reach} {b0 : Nat} {v : Value} {d : DataW H} {p : List MemPlace} (hv : Value.okWide Tryz.prog w r b0 30 v) (h : DataW.Trod enc Tryz.prog w 0 (fun _ => true) true 30 v d p) :
    ∃ ad n cap be m cp q, v = .agg (Q.cells q (.slice ad n cap) (.slice be m cp)) ∧ QIn w ad n cap be m cp q := by
  obtain ⟨cs, rfl, hsz⟩ := okWide_struct Tryz.underlying30 hv
  obtain ⟨fuel, hf⟩ := h
  obtain ⟨y0, y1, y2, n, hx, hlen, h0, h1, h2⟩ := Deep.trod_struct3 Tryz.underlying30 hf
  rw [Tryz.cells30] at hlen
  have hlen2 : cs.toList.length = 10 := by simpa [Value.cells] using hlen
  obtain ⟨v0, v1, v2, v3, v4, v5, v6, v7, v8, v9, hcs⟩ := list10 hlen2
  obtain rfl : cs = #[v0, v1, v2, v3, v4, v5, v6, v7, v8, v9] := by apply Array.toList_inj.1; rw [hcs]
  simp [Value.cells, Tryz.cells27', Tryz.cells28, Tryz.cells3] at h0 h1 h2
  obtain ⟨z0, z1, z2, z3, z4, k, _, _, g0, g1, g2, g3, g4⟩ := trod_struct5 Tryz.underlying27 h0
  simp [Tryz.cells24, Tryz.cells3, Tryz.cells25, Tryz.cells4] at g0 g1 g2 g3 g4
  obtain ⟨u0, u1, u2, u3, k2, _, _, d0, d1, d2, d3⟩ := Joins.trod_struct4 Tryz.underlying24 g0
  simp [Tryz.cells22, Tryz.cells3, Tryz.cells4] at d0 d1 d2 d3
  obtain ⟨ad, nn, cap, fs, rfl, hi, hfit⟩ := open_files d0
  obtain ⟨b, e1, _, _⟩ := DataW.trod_bool Tryz.underlying4 d1
  obtain ⟨n2, e2, _, w2⟩ := DataW.trod_int Tryz.underlying3 d2
  obtain ⟨n3, e3, _, w3⟩ := DataW.trod_int Tryz.underlying3 d3
  obtain ⟨n4, e4, _, w4⟩ := DataW.trod_int Tryz.underlying3 g1
  obtain ⟨n5, e5, _, w5⟩ := DataW.trod_int Tryz.underlying25 g2
  obtain ⟨n6, e6, _, w6⟩ := DataW.trod_int Tryz.underlying25 g3
  obtain ⟨b7, e7, _, _⟩ := DataW.trod_bool Tryz.underlying4 g4
  obtain ⟨be, m, cp, es, rfl, hE, hEf⟩ := open_entries h1
  obtain ⟨n9, e9, _, w9⟩ := DataW.trod_int Tryz.underlying3 h2
  simp only [List.cons.injEq, and_true] at e1 e2 e3 e4 e5 e6 e7 e9
  subst e1 e2 e3 e4 e5 e6 e7 e9
  have b2 := bounds_i64 w2
  have b3 := bounds_i64 w3
  have b4 := bounds_i64 w4
  have b5 := bounds_u64 w5
  have b6 := bounds_u64 w6
  have b9 := bounds_i64 w9
  exact ⟨ad, nn, cap, be, m, cp, ⟨⟨⟨fs, b, n2, n3⟩, n4, n5, n6, b7⟩, es, n9⟩, rfl, ⟨⟨⟨hi, hfit, b2.1, b2.2, b3.1, b3.2⟩, b4.1, b4.2, b5.1, b5.2, b6.1, b6.2⟩, hE, hEf, b9⟩⟩
theorem open_qstep {r : Reach} {b0 : Nat} {v : Value} {d : DataW H} {p : List MemPlace} (hv : Value.okWide Tryz.prog w r b0 33 v) (h : DataW.Trod enc Tryz.prog w 0 (fun _ => true) true 33 v d p) (hw : ∀ k ∈ d.weights Tryz.prog 33, k ≤ reachBytes) :
    ∃ k dt s, v = .agg (stepC k dt s) ∧ dt.size ≤ 9223372036854775000 ∧ s < 18446744073709551616 ∧ 0 ≤ k ∧ k ≤ 255 := by
  obtain ⟨v0, v1, v2, y0, y1, y2, n, rfl, rfl, _, h0, h1, h2⟩ := Joins.open_agg3 Tryz.underlying33 (by kernel_rfl) Tryz.cells33 hv h
  obtain ⟨k, e0, _, w0⟩ := DataW.trod_int Tryz.underlying31 h0
  obtain ⟨s1, e1, hy1, w1⟩ := DataW.trod_string Tryz.underlying9 h1
  obtain ⟨z, e2, _, w2⟩ := DataW.trod_int Tryz.underlying25 h2
  simp only [List.cons.injEq, and_true] at e0 e1 e2
  subst e0 e1 e2
  have b0 := bounds_u8 w0
  have b2 := bounds_u64 w2
  obtain ⟨m, rfl⟩ : ∃ m : Nat, z = (m : Int) := ⟨z.toNat, by omega⟩
  have hsz : s1.size ≤ reachBytes := by
    refine hw _ ?_
    subst hy1
    simp [DataW.weights, DataW.weightsEach, Tryz.underlying33]
  have h47 := reachBytes_lt
  exact ⟨k, s1, m, rfl, by omega, by omega, b0.1, b0.2⟩
end
end Go.Proofs.YtlgbehagflnfgaaGreatDoor

/- QUEUE: texts that came in, and the form's own reach. -/
namespace Go.Proofs.YtlgbehagflnfgaaGreatDoor
open Go.RowKit Go.ChangeShapes Go.WideShapes Go.Deep Joins
set_option linter.unusedVariables false
set_option linter.unusedSimpArgs false
set_option maxRecDepth 100000
section
variable {H : Type} {enc : TypeId × Value → H} {w : World}
theorem weights_strs : ∀ {l : List ByteArray} {s : ByteArray}, s ∈ l → s.size ∈ DataW.weightsAll Tryz.prog 9 (strs (H := H) l)
  | a :: t, s, h => by
    show s.size ∈ DataW.weightsAll Tryz.prog 9 (_ :: strs (H := H) t)
    rw [DataW.weightsAll, List.mem_append]
    rcases List.mem_cons.1 h with e | e
    · subst e; left; simp [DataW.weights]
    · exact .inr (weights_strs e)
theorem open_texts_wt {base : Nat} {v : Value} {d : DataW H} {p : List MemPlace} (hv : Value.okWide Tryz.prog w .any base 54 v) (h : DataW.Trod enc Tryz.prog w 0 (fun _ => true) true 54 v d p) (hw : ∀ k ∈ d.weights Tryz.prog 54, k ≤ reachBytes) :
    ∃ ad n cap ss, v = .slice ad n cap ∧ n = ss.length ∧ Strs w w.heap.size ad ss ∧ n ≤ 9223372036854775807 ∧ ∀ s ∈ ss, s.size ≤ 9223372036854775000 := by
  have h2 := h
  obtain ⟨ad, n, cap, ss, rfl, h3, h4, h5, h6⟩ := open_texts hv h
  refine ⟨ad, n, cap, ss, rfl, h3, h4, h5, fun s hs => ?_⟩
  obtain ⟨fuel, hf⟩ := h2
  rcases open_strings Tryz.underlying54 Tryz.underlying9 (by kernel_rfl) hf with ⟨hcs, _⟩ | ⟨a, len', cap', ss2, hcs, _, hl, hm, hz, hx, hcell, hsz⟩
  · simp [Value.cells] at hcs
    obtain ⟨rfl, rfl, rfl⟩ := hcs
    rw [List.length_eq_zero_iff.1 h3.symm] at hs
    cases hs
  · simp [Value.cells] at hcs
    obtain ⟨rfl, rfl, rfl⟩ := hcs
    simp only [if_true] at hz
    injection hx with hd _
    subst hd
    obtain ⟨i, hi⟩ := List.getElem?_of_mem hs
    have hil := (List.getElem?_eq_some_iff.1 hi).1
    obtain ⟨g, off, e, _, hc⟩ := h4 (by rintro rfl; simp at hi)
    injection e with e
    subst e
    have c1 := hc i s hi
    have c2 := hcell i (by omega)
    rw [Addr.add_lit, c1] at c2
    have e2 : s = ss2.getD i ByteArray.empty := by injection c2 with c2; injection c2
    have hm2 : s ∈ ss2.take n := by
      rw [e2]
      have hlt : i < ss2.length := by omega
      simp only [List.getD, List.getElem?_eq_getElem hlt, Option.getD_some]
      rw [List.mem_take_iff_getElem]
      exact ⟨i, by omega, rfl⟩
    have := hw s.size (by
      rw [DataW.weights, Tryz.underlying54]
      exact List.mem_cons_of_mem _ (List.mem_append_left _ (weights_strs hm2)))
    have h47 := reachBytes_lt
    omega
end
end Go.Proofs.YtlgbehagflnfgaaGreatDoor
