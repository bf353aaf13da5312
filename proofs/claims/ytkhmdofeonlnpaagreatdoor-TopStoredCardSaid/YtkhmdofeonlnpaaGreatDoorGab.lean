/- THE DISK'S FILES IN MEMORY. -/
import Derived.Test.YtkhmdofeonlnpaaGreatDoorGaa
import Derived.WalkKit
import Derived.Maps.AppendAt
import Derived.Lib.Hide
import Derived.Laws.OwnMore
import Derived.Deep.Upon
import Derived.BigQuiet
import Derived.Deep.QuietTactic
import Derived.StillTailTactics
import Derived.Test.YtkhmdofeonlnpaaGreatDoorProg
namespace Go.Proofs.YtkhmdofeonlnpaaGreatDoor
open Go.RowKit
set_option linter.unusedVariables false

/-- a file's cells -/
def fc (f : F) : List Value := [.string f.name, .string f.data, .int .i64 f.syn]
theorem fc_one (fs : List F) : ∀ u ∈ fs.flatMap fc, u.oneCell' = true := by
  intro u hu
  obtain ⟨f, _, hu⟩ := List.mem_flatMap.1 hu
  simp only [fc, List.mem_cons, List.not_mem_nil, or_false] at hu
  rcases hu with rfl | rfl | rfl <;> rfl
theorem fc_len (fs : List F) : (fs.flatMap fc).length = fs.length * 3 := by
  induction fs with
  | nil => rfl
  | cons f fs ih => rw [List.flatMap_cons, List.length_append, ih]; simp [fc]; omega
theorem fc_at (fs : List F) : ∀ (i : Nat) (f : F), fs[i]? = some f → ∀ j, j < 3 → (fs.flatMap fc)[i * 3 + j]? = (fc f)[j]? := by
  induction fs with
  | nil => intro i f h; simp at h
  | cons x fs ih =>
    intro i f h j hj
    rw [List.flatMap_cons]
    cases i with
    | zero =>
      simp at h; subst h
      rw [List.getElem?_append_left (by simp [fc]; omega)]
      simp
    | succ i =>
      rw [List.getElem?_append_right (by simp [fc]; omega)]
      have e : (i + 1) * 3 + j - (fc x).length = i * 3 + j := by simp [fc]; omega
      rw [e]
      exact ih i f (by simpa using h) j hj

/-- file i lies in block g behind off -/
structure At3 (w : World) (g off i : Nat) (f : F) : Prop where
  q0 : w.cell? ⟨g, off + i * 3, none⟩ = some (.string f.name)
  q1 : w.cell? ⟨g, off + i * 3 + 1, none⟩ = some (.string f.data)
  q2 : w.cell? ⟨g, off + i * 3 + 2, none⟩ = some (.int .i64 f.syn)

/-- at ad lie the files fs -/
def Fls (w : World) (B : Nat) (ad : Option Addr) (fs : List F) : Prop :=
  fs ≠ [] → ∃ g off, ad = some ⟨g, off, none⟩ ∧ g < B ∧ ∀ i f, fs[i]? = some f → At3 w g off i f
theorem Fls.nil (w : World) (B : Nat) (ad : Option Addr) : Fls w B ad [] := fun h => absurd rfl h
theorem At3.keep {w w' : World} {B g off i : Nat} {f : F} (h : At3 w g off i f) (hg : g < B) (hb : Below B w w') : At3 w' g off i f :=
  ⟨(hb.cell (p := ⟨g, _, none⟩) hg).trans h.q0, (hb.cell (p := ⟨g, _, none⟩) hg).trans h.q1, (hb.cell (p := ⟨g, _, none⟩) hg).trans h.q2⟩
theorem Fls.keep {w w' : World} {B : Nat} {ad : Option Addr} {fs : List F} (h : Fls w B ad fs) (hb : Below B w w') : Fls w' B ad fs := by
  intro hne
  obtain ⟨g, off, e, hg, hi⟩ := h hne
  exact ⟨g, off, e, hg, fun i f hf => (hi i f hf).keep hg hb⟩
theorem Fls.mono {w : World} {B B' : Nat} {ad : Option Addr} {fs : List F} (h : Fls w B ad fs) (hb : B ≤ B') : Fls w B' ad fs := fun hne => by
  obtain ⟨g, off, e, hg, hi⟩ := h hne
  exact ⟨g, off, e, Nat.lt_of_lt_of_le hg hb, hi⟩
theorem Fls.cells {w : World} {B : Nat} {ad : Option Addr} {fs : List F} (h : Fls w B ad fs) (hne : fs ≠ []) :
    ∃ g off, ad = some ⟨g, off, none⟩ ∧ g < B ∧ ∀ j u, (fs.flatMap fc)[j]? = some u → w.cell? ⟨g, off + j, none⟩ = some u := by
  obtain ⟨g, off, e, hg, hi⟩ := h hne
  refine ⟨g, off, e, hg, fun j u hu => ?_⟩
  have hj : j < fs.length * 3 := by rw [← fc_len]; exact (List.getElem?_eq_some_iff.1 hu).1
  obtain ⟨q, hq⟩ : ∃ q, fs[j / 3]? = some q := ⟨fs[j / 3]'(by omega), by simp⟩
  have hh := hi _ _ hq
  have e3 : j = j / 3 * 3 + j % 3 := by omega
  rw [e3, fc_at fs _ _ hq _ (by omega)] at hu
  have hm : j % 3 = 0 ∨ j % 3 = 1 ∨ j % 3 = 2 := by omega
  rcases hm with hm | hm | hm
  · rw [hm] at hu; simp [fc] at hu; subst hu; rw [e3, hm]; exact hh.q0
  · rw [hm] at hu; simp [fc] at hu; subst hu; rw [e3, hm]; exact hh.q1
  · rw [hm] at hu; simp [fc] at hu; subst hu; rw [e3, hm]; exact hh.q2
theorem Fls.of_cells {w : World} {B g off : Nat} {fs : List F} (hg : g < B) (h : ∀ j u, (fs.flatMap fc)[j]? = some u → w.cell? ⟨g, off + j, none⟩ = some u) : Fls w B (some ⟨g, off, none⟩) fs := by
  intro _
  refine ⟨g, off, rfl, hg, fun i f hf => ?_⟩
  have at_ : ∀ j u, j < 3 → (fc f)[j]? = some u → w.cell? ⟨g, off + i * 3 + j, none⟩ = some u := fun j u hj hu => by
    rw [Nat.add_assoc]
    exact h _ _ (by rw [fc_at fs i f hf j hj]; exact hu)
  exact ⟨at_ 0 _ (by omega) rfl, at_ 1 _ (by omega) rfl, at_ 2 _ (by omega) rfl⟩

/-- the slice v of the call's own has the files fs -/
def FRow (w : World) (base : Nat) (v : Value) (fs : List F) : Prop := w.ownsRow base 107 3 v fs.length (fs.flatMap fc)
section
variable {w w' : World} {base : Nat} {v : Value} {fs : List F}
theorem FRow.alloc (h : FRow w base v fs) (o : Obj) : FRow (w.alloc o) base v fs := World.ownsRow.alloc h o
theorem FRow.lt (h : FRow w base v fs) : ∀ k, v.ownBlock = some k → base ≤ k ∧ k < w.heap.size := World.ownsRow.lt h
theorem FRow.kept {row : Option Nat} (h : FRow w base v fs) (hg : w.grownBy w' row) (hne : v.ownBlock = none ∨ v.ownBlock ≠ row) : FRow w' base v fs := World.ownsRow.kept h hg hne
/-- a block of which nothing is shared with a string -/
def Free (w : World) (b : Nat) : Prop := ∃ cs T, w.heap[b]? = some (.cells cs T (0, 0))
theorem Free.keep {w w' : World} {B b : Nat} (h : Free w b) (hb : Below B w w') (hl : b < B) : Free w' b := by
  obtain ⟨cs, T, e⟩ := h
  exact ⟨cs, T, (hb.block b hl).trans e⟩
theorem Free.lt {w : World} {b : Nat} (h : Free w b) : b < w.heap.size := by
  obtain ⟨cs, T, e⟩ := h
  exact (Array.getElem?_eq_some_iff.1 e).1
theorem Free.under {w w' : World} {b : Nat} (h : Free w b) (hb : Below w.heap.size w w') : Free w' b := h.keep hb h.lt
theorem Free.set {w : World} {b : Nat} (h : Free w b) (g o : Nat) (u : Value) : Free (w.setCell ⟨g, o, none⟩ u) b := by
  obtain ⟨cs, T, e⟩ := h
  by_cases hg : b = g
  · subst hg
    exact ⟨_, _, heap_setCell_same w b o cs T u e⟩
  · exact ⟨cs, T, (Below.heap_setCell w ⟨g, o, none⟩ u b hg).trans e⟩
theorem FRow.free (h : FRow w base v fs) : ∀ b, v.ownBlock = some b → Free w b := fun b e => by
  rcases h.2 with ⟨hv, _⟩ | ⟨g, cap, cur, hv, _, hg, _⟩
  · rw [hv] at e; simp [Value.ownBlock] at e
  · rw [hv] at e; simp [Value.ownBlock] at e; subst e; exact ⟨_, _, hg⟩
theorem FRow.fls (h : FRow w base v fs) : ∃ ad cap, v = .slice ad fs.length cap ∧ fs.length ≤ cap ∧ (ad = none → cap = 0) ∧ Fls w w.heap.size ad fs := by
  rcases h.2 with ⟨hv, hn⟩ | ⟨g, cap, cur, hv, hbg, hg, hnc, hcm, hcs, htake⟩
  · have hx : fs = [] := List.eq_nil_of_length_eq_zero hn
    subst hx
    exact ⟨none, 0, hv, Nat.le_refl _, fun _ => rfl, fun h => absurd rfl h⟩
  · refine ⟨some ⟨g, 0, none⟩, cap, hv, hnc, (fun h => by cases h), Fls.of_cells (Array.getElem?_eq_some_iff.1 hg).1 fun j u hu => ?_⟩
    have := World.ownsRow.cells h (g := g) (by rw [hv]; rfl) j u hu
    rwa [show (⟨g, 0, none⟩ : Addr).add j = ⟨g, 0 + j, none⟩ by unfold Addr.add; split <;> simp_all] at this
/-- the row, by its cells -/
def FRowAt (w : World) (base : Nat) (v : Value) (n : Nat) (xs : List Value) : Prop := w.ownsRow base 107 3 v n xs
/-- the row's block -/
theorem FRow.blk (h : FRow w base v fs) (hne : fs ≠ []) : ∃ g cap, v = .slice (some ⟨g, 0, none⟩) fs.length cap ∧ base ≤ g ∧ g < w.heap.size ∧ fs.length ≤ cap ∧ (∀ i f, fs[i]? = some f → At3 w g 0 i f) ∧ (∀ j, w.frozen? ⟨g, j, none⟩ = false) ∧
    (∀ j u, FRowAt (w.setCell ⟨g, j, none⟩ u) base v fs.length ((fs.flatMap fc).set j u) ∧ w.grownBy (w.setCell ⟨g, j, none⟩ u) (some g)) := by
  obtain ⟨ad, cap, hv, hc, _, hf⟩ := h.fls
  obtain ⟨g, off, rfl, hg, hi⟩ := hf hne
  rcases h.2 with ⟨hv', hn⟩ | ⟨g', cap', cur, hv', hbg, hg', hnc, hcm, hcs, htake⟩
  · rw [hv] at hv'; simp at hv'
  · rw [hv] at hv'
    simp only [Value.slice.injEq, Option.some.injEq, Addr.mk.injEq, and_true, true_and] at hv'
    obtain ⟨⟨rfl, rfl⟩, rfl⟩ := hv'
    subst hv
    exact ⟨g, cap, rfl, hbg, hg, hc, hi, fun j => World.ownsRow.frozenAt h j, fun j u => World.ownsRow.stored h j u⟩
end
end Go.Proofs.YtkhmdofeonlnpaaGreatDoor

/- THE WALKS OVER isName, isFile, Check. -/
namespace Go.Proofs.YtkhmdofeonlnpaaGreatDoor
open Go.RowKit
set_option linter.unusedVariables false
set_option linter.unusedSimpArgs false
theorem ret_bool {a b : Bool} (h : a = b) : Ending.returned (.bool a) = .returned (.bool b) := by rw [h]
theorem ret_int {k : IntKind} {a b : Int} (h : a = b) : Ending.returned (.int k a) = .returned (.int k b) := by rw [h]

/-- a name is right -/
def okNB (n : ByteArray) : Bool := decide (okN n)
theorem size_ne {n : ByteArray} (h : n.size ≠ 0) : (!(n.toList == (⟨#[]⟩ : ByteArray).toList)) = true := by
  rw [str_not (fun e => h (by rw [e]; rfl))]; rfl
theorem size_eq {n : ByteArray} (h : n.size = 0) : n = ⟨#[]⟩ := by
  cases n with | mk d => have : d = #[] := Array.eq_empty_of_size_eq_zero h; rw [this]

theorem nil_list : (⟨#[]⟩ : ByteArray).toList = [] := by rw [Go.ByteArray.toList_eq]
theorem nil_of_empty {n : ByteArray} (h : n.toList = []) : n.size = 0 := by
  have : n = ⟨#[]⟩ := str_inj (by rw [h, nil_list])
  rw [this]; rfl
theorem isName_any (n : ByteArray) (w : World) (hl : n.size ≤ 9223372036854775807) :
    Calls Tryz.prog 112 #[.string n] w fun e w' => e = .returned (.bool (okNB n)) ∧ w = w' := by
  obtain ⟨r, hr⟩ : ∃ r, okNB n = r := ⟨_, rfl⟩
  rw [hr]
  have Hr := Lib.hid hr; clear hr
  by_cases h0 : n.size = 0
  · have h1 : n.toList = [] := by rw [size_eq h0, nil_list]
    have h2 : n.toList.isEmpty = true := by rw [h1]; rfl
    have H0 := Lib.hid h0
    clear h0
    go_enter Tryz.func112, Tryz.ntmps112
    go_wp2
    go_ret
    exact ⟨ret_bool (by rw [← Hr.out]; have := H0.out; rw [Bool.eq_iff_iff]; simp [okNB, okN, this] <;> omega), rfl⟩
  · have h1 : ¬ n.toList = [] := fun h => h0 (nil_of_empty h)
    have h2 : n.toList.isEmpty = false := by rw [Bool.eq_false_iff]; intro h; exact h1 (List.isEmpty_iff.1 h)
    have H0 := Lib.hid h0
    clear h0
    go_enter Tryz.func112, Tryz.ntmps112
    go_wp2
    go_ret
    exact ⟨ret_bool (by rw [← Hr.out]; have := H0.out; rw [Bool.eq_iff_iff]; simp [okNB, okN, this] <;> omega), rfl⟩
theorem isName_quiet (n : ByteArray) (w : World) (hl : n.size ≤ 9223372036854775807) :
    Calls Tryz.prog 112 #[.string n] w fun e w' => e = .returned (.bool (okNB n)) ∧ w' = w := (isName_any n w hl).mono fun _ _ ⟨a, b⟩ => ⟨a, b.symm⟩

/-- numbers that fit -/
def Fit (f : F) : Prop := f.name.size ≤ 9223372036854775807 ∧ f.data.size ≤ 9223372036854775807 ∧ -9223372036854775808 ≤ f.syn ∧ f.syn ≤ 9223372036854775807
theorem okF_fit {f : F} (h : okF f) : Fit f := by obtain ⟨⟨h1, h2⟩, h3, h4, h5⟩ := h; exact ⟨by omega, by omega, by omega, by omega⟩
def okFB (f : F) : Bool := decide (okF f)
abbrev fcells (n d : ByteArray) (s : Int) : Array Value := #[.string n, .string d, .int .i64 s]
theorem okFB_no {n d : ByteArray} {s : Int} (h : okNB n = false) : okFB ⟨n, d, s⟩ = false := by
  unfold okNB okFB at *
  exact decide_eq_false (fun q => of_decide_eq_false h q.1)
theorem okFB_yes {n d : ByteArray} {s : Int} (h : okNB n = true) : okFB ⟨n, d, s⟩ = (decide (d.size ≤ 262144) && decide (0 ≤ s) && decide (s ≤ d.size)) := by
  unfold okNB okFB at *
  have h' := of_decide_eq_true h
  rw [Bool.eq_iff_iff]; simp [okF, h', and_assoc]

set_option maxHeartbeats 1000000 in
theorem isFile_any (n d : ByteArray) (s : Int) (w : World) (hf : Fit ⟨n, d, s⟩) :
    Calls Tryz.prog 63 #[.agg (fcells n d s)] w fun e w' => e = .returned (.bool (okFB ⟨n, d, s⟩)) ∧ w.alloc (.cells (fcells n d s) 107) = w' := by
  obtain ⟨f1, f2, f3, f4⟩ := hf
  simp only at f1 f2 f3 f4
  obtain ⟨r, hr⟩ : ∃ r, okFB ⟨n, d, s⟩ = r := ⟨_, rfl⟩
  rw [hr]
  have Hr := Lib.hid hr; clear hr
  have hN := fun W => isName_any n W f1
  obtain ⟨b, hb⟩ : ∃ b, okNB n = b := ⟨_, rfl⟩
  rw [hb] at hN
  have HN := Lib.hid hN; clear hN
  have HB := Lib.hid hb; clear hb
  cases b with
  | false =>
    go_enter Tryz.func63, Tryz.ntmps63
    go_wp2_with fail
    refine (HN.out _).mono ?_
    rintro e w' ⟨rfl, rfl⟩
    go_wp2
    go_ret
    exact ⟨ret_bool (by rw [← Hr.out, okFB_no HB.out]), rfl⟩
  | true =>
    go_enter Tryz.func63, Tryz.ntmps63
    go_wp2_with fail
    refine (HN.out _).mono ?_
    rintro e w' ⟨rfl, rfl⟩
    go_wp2
    all_goals
      go_ret
      exact ⟨ret_bool (by rw [← Hr.out, okFB_yes HB.out]; rw [Bool.eq_iff_iff]; simp <;> omega), rfl⟩
end Go.Proofs.YtkhmdofeonlnpaaGreatDoor
