/- VALUES AS DATA: the model of a value, and how one lies in memory. -/
import Derived.Test.YtnnnnlcpmocnfaaGreatDoorVal7
import Derived.ProofKit
import Derived.OpenShut
import Derived.Deep.Slices
import Derived.Deep.Fields
import Derived.ChangeSame
import Derived.Lib.SmallJoins
namespace Go.Proofs.YtnnnnlcpmocnfaaGreatDoor
open Go.RowKit
set_option linter.unusedVariables false
set_option linter.unusedSimpArgs false

/-- a value: its kind, text, truth, int, float's bits, list, pairs -/
inductive V where
  | mk (k : Int) (s : ByteArray) (b : Bool) (n : Int) (f : Nat) (l : List V) (p : List (ByteArray × V))
def V.k : V → Int | .mk k _ _ _ _ _ _ => k
def V.s : V → ByteArray | .mk _ s _ _ _ _ _ => s
def V.b : V → Bool | .mk _ _ b _ _ _ _ => b
def V.n : V → Int | .mk _ _ _ n _ _ _ => n
def V.f : V → Nat | .mk _ _ _ _ f _ _ => f
def V.l : V → List V | .mk _ _ _ _ _ l _ => l
def V.p : V → List (ByteArray × V) | .mk _ _ _ _ _ _ p => p
theorem V.eta (x : V) : x = .mk x.k x.s x.b x.n x.f x.l x.p := by cases x; rfl
theorem V.size_l {x y : V} (h : y ∈ x.l) : SizeOf.sizeOf y < SizeOf.sizeOf x := by
  cases x with
  | mk k s b n f l p =>
    have := List.sizeOf_lt_of_mem h
    simp only [V.l, V.mk.sizeOf_spec] at this ⊢
    omega
theorem V.size_p {x : V} {y : ByteArray × V} (h : y ∈ x.p) : SizeOf.sizeOf y.2 < SizeOf.sizeOf x := by
  cases x with
  | mk k s b n f l p =>
    have h1 := List.sizeOf_lt_of_mem h
    have h2 : SizeOf.sizeOf y.2 < SizeOf.sizeOf y := by cases y; simp only [Prod.mk.sizeOf_spec]; omega
    simp only [V.p, V.mk.sizeOf_spec] at h1 ⊢
    omega

/-- a value's seven cells -/
abbrev cv (x : V) (q1 q2 : Value) : Array Value := gv x.k x.s x.b x.n x.f q1 q2

/-- a pair's eight cells -/
abbrev pv (key : ByteArray) (x : V) (q1 q2 : Value) : Array Value := #[.string key, .int .u8 x.k, .string x.s, .bool x.b, .int .i64 x.n, .float .f64 x.f, q1, q2]

structure At7 (w : World) (g o : Nat) (x : V) (q1 q2 : Value) : Prop where
  c0 : w.cell? ⟨g, o, none⟩ = some (.int .u8 x.k)
  c1 : w.cell? ⟨g, o + 1, none⟩ = some (.string x.s)
  c2 : w.cell? ⟨g, o + 2, none⟩ = some (.bool x.b)
  c3 : w.cell? ⟨g, o + 3, none⟩ = some (.int .i64 x.n)
  c4 : w.cell? ⟨g, o + 4, none⟩ = some (.float .f64 x.f)
  c5 : w.cell? ⟨g, o + 5, none⟩ = some q1
  c6 : w.cell? ⟨g, o + 6, none⟩ = some q2
structure At8 (w : World) (g o : Nat) (key : ByteArray) (x : V) (q1 q2 : Value) : Prop where
  c0 : w.cell? ⟨g, o, none⟩ = some (.string key)
  c1 : w.cell? ⟨g, o + 1, none⟩ = some (.int .u8 x.k)
  c2 : w.cell? ⟨g, o + 2, none⟩ = some (.string x.s)
  c3 : w.cell? ⟨g, o + 3, none⟩ = some (.bool x.b)
  c4 : w.cell? ⟨g, o + 4, none⟩ = some (.int .i64 x.n)
  c5 : w.cell? ⟨g, o + 5, none⟩ = some (.float .f64 x.f)
  c6 : w.cell? ⟨g, o + 6, none⟩ = some q1
  c7 : w.cell? ⟨g, o + 7, none⟩ = some q2

theorem cell_block {w w' : World} {g : Nat} (h : w'.heap[g]? = w.heap[g]?) (o : Nat) : w'.cell? ⟨g, o, none⟩ = w.cell? ⟨g, o, none⟩ := World.cell?_of_block (w := w) h
theorem At7.keep {w w' : World} {g o : Nat} {x : V} {q1 q2 : Value} (h : At7 w g o x q1 q2) (e : w'.heap[g]? = w.heap[g]?) : At7 w' g o x q1 q2 :=
  ⟨(cell_block e _).trans h.c0, (cell_block e _).trans h.c1, (cell_block e _).trans h.c2, (cell_block e _).trans h.c3, (cell_block e _).trans h.c4, (cell_block e _).trans h.c5, (cell_block e _).trans h.c6⟩
theorem At8.keep {w w' : World} {g o : Nat} {key : ByteArray} {x : V} {q1 q2 : Value} (h : At8 w g o key x q1 q2) (e : w'.heap[g]? = w.heap[g]?) : At8 w' g o key x q1 q2 :=
  ⟨(cell_block e _).trans h.c0, (cell_block e _).trans h.c1, (cell_block e _).trans h.c2, (cell_block e _).trans h.c3, (cell_block e _).trans h.c4, (cell_block e _).trans h.c5, (cell_block e _).trans h.c6, (cell_block e _).trans h.c7⟩

theorem At8.box {w : World} {g : Nat} {key : ByteArray} {x : V} {q1 q2 : Value} {t : TypeId} (h : w.heap[g]? = some (.cells (pv key x q1 q2) t (0, 0))) : At8 w g 0 key x q1 q2 :=
  ⟨cell_of_row w g 0 _ t (0, 0) h, cell_of_row w g 1 _ t (0, 0) h, cell_of_row w g 2 _ t (0, 0) h, cell_of_row w g 3 _ t (0, 0) h, cell_of_row w g 4 _ t (0, 0) h, cell_of_row w g 5 _ t (0, 0) h, cell_of_row w g 6 _ t (0, 0) h, cell_of_row w g 7 _ t (0, 0) h⟩
theorem At7.box {w : World} {g : Nat} {x : V} {q1 q2 : Value} {t : TypeId} (h : w.heap[g]? = some (.cells (cv x q1 q2) t (0, 0))) : At7 w g 0 x q1 q2 :=
  ⟨cell_of_row w g 0 _ t (0, 0) h, cell_of_row w g 1 _ t (0, 0) h, cell_of_row w g 2 _ t (0, 0) h, cell_of_row w g 3 _ t (0, 0) h, cell_of_row w g 4 _ t (0, 0) h, cell_of_row w g 5 _ t (0, 0) h, cell_of_row w g 6 _ t (0, 0) h⟩

/-- q is a slice of n elements, from the cell o of the block g of S on -/
def Sl (S : Nat → Prop) (w : World) (q : Value) (g o n : Nat) : Prop :=
  ∃ ad cap, q = .slice ad n cap ∧ n ≤ 9223372036854775807 ∧ (0 < n → ad = some ⟨g, o, none⟩ ∧ S g ∧ g < w.heap.size)
theorem Sl.keep {S : Nat → Prop} {w w' : World} {q : Value} {g o n : Nat} (h : Sl S w q g o n) (e : w.heap.size ≤ w'.heap.size) : Sl S w' q g o n := by
  obtain ⟨ad, cap, h1, h2, h3⟩ := h
  exact ⟨ad, cap, h1, h2, fun h => ⟨(h3 h).1, (h3 h).2.1, Nat.lt_of_lt_of_le (h3 h).2.2 e⟩⟩
theorem Sl.mono {S S' : Nat → Prop} {w : World} {q : Value} {g o n : Nat} (h : Sl S w q g o n) (e : ∀ g, S g → g < w.heap.size → S' g) : Sl S' w q g o n := by
  obtain ⟨ad, cap, h1, h2, h3⟩ := h
  exact ⟨ad, cap, h1, h2, fun h => ⟨(h3 h).1, e _ (h3 h).2.1 (h3 h).2.2, (h3 h).2.2⟩⟩

structure FitV (x : V) : Prop where
  k0 : 0 ≤ x.k
  k1 : x.k ≤ 255
  s1 : x.s.size ≤ 140737488353000
  l1 : x.l.length * 96 ≤ 140737488353000
  p1 : x.p.length * 112 ≤ 140737488353000
  n0 : -9223372036854775808 ≤ x.n
  n1 : x.n ≤ 9223372036854775807
  f1 : x.f < 18446744073709551616

/-- the slices q1, q2 are x's list and pairs, all of them in blocks of S -/
inductive Rep (S : Nat → Prop) (w : World) : Value → Value → V → Prop where
  | mk {x : V} {q1 q2 : Value} (g1 o1 g2 o2 : Nat) (c1 d1 c2 d2 : Nat → Value) (fit : FitV x)
      (s1 : Sl S w q1 g1 o1 x.l.length) (s2 : Sl S w q2 g2 o2 x.p.length)
      (a1 : ∀ (i : Nat) (y : V), x.l[i]? = some y → At7 w g1 (o1 + i * 7) y (c1 i) (d1 i))
      (r1 : ∀ (i : Nat) (y : V), x.l[i]? = some y → Rep S w (c1 i) (d1 i) y)
      (a2 : ∀ (i : Nat) (y : ByteArray × V), x.p[i]? = some y → At8 w g2 (o2 + i * 8) y.1 y.2 (c2 i) (d2 i))
      (k2 : ∀ (i : Nat) (y : ByteArray × V), x.p[i]? = some y → y.1.size ≤ 140737488353000)
      (r2 : ∀ (i : Nat) (y : ByteArray × V), x.p[i]? = some y → Rep S w (c2 i) (d2 i) y.2) : Rep S w q1 q2 x

/-- the slice q has the values l -/
def RepL (S : Nat → Prop) (w : World) (q : Value) (l : List V) : Prop :=
  ∃ (g o : Nat) (c d : Nat → Value), Sl S w q g o l.length ∧ ∀ (i : Nat) (y : V), l[i]? = some y → At7 w g (o + i * 7) y (c i) (d i) ∧ Rep S w (c i) (d i) y
/-- the slice q has the pairs l -/
def RepP (S : Nat → Prop) (w : World) (q : Value) (l : List (ByteArray × V)) : Prop :=
  ∃ (g o : Nat) (c d : Nat → Value), Sl S w q g o l.length ∧ ∀ (i : Nat) (y : ByteArray × V), l[i]? = some y → At8 w g (o + i * 8) y.1 y.2 (c i) (d i) ∧ y.1.size ≤ 140737488353000 ∧ Rep S w (c i) (d i) y.2

theorem Rep.parts {S : Nat → Prop} {w : World} {q1 q2 : Value} {x : V} (h : Rep S w q1 q2 x) : FitV x ∧ RepL S w q1 x.l ∧ RepP S w q2 x.p := by
  cases h with
  | mk g1 o1 g2 o2 c1 d1 c2 d2 fit s1 s2 a1 r1 a2 k2 r2 =>
    exact ⟨fit, ⟨g1, o1, c1, d1, s1, fun i y h => ⟨a1 i y h, r1 i y h⟩⟩, ⟨g2, o2, c2, d2, s2, fun i y h => ⟨a2 i y h, k2 i y h, r2 i y h⟩⟩⟩
theorem Rep.of {S : Nat → Prop} {w : World} {q1 q2 : Value} {x : V} (h0 : FitV x) (h1 : RepL S w q1 x.l) (h2 : RepP S w q2 x.p) : Rep S w q1 q2 x := by
  obtain ⟨g1, o1, c1, d1, s1, h1⟩ := h1
  obtain ⟨g2, o2, c2, d2, s2, h2⟩ := h2
  exact .mk g1 o1 g2 o2 c1 d1 c2 d2 h0 s1 s2 (fun i y h => (h1 i y h).1) (fun i y h => (h1 i y h).2) (fun i y h => (h2 i y h).1) (fun i y h => (h2 i y h).2.1) (fun i y h => (h2 i y h).2.2)

/-- what all of it lies in is as it was -/
def Kept (S : Nat → Prop) (w w' : World) : Prop := w.heap.size ≤ w'.heap.size ∧ ∀ g, S g → g < w.heap.size → w'.heap[g]? = w.heap[g]?
theorem Kept.of_below {w w' : World} (h : Below w.heap.size w w') (S : Nat → Prop) : Kept S w w' := ⟨h.size, fun g _ hg => h.block g hg⟩
theorem Kept.trans {S : Nat → Prop} {a b c : World} (h : Kept S a b) (k : Kept S b c) : Kept S a c :=
  ⟨Nat.le_trans h.1 k.1, fun g hs hg => (k.2 g hs (Nat.lt_of_lt_of_le hg h.1)).trans (h.2 g hs hg)⟩

theorem lt_of_get {α : Type} {l : List α} {i : Nat} {x : α} (h : l[i]? = some x) : i < l.length := (List.getElem?_eq_some_iff.1 h).1
theorem Rep.keep {S S' : Nat → Prop} {w w' : World} {q1 q2 : Value} {x : V} (h : Rep S w q1 q2 x) (k : Kept S w w') (m : ∀ g, S g → g < w.heap.size → S' g) : Rep S' w' q1 q2 x := by
  induction h with
  | mk g1 o1 g2 o2 c1 d1 c2 d2 fit s1 s2 a1 r1 a2 k2 r2 ih1 ih2 =>
    have e1 : ∀ (i : Nat) y, _ = some y → w'.heap[g1]? = w.heap[g1]? := fun i y (h : (V.l _)[i]? = some y) => by
      obtain ⟨ad, cap, _, _, h3⟩ := s1
      obtain ⟨_, hs, hl⟩ := h3 (Nat.lt_of_le_of_lt (Nat.zero_le i) (lt_of_get h))
      exact k.2 g1 hs hl
    have e2 : ∀ (i : Nat) y, _ = some y → w'.heap[g2]? = w.heap[g2]? := fun i y (h : (V.p _)[i]? = some y) => by
      obtain ⟨ad, cap, _, _, h3⟩ := s2
      obtain ⟨_, hs, hl⟩ := h3 (Nat.lt_of_le_of_lt (Nat.zero_le i) (lt_of_get h))
      exact k.2 g2 hs hl
    exact .mk g1 o1 g2 o2 c1 d1 c2 d2 fit ((s1.mono m).keep k.1) ((s2.mono m).keep k.1) (fun i y h => (a1 i y h).keep (e1 i y h)) ih1 (fun i y h => (a2 i y h).keep (e2 i y h)) k2 ih2
theorem RepL.keep {S S' : Nat → Prop} {w w' : World} {q : Value} {l : List V} (h : RepL S w q l) (k : Kept S w w') (m : ∀ g, S g → g < w.heap.size → S' g) : RepL S' w' q l := by
  obtain ⟨g, o, c, d, s, h⟩ := h
  refine ⟨g, o, c, d, (s.mono m).keep k.1, fun i y hy => ⟨(h i y hy).1.keep ?_, (h i y hy).2.keep k m⟩⟩
  obtain ⟨ad, cap, _, _, h3⟩ := s
  obtain ⟨_, hs, hl⟩ := h3 (Nat.lt_of_le_of_lt (Nat.zero_le i) (lt_of_get hy))
  exact k.2 g hs hl
theorem RepP.keep {S S' : Nat → Prop} {w w' : World} {q : Value} {l : List (ByteArray × V)} (h : RepP S w q l) (k : Kept S w w') (m : ∀ g, S g → g < w.heap.size → S' g) : RepP S' w' q l := by
  obtain ⟨g, o, c, d, s, h⟩ := h
  refine ⟨g, o, c, d, (s.mono m).keep k.1, fun i y hy => ⟨(h i y hy).1.keep ?_, (h i y hy).2.1, (h i y hy).2.2.keep k m⟩⟩
  obtain ⟨ad, cap, _, _, h3⟩ := s
  obtain ⟨_, hs, hl⟩ := h3 (Nat.lt_of_le_of_lt (Nat.zero_le i) (lt_of_get hy))
  exact k.2 g hs hl

/-- anywhere -/
abbrev Any : Nat → Prop := fun _ => True
theorem Rep.under {w w' : World} {q1 q2 : Value} {x : V} (h : Rep Any w q1 q2 x) (b : Below w.heap.size w w') : Rep Any w' q1 q2 x := h.keep (Kept.of_below b _) fun _ _ _ => trivial
theorem RepL.under {w w' : World} {q : Value} {l : List V} (h : RepL Any w q l) (b : Below w.heap.size w w') : RepL Any w' q l := h.keep (Kept.of_below b _) fun _ _ _ => trivial
theorem RepP.under {w w' : World} {q : Value} {l : List (ByteArray × V)} (h : RepP Any w q l) (b : Below w.heap.size w w') : RepP Any w' q l := h.keep (Kept.of_below b _) fun _ _ _ => trivial

/-- the slice's form, and its elements -/
theorem RepL.form {S : Nat → Prop} {w : World} {q : Value} {l : List V} (h : RepL S w q l) : ∃ ad cap, q = .slice ad l.length cap ∧ l.length ≤ 9223372036854775807 := by
  obtain ⟨g, o, c, d, ⟨ad, cap, h1, h2, _⟩, _⟩ := h
  exact ⟨ad, cap, h1, h2⟩
theorem RepP.form {S : Nat → Prop} {w : World} {q : Value} {l : List (ByteArray × V)} (h : RepP S w q l) : ∃ ad cap, q = .slice ad l.length cap ∧ l.length ≤ 9223372036854775807 := by
  obtain ⟨g, o, c, d, ⟨ad, cap, h1, h2, _⟩, _⟩ := h
  exact ⟨ad, cap, h1, h2⟩
theorem RepL.at {S : Nat → Prop} {w : World} {ad : Option Addr} {m cap : Nat} {l : List V} (h : RepL S w (.slice ad m cap) l) {i : Nat} {y : V} (hi : l[i]? = some y) :
    ∃ g o c d, ad = some ⟨g, o, none⟩ ∧ g < w.heap.size ∧ At7 w g (o + i * 7) y c d ∧ Rep S w c d y := by
  obtain ⟨g, o, c, d, ⟨ad', cap', h1, _, h3⟩, h⟩ := h
  injection h1 with e1 e2 e3
  obtain ⟨e, _, hg⟩ := h3 (Nat.lt_of_le_of_lt (Nat.zero_le i) (lt_of_get hi))
  exact ⟨g, o, c i, d i, e1.trans e, hg, (h i y hi).1, (h i y hi).2⟩
theorem RepP.at {S : Nat → Prop} {w : World} {ad : Option Addr} {m cap : Nat} {l : List (ByteArray × V)} (h : RepP S w (.slice ad m cap) l) {i : Nat} {y : ByteArray × V} (hi : l[i]? = some y) :
    ∃ g o c d, ad = some ⟨g, o, none⟩ ∧ g < w.heap.size ∧ At8 w g (o + i * 8) y.1 y.2 c d ∧ y.1.size ≤ 140737488353000 ∧ Rep S w c d y.2 := by
  obtain ⟨g, o, c, d, ⟨ad', cap', h1, _, h3⟩, h⟩ := h
  injection h1 with e1 e2 e3
  obtain ⟨e, _, hg⟩ := h3 (Nat.lt_of_le_of_lt (Nat.zero_le i) (lt_of_get hi))
  exact ⟨g, o, c i, d i, e1.trans e, hg, (h i y hi).1, (h i y hi).2.1, (h i y hi).2.2⟩
theorem RepL.nil (S : Nat → Prop) (w : World) : RepL S w (.slice none 0 0) [] := ⟨0, 0, fun _ => .bool true, fun _ => .bool true, ⟨none, 0, rfl, by simp, fun h => absurd h (by simp)⟩, fun i y h => by simp at h⟩
theorem RepP.nil (S : Nat → Prop) (w : World) : RepP S w (.slice none 0 0) [] := ⟨0, 0, fun _ => .bool true, fun _ => .bool true, ⟨none, 0, rfl, by simp, fun h => absurd h (by simp)⟩, fun i y h => by simp at h⟩

/-- are they one -/
noncomputable def one (x y : V) : Bool := @decide (x = y) (Classical.propDecidable _)
noncomputable def oneP (x y : List (ByteArray × V)) : Bool := @decide (x = y) (Classical.propDecidable _)
theorem one_iff (x y : V) : one x y = true ↔ x = y := by unfold one; exact @decide_eq_true_iff _ (Classical.propDecidable _)
theorem oneP_iff (x y : List (ByteArray × V)) : oneP x y = true ↔ x = y := by unfold oneP; exact @decide_eq_true_iff _ (Classical.propDecidable _)
theorem one_no {x y : V} (h : x ≠ y) : one x y = false := by cases e : one x y; rfl; exact absurd ((one_iff x y).1 e) h
theorem oneP_no {x y : List (ByteArray × V)} (h : x ≠ y) : oneP x y = false := by cases e : oneP x y; rfl; exact absurd ((oneP_iff x y).1 e) h
theorem one_refl (x : V) : one x x = true := (one_iff x x).2 rfl
theorem oneP_refl (x : List (ByteArray × V)) : oneP x x = true := (oneP_iff x x).2 rfl
end Go.Proofs.YtnnnnlcpmocnfaaGreatDoor

/- ARGUMENTS THAT ARE VALUES, OPENED TO THEIR DATA. -/
namespace Go.Proofs.YtnnnnlcpmocnfaaGreatDoor
open Go.RowKit Go.ChangeShapes Go.WideShapes Go.Deep
set_option linter.unusedVariables false
set_option linter.unusedSimpArgs false

theorem Tryz.cells27 : Tryz.prog.cellsOf 27 = 7 := by kernel_rfl
theorem Tryz.cells29 : Tryz.prog.cellsOf 29 = 8 := by kernel_rfl
theorem Tryz.bytes27 : Tryz.prog.bytesOf 27 = 96 := by kernel_rfl
theorem Tryz.bytes29 : Tryz.prog.bytesOf 29 = 112 := by kernel_rfl
theorem Tryz.cells22 : Tryz.prog.cellsOf 22 = 1 := by kernel_rfl
theorem Tryz.cells9 : Tryz.prog.cellsOf 9 = 1 := by kernel_rfl
theorem Tryz.cells4 : Tryz.prog.cellsOf 4 = 1 := by kernel_rfl
theorem Tryz.cells2 : Tryz.prog.cellsOf 2 = 1 := by kernel_rfl
theorem Tryz.cells23 : Tryz.prog.cellsOf 23 = 1 := by kernel_rfl
theorem Tryz.cells24 : Tryz.prog.cellsOf 24 = 1 := by kernel_rfl
theorem Tryz.cells25 : Tryz.prog.cellsOf 25 = 1 := by kernel_rfl

theorem pick_list {α : Type} {P : Nat → α → Prop} : ∀ n, (∀ i, i < n → ∃ x, P i x) → ∃ l : List α, l.length = n ∧ ∀ i x, l[i]? = some x → P i x := by
  intro n
  induction n with
  | zero => intro _; exact ⟨[], rfl, fun i x h => by simp at h⟩
  | succ n ih =>
    intro h
    obtain ⟨l, hl, hp⟩ := ih fun i hi => h i (by omega)
    obtain ⟨x, hx⟩ := h n (by omega)
    refine ⟨l ++ [x], by simp [hl], fun i y hy => ?_⟩
    by_cases hi : i < n
    · rw [List.getElem?_append_left (by omega)] at hy; exact hp i y hy
    · have hin : i < (l ++ [x]).length := (List.getElem?_eq_some_iff.1 hy).1
      have e : i = n := by simp at hin; omega
      subst e
      rw [List.getElem?_append_right (by omega), hl] at hy
      simp at hy
      subst hy
      exact hx

section
variable {H : Type} {enc : TypeId × Value → H} {w : World} {base : Nat} {spare : Nat → Bool} {held : Bool}

theorem float_wf {k : FloatKind} {t : TypeId} {fuel : Nat} {cs : List Value} {x : DataW H × List MemPlace} (ht : Tryz.prog.underlying t = some (.float k)) (h : DataW.trod enc Tryz.prog w base spare held fuel t cs = some x) :
    ∃ b, cs = [.float k b] ∧ (Lit.float k b).wf = true := by
  cases fuel with
  | zero => simp [DataW.trod] at h
  | succ n =>
    unfold DataW.trod at h
    rw [ht] at h
    split at h <;> simp_all

/-- no part of the datum is beyond the form's reach -/
def Lit1 (t : TypeId) (d : DataW H) : Prop := (DataW.weights Tryz.prog t d).all (· ≤ reachBytes) = true
theorem Lit1.all {e : TypeId} : ∀ {ds : List (DataW H)}, (DataW.weightsAll Tryz.prog e ds).all (· ≤ reachBytes) = true → ∀ d ∈ ds, Lit1 e d := by
  intro ds
  induction ds with
  | nil => intro _ d hd; cases hd
  | cons x r ih =>
    intro h d hd
    rw [DataW.weightsAll, List.all_append, Bool.and_eq_true] at h
    rcases List.mem_cons.1 hd with rfl | hd
    · exact h.1
    · exact ih h.2 d hd
theorem Lit1.each : ∀ {ts : List TypeId} {ds : List (DataW H)}, (DataW.weightsEach Tryz.prog ts ds).all (· ≤ reachBytes) = true → ∀ (i : Nat) t d, ts[i]? = some t → ds[i]? = some d → Lit1 t d := by
  intro ts
  induction ts with
  | nil => intro ds _ i t d h; simp at h
  | cons t0 ts ih =>
    intro ds h i t d ht hd
    cases ds with
    | nil => simp at hd
    | cons d0 ds =>
      rw [DataW.weightsEach, List.all_append, Bool.and_eq_true] at h
      cases i with
      | zero => simp at ht hd; subst ht; subst hd; exact h.1
      | succ i => exact ih h.2 i t d (by simpa using ht) (by simpa using hd)
theorem Lit1.slice {t e : TypeId} (ht : Tryz.prog.underlying t = some (.slice e)) {a b : List (DataW H)} (h : Lit1 t (.slice a b)) : (a.length + b.length) * Tryz.prog.bytesOf e ≤ reachBytes ∧ ∀ d ∈ a, Lit1 e d := by
  unfold Lit1 at h
  simp only [DataW.weights, ht, List.all_cons, List.all_append, Bool.and_eq_true, decide_eq_true_eq] at h
  exact ⟨h.1, Lit1.all h.2.1⟩
theorem Lit1.struct {t : TypeId} {fs : Array Field} (ht : Tryz.prog.underlying t = some (.struct fs)) {a : List (DataW H)} (h : Lit1 t (.agg a)) (i : Nat) (u : TypeId) (d : DataW H) (hu : (fs.toList.map (·.type))[i]? = some u) (hd : a[i]? = some d) : Lit1 u d := by
  unfold Lit1 at h
  simp only [DataW.weights, ht] at h
  exact Lit1.each h i u d hu hd
theorem Lit1.string {t : TypeId} {l : List UInt8} (h : Lit1 t (.lit (.string l) : DataW H)) : l.length ≤ 140737488351232 := by
  have := List.all_eq_true.1 h l.length (by simp [DataW.weights])
  have h2 : l.length ≤ reachBytes := of_decide_eq_true this
  exact h2

/-- a slice's elements, whatever they are -/
theorem open_elems {t e : TypeId} {fuel : Nat} {cs : List Value} {x : DataW H × List MemPlace} (ht : Tryz.prog.underlying t = some (.slice e)) (n : Nat) (hn : Tryz.prog.cellsOf e = n) (hpos : 0 < n) (hx : Lit1 t x.1)
    (h : DataW.trod enc Tryz.prog w base spare held fuel t cs = some x) :
    ∃ (q : Value) (g o len : Nat), cs = [q] ∧ Sl Any w q g o len ∧ len * Tryz.prog.bytesOf e ≤ 140737488351232 ∧ ∀ i, i < len → ∃ m cs' y, m < fuel ∧ cs'.length = n ∧ Lit1 e y.1 ∧ DataW.trod enc Tryz.prog w base spare held m e cs' = some y ∧ ∀ j, j < n → w.cell? ⟨g, o + i * n + j, none⟩ = cs'[j]? := by
  rcases DataW.trod_slice ht h with ⟨hcs, _⟩ | ⟨a, len, cap, elems, rest, m, hfu, hcs, hxe, _, hl, hm, hlen, hel, _, _⟩
  · exact ⟨_, 0, 0, 0, hcs, ⟨none, 0, rfl, by simp, fun h => absurd h (by simp)⟩, by simp, fun i hi => absurd hi (by simp)⟩
  · rw [hxe] at hx
    obtain ⟨hw1, hw2⟩ := Lit1.slice ht hx
    simp only [List.length_map, reachBytes] at hw1
    have hw3 : len * Tryz.prog.bytesOf e ≤ 140737488351232 := by
      have : elems.length * Tryz.prog.bytesOf e ≤ (elems.length + rest.length) * Tryz.prog.bytesOf e := Nat.mul_le_mul_right _ (by omega)
      rw [← hlen]; omega
    rw [hn] at hel
    have hP : ∀ i, i < len → ∃ cs' y, w.cells? base (a.add (i * n)) n = some cs' ∧ Lit1 e y.1 ∧ DataW.trod enc Tryz.prog w base spare held m e cs' = some y := by
      intro i hi
      have h1 := hel i hi
      have h2 : elems[i]? = some (elems[i]'(by omega)) := by simp
      rw [h2, Option.bind_eq_some_iff] at h1
      obtain ⟨cs', h3, h4⟩ := h1
      exact ⟨cs', _, h3, hw2 _ (List.mem_map.2 ⟨_, List.mem_of_getElem? h2, rfl⟩), h4⟩
    by_cases h0 : len = 0
    · subst h0
      exact ⟨_, 0, 0, 0, hcs, ⟨some a, cap, rfl, by simp, fun h => absurd h (by simp)⟩, by simp, fun i hi => absurd hi (by simp)⟩
    obtain ⟨b, off, spot⟩ := a
    have hs : spot = none ∧ b < w.heap.size := by
      obtain ⟨cs', y, hc, _⟩ := hP 0 (by omega)
      obtain ⟨_, hlc, hcell⟩ := World.cells?_some hc
      have hc0 := hcell 0 (by omega)
      have he : cs'[0]? = some (cs'[0]'(by omega)) := by simp
      rw [he] at hc0
      have hsp : spot = none := by simpa [Addr.add] using World.cell?_spot hc0
      subst hsp
      simp only [Addr.add_lit] at hc0
      exact ⟨rfl, World.block_lt_of_cell? w _ hc0⟩
    obtain ⟨rfl, hb⟩ := hs
    refine ⟨_, b, off, len, hcs, ⟨_, cap, rfl, by have hm' : cap ≤ 9223372036854775807 := hm; omega, fun _ => ⟨rfl, trivial, hb⟩⟩, hw3, fun i hi => ?_⟩
    obtain ⟨cs', y, hc, hl1, ht'⟩ := hP i hi
    obtain ⟨_, hlc, hcell⟩ := World.cells?_some hc
    refine ⟨m, cs', y, by omega, hlc, hl1, ht', fun j hj => ?_⟩
    have := hcell j hj
    simpa only [Addr.add_lit] using this

theorem list7 {l : List Value} (h : l.length = 7) : ∃ a b c d e f g, l = [a, b, c, d, e, f, g] := by
  match l, h with
  | [a, b, c, d, e, f, g], _ => exact ⟨a, b, c, d, e, f, g, rfl⟩
theorem list8 {l : List Value} (h : l.length = 8) : ∃ a b c d e f g i, l = [a, b, c, d, e, f, g, i] := by
  match l, h with
  | [a, b, c, d, e, f, g, i], _ => exact ⟨a, b, c, d, e, f, g, i, rfl⟩
end

section
variable {H : Type} {enc : TypeId × Value → H} {w : World} {base : Nat} {spare : Nat → Bool} {held : Bool}
def OpenV (enc : TypeId × Value → H) (w : World) (base : Nat) (spare : Nat → Bool) (held : Bool) (fuel : Nat) : Prop :=
  ∀ cs x, cs.length = 7 → Lit1 27 x.1 → DataW.trod enc Tryz.prog w base spare held fuel 27 cs = some x → ∃ v q1 q2, cs = (cv v q1 q2).toList ∧ Rep Any w q1 q2 v
def OpenP (enc : TypeId × Value → H) (w : World) (base : Nat) (spare : Nat → Bool) (held : Bool) (fuel : Nat) : Prop :=
  ∀ cs x, cs.length = 8 → Lit1 29 x.1 → DataW.trod enc Tryz.prog w base spare held fuel 29 cs = some x → ∃ key v q1 q2, cs = .string key :: (cv v q1 q2).toList ∧ key.size ≤ 140737488353000 ∧ Rep Any w q1 q2 v

theorem open_list {fuel : Nat} {cs : List Value} {x : DataW H × List MemPlace} (hx : Lit1 24 x.1) (ih : ∀ m, m < fuel → OpenV enc w base spare held m) (h : DataW.trod enc Tryz.prog w base spare held fuel 24 cs = some x) :
    ∃ q l, cs = [q] ∧ RepL Any w q l ∧ l.length * 96 ≤ 140737488351232 := by
  obtain ⟨q, g, o, len, rfl, hs, hb, he⟩ := open_elems Tryz.underlying24 7 Tryz.cells27 (by omega) hx h
  rw [Tryz.bytes27] at hb
  have hP : ∀ i, i < len → ∃ t : V × Value × Value, At7 w g (o + i * 7) t.1 t.2.1 t.2.2 ∧ Rep Any w t.2.1 t.2.2 t.1 := by
    intro i hi
    obtain ⟨m, cs', y, hm, hlc, hl1, ht, hc⟩ := he i hi
    obtain ⟨v, q1, q2, rfl, hr⟩ := ih m hm cs' y hlc hl1 ht
    exact ⟨⟨v, q1, q2⟩, ⟨hc 0 (by omega), hc 1 (by omega), hc 2 (by omega), hc 3 (by omega), hc 4 (by omega), hc 5 (by omega), hc 6 (by omega)⟩, hr⟩
  obtain ⟨ts, hl, hts⟩ := pick_list len hP
  refine ⟨q, ts.map (·.1), rfl, ⟨g, o, fun i => ((ts[i]?).map (·.2.1)).getD (.bool true), fun i => ((ts[i]?).map (·.2.2)).getD (.bool true), by rw [List.length_map, hl]; exact hs, fun i y hy => ?_⟩, by rw [List.length_map, hl]; exact hb⟩
  rw [List.getElem?_map, Option.map_eq_some_iff] at hy
  obtain ⟨t, ht, rfl⟩ := hy
  simp only [ht, Option.map_some, Option.getD_some]
  exact hts i t ht
theorem open_plist {fuel : Nat} {cs : List Value} {x : DataW H × List MemPlace} (hx : Lit1 25 x.1) (ih : ∀ m, m < fuel → OpenP enc w base spare held m) (h : DataW.trod enc Tryz.prog w base spare held fuel 25 cs = some x) :
    ∃ q l, cs = [q] ∧ RepP Any w q l ∧ l.length * 112 ≤ 140737488351232 := by
  obtain ⟨q, g, o, len, rfl, hs, hb, he⟩ := open_elems Tryz.underlying25 8 Tryz.cells29 (by omega) hx h
  rw [Tryz.bytes29] at hb
  have hP : ∀ i, i < len → ∃ t : (ByteArray × V) × Value × Value, At8 w g (o + i * 8) t.1.1 t.1.2 t.2.1 t.2.2 ∧ t.1.1.size ≤ 140737488353000 ∧ Rep Any w t.2.1 t.2.2 t.1.2 := by
    intro i hi
    obtain ⟨m, cs', y, hm, hlc, hl1, ht, hc⟩ := he i hi
    obtain ⟨key, v, q1, q2, rfl, hk, hr⟩ := ih m hm cs' y hlc hl1 ht
    exact ⟨⟨⟨key, v⟩, q1, q2⟩, ⟨hc 0 (by omega), hc 1 (by omega), hc 2 (by omega), hc 3 (by omega), hc 4 (by omega), hc 5 (by omega), hc 6 (by omega), hc 7 (by omega)⟩, hk, hr⟩
  obtain ⟨ts, hl, hts⟩ := pick_list len hP
  refine ⟨q, ts.map (·.1), rfl, ⟨g, o, fun i => ((ts[i]?).map (·.2.1)).getD (.bool true), fun i => ((ts[i]?).map (·.2.2)).getD (.bool true), by rw [List.length_map, hl]; exact hs, fun i y hy => ?_⟩, by rw [List.length_map, hl]; exact hb⟩
  rw [List.getElem?_map, Option.map_eq_some_iff] at hy
  obtain ⟨t, ht, rfl⟩ := hy
  simp only [ht, Option.map_some, Option.getD_some]
  exact hts i t ht

set_option maxRecDepth 100000 in
theorem open_both : ∀ fuel, OpenV enc w base spare held fuel ∧ OpenP enc w base spare held fuel := by
  intro fuel
  induction fuel using Nat.strongRecOn with
  | ind fuel ih =>
    constructor
    · intro cs x hl hw h
      obtain ⟨c0, c1, c2, c3, c4, c5, c6, rfl⟩ := list7 hl
      obtain ⟨xs, n, hf, hxe, _, hlen, hall⟩ := DataW.trod_struct Tryz.underlying27 h
      rw [hxe] at hw
      match xs, hlen with
      | [y0, y1, y2, y3, y4, y5, y6], _ =>
        have g0 := hall 0 _ rfl
        have g1 := hall 1 _ rfl
        have g2 := hall 2 _ rfl
        have g3 := hall 3 _ rfl
        have g4 := hall 4 _ rfl
        have g5 := hall 5 _ rfl
        have g6 := hall 6 _ rfl
        simp [Tryz.cells22, Tryz.cells9, Tryz.cells4, Tryz.cells2, Tryz.cells23, Tryz.cells24, Tryz.cells25] at g0 g1 g2 g3 g4 g5 g6
        obtain ⟨k, e0, _, wk⟩ := DataW.trod_int Tryz.underlying22 g0
        obtain ⟨s, e1, x1, ws⟩ := DataW.trod_string Tryz.underlying9 g1
        obtain ⟨b, e2, _⟩ := DataW.trod_bool Tryz.underlying4 g2
        obtain ⟨m, e3, _, hm⟩ := DataW.trod_int Tryz.underlying2 g3
        obtain ⟨f, e4, wf⟩ := float_wf Tryz.underlying23 g4
        have w1 := Lit1.struct Tryz.underlying27 hw 1 9 _ (by rfl) rfl
        have w5 := Lit1.struct Tryz.underlying27 hw 5 24 _ (by rfl) rfl
        have w6 := Lit1.struct Tryz.underlying27 hw 6 25 _ (by rfl) rfl
        obtain ⟨q1, l, e5, r1, b1⟩ := open_list w5 (fun m hm => (ih m (by omega)).1) g5
        obtain ⟨q2, p, e6, r2, b2⟩ := open_plist w6 (fun m hm => (ih m (by omega)).2) g6
        simp only [List.cons.injEq, and_true] at e0 e1 e2 e3 e4 e5 e6
        subst e0; subst e1; subst e2; subst e3; subst e4; subst e5; subst e6
        have bk := bounds_u8 wk
        have bm := bounds_i64 hm
        rw [x1] at w1
        have ws' : s.size ≤ 140737488351232 := by have := Lit1.string w1; simpa using this
        refine ⟨.mk k s b m f l p, c5, c6, rfl, Rep.of ⟨bk.1, bk.2, by show s.size ≤ _; omega, by show l.length * 96 ≤ _; omega, by show p.length * 112 ≤ _; omega, bm.1, bm.2, ?_⟩ r1 r2⟩
        simpa [Lit.wf, V.f] using wf
    · intro cs x hl hw h
      obtain ⟨c0, c1, c2, c3, c4, c5, c6, c7, rfl⟩ := list8 hl
      obtain ⟨xs, n, hf, hxe, _, hlen, hall⟩ := DataW.trod_struct Tryz.underlying29 h
      rw [hxe] at hw
      match xs, hlen with
      | [y0, y1], _ =>
        have g0 := hall 0 _ rfl
        have g1 := hall 1 _ rfl
        simp [Tryz.cells9, Tryz.cells27] at g0 g1
        obtain ⟨s, e0, x1, ws⟩ := DataW.trod_string Tryz.underlying9 g0
        have w0 := Lit1.struct Tryz.underlying29 hw 0 9 _ (by rfl) rfl
        have w1 := Lit1.struct Tryz.underlying29 hw 1 27 _ (by rfl) rfl
        rw [x1] at w0
        have ws' : s.size ≤ 140737488351232 := by have := Lit1.string w0; simpa using this
        obtain ⟨v, q1, q2, e1, r⟩ := (ih n (by omega)).1 _ _ (by rfl) w1 g1
        simp only [List.cons.injEq, and_true] at e0
        subst e0
        exact ⟨s, v, q1, q2, by rw [e1], by omega, r⟩
end

set_option maxRecDepth 100000 in
/-- an argument that is a value -/
theorem arg_val {H : Type} {enc : TypeId × Value → H} {w : World} {base : Nat} {spare : Nat → Bool} {held : Bool} {r : Reach} {b0 : Nat} {v : Value} {d : DataW H} {p : List MemPlace}
    (hv : Value.okWide Tryz.prog w r b0 27 v) (h : DataW.Trod enc Tryz.prog w base spare held 27 v d p) (hx : Lit1 27 d) : ∃ x q1 q2, v = .agg (cv x q1 q2) ∧ Rep Any w q1 q2 x := by
  obtain ⟨cs, rfl, hsz⟩ := okWide_struct Tryz.underlying27 hv
  rw [Tryz.cells27] at hsz
  obtain ⟨fuel, hf⟩ := h
  obtain ⟨x, q1, q2, e, hr⟩ := (open_both fuel).1 _ _ (by simpa [Value.cells] using hsz) hx hf
  refine ⟨x, q1, q2, ?_, hr⟩
  have : cs = cv x q1 q2 := by
    apply Array.toList_inj.1
    simpa [Value.cells] using e
  rw [this]
set_option maxRecDepth 100000 in
/-- an argument that is a pair -/
theorem arg_pair {H : Type} {enc : TypeId × Value → H} {w : World} {base : Nat} {spare : Nat → Bool} {held : Bool} {r : Reach} {b0 : Nat} {v : Value} {d : DataW H} {p : List MemPlace}
    (hv : Value.okWide Tryz.prog w r b0 29 v) (h : DataW.Trod enc Tryz.prog w base spare held 29 v d p) (hx : Lit1 29 d) :
    ∃ key x q1 q2, v = .agg (#[.string key] ++ cv x q1 q2) ∧ key.size ≤ 140737488353000 ∧ Rep Any w q1 q2 x := by
  obtain ⟨cs, rfl, hsz⟩ := okWide_struct Tryz.underlying29 hv
  rw [Tryz.cells29] at hsz
  obtain ⟨fuel, hf⟩ := h
  obtain ⟨key, x, q1, q2, e, hk, hr⟩ := (open_both fuel).2 _ _ (by simpa [Value.cells] using hsz) hx hf
  refine ⟨key, x, q1, q2, ?_, hk, hr⟩
  have : cs = #[.string key] ++ cv x q1 q2 := by
    apply Array.toList_inj.1
    simpa [Value.cells] using e
  rw [this]
set_option maxRecDepth 100000 in
/-- an argument that is a list of pairs -/
theorem arg_pairs {H : Type} {enc : TypeId × Value → H} {w : World} {base : Nat} {spare : Nat → Bool} {held : Bool} {r : Reach} {b0 : Nat} {v : Value} {d : DataW H} {p : List MemPlace}
    (hv : Value.okWide Tryz.prog w r b0 25 v) (h : DataW.Trod enc Tryz.prog w base spare held 25 v d p) (hx : Lit1 25 d) : ∃ l, RepP Any w v l ∧ l.length * 112 ≤ 140737488351232 := by
  obtain ⟨ad, len, cap, rfl⟩ := okWide_slice Tryz.underlying25 hv
  obtain ⟨fuel, hf⟩ := h
  obtain ⟨q, l, e, hr, hb⟩ := open_plist hx (fun m _ => (open_both m).2) hf
  simp [Value.cells] at e
  exact ⟨l, by rw [e]; exact hr, hb⟩
end Go.Proofs.YtnnnnlcpmocnfaaGreatDoor
