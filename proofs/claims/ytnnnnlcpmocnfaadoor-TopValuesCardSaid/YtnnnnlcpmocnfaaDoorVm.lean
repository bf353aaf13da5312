/- VALUES AS DATA: the model of a value, and how one lies in memory. -/
import Derived.Test.YtnnnnlcpmocnfaaDoorVal7
namespace Go.Proofs.YtnnnnlcpmocnfaaDoor
open Go.RowKit
set_option linter.unusedVariables false
set_option linter.unusedSimpArgs false

/-- a value: its kind, text, truth, int, float's bits, list, pairs -/
inductive V where
  | mk (k : Int) (s : ByteArray) (b : Bool) (n : Int) (f : Nat) (l : List V) (p : List (ByteArray × V))
def V.k : V → Int | .mk k _ _ _ _ _ _ => k
def V.s : V → ByteArray | .mk _ s _ _ _ _ _ => s
def V.b : V → Bool | .mk _ _ b _ _ _ _ => b
def V.n : V → Int | .mk _ _ _ n _ _ _ => n
def V.f : V → Nat | .mk _ _ _ _ f _ _ => f
def V.l : V → List V | .mk _ _ _ _ _ l _ => l
def V.p : V → List (ByteArray × V) | .mk _ _ _ _ _ _ p => p
theorem V.eta (x : V) : x = .mk x.k x.s x.b x.n x.f x.l x.p := by cases x; rfl
theorem V.size_l {x y : V} (h : y ∈ x.l) : SizeOf.sizeOf y < SizeOf.sizeOf x := by
  cases x with
  | mk k s b n f l p =>
    have := List.sizeOf_lt_of_mem h
    simp only [V.l, V.mk.sizeOf_spec] at this ⊢
    omega
theorem V.size_p {x : V} {y : ByteArray × V} (h : y ∈ x.p) : SizeOf.sizeOf y.2 < SizeOf.sizeOf x := by
  cases x with
  | mk k s b n f l p =>
    have h1 := List.sizeOf_lt_of_mem h
    have h2 : SizeOf.sizeOf y.2 < SizeOf.sizeOf y := by cases y; simp only [Prod.mk.sizeOf_spec]; omega
    simp only [V.p, V.mk.sizeOf_spec] at h1 ⊢
    omega

/-- a value's seven cells -/
abbrev cv (x : V) (q1 q2 : Value) : Array Value := gv x.k x.s x.b x.n x.f q1 q2

/-- a pair's eight cells -/
abbrev pv (key : ByteArray) (x : V) (q1 q2 : Value) : Array Value := #[.string key, .int .u8 x.k, .string x.s, .bool x.b, .int .i64 x.n, .float .f64 x.f, q1, q2]

structure At7 (w : World) (g o : Nat) (x : V) (q1 q2 : Value) : Prop where
  c0 : w.cell? ⟨g, o, none⟩ = some (.int .u8 x.k)
  c1 : w.cell? ⟨g, o + 1, none⟩ = some (.string x.s)
  c2 : w.cell? ⟨g, o + 2, none⟩ = some (.bool x.b)
  c3 : w.cell? ⟨g, o + 3, none⟩ = some (.int .i64 x.n)
  c4 : w.cell? ⟨g, o + 4, none⟩ = some (.float .f64 x.f)
  c5 : w.cell? ⟨g, o + 5, none⟩ = some q1
  c6 : w.cell? ⟨g, o + 6, none⟩ = some q2
structure At8 (w : World) (g o : Nat) (key : ByteArray) (x : V) (q1 q2 : Value) : Prop where
  c0 : w.cell? ⟨g, o, none⟩ = some (.string key)
  c1 : w.cell? ⟨g, o + 1, none⟩ = some (.int .u8 x.k)
  c2 : w.cell? ⟨g, o + 2, none⟩ = some (.string x.s)
  c3 : w.cell? ⟨g, o + 3, none⟩ = some (.bool x.b)
  c4 : w.cell? ⟨g, o + 4, none⟩ = some (.int .i64 x.n)
  c5 : w.cell? ⟨g, o + 5, none⟩ = some (.float .f64 x.f)
  c6 : w.cell? ⟨g, o + 6, none⟩ = some q1
  c7 : w.cell? ⟨g, o + 7, none⟩ = some q2

theorem cell_block {w w' : World} {g : Nat} (h : w'.heap[g]? = w.heap[g]?) (o : Nat) : w'.cell? ⟨g, o, none⟩ = w.cell? ⟨g, o, none⟩ := World.cell?_of_block (w := w) h
theorem At7.keep {w w' : World} {g o : Nat} {x : V} {q1 q2 : Value} (h : At7 w g o x q1 q2) (e : w'.heap[g]? = w.heap[g]?) : At7 w' g o x q1 q2 :=
  ⟨(cell_block e _).trans h.c0, (cell_block e _).trans h.c1, (cell_block e _).trans h.c2, (cell_block e _).trans h.c3, (cell_block e _).trans h.c4, (cell_block e _).trans h.c5, (cell_block e _).trans h.c6⟩
theorem At8.keep {w w' : World} {g o : Nat} {key : ByteArray} {x : V} {q1 q2 : Value} (h : At8 w g o key x q1 q2) (e : w'.heap[g]? = w.heap[g]?) : At8 w' g o key x q1 q2 :=
  ⟨(cell_block e _).trans h.c0, (cell_block e _).trans h.c1, (cell_block e _).trans h.c2, (cell_block e _).trans h.c3, (cell_block e _).trans h.c4, (cell_block e _).trans h.c5, (cell_block e _).trans h.c6, (cell_block e _).trans h.c7⟩

theorem At8.box {w : World} {g : Nat} {key : ByteArray} {x : V} {q1 q2 : Value} {t : TypeId} (h : w.heap[g]? = some (.cells (pv key x q1 q2) t (0, 0))) : At8 w g 0 key x q1 q2 :=
  ⟨cell_of_row w g 0 _ t (0, 0) h, cell_of_row w g 1 _ t (0, 0) h, cell_of_row w g 2 _ t (0, 0) h, cell_of_row w g 3 _ t (0, 0) h, cell_of_row w g 4 _ t (0, 0) h, cell_of_row w g 5 _ t (0, 0) h, cell_of_row w g 6 _ t (0, 0) h, cell_of_row w g 7 _ t (0, 0) h⟩
theorem At7.box {w : World} {g : Nat} {x : V} {q1 q2 : Value} {t : TypeId} (h : w.heap[g]? = some (.cells (cv x q1 q2) t (0, 0))) : At7 w g 0 x q1 q2 :=
  ⟨cell_of_row w g 0 _ t (0, 0) h, cell_of_row w g 1 _ t (0, 0) h, cell_of_row w g 2 _ t (0, 0) h, cell_of_row w g 3 _ t (0, 0) h, cell_of_row w g 4 _ t (0, 0) h, cell_of_row w g 5 _ t (0, 0) h, cell_of_row w g 6 _ t (0, 0) h⟩

/-- q is a slice of n elements, from the cell o of the block g of S on -/
def Sl (S : Nat → Prop) (w : World) (q : Value) (g o n : Nat) : Prop :=
  ∃ ad cap, q = .slice ad n cap ∧ n ≤ 9223372036854775807 ∧ (0 < n → ad = some ⟨g, o, none⟩ ∧ S g ∧ g < w.heap.size)
theorem Sl.keep {S : Nat → Prop} {w w' : World} {q : Value} {g o n : Nat} (h : Sl S w q g o n) (e : w.heap.size ≤ w'.heap.size) : Sl S w' q g o n := by
  obtain ⟨ad, cap, h1, h2, h3⟩ := h
  exact ⟨ad, cap, h1, h2, fun h => ⟨(h3 h).1, (h3 h).2.1, Nat.lt_of_lt_of_le (h3 h).2.2 e⟩⟩
theorem Sl.mono {S S' : Nat → Prop} {w : World} {q : Value} {g o n : Nat} (h : Sl S w q g o n) (e : ∀ g, S g → g < w.heap.size → S' g) : Sl S' w q g o n := by
  obtain ⟨ad, cap, h1, h2, h3⟩ := h
  exact ⟨ad, cap, h1, h2, fun h => ⟨(h3 h).1, e _ (h3 h).2.1 (h3 h).2.2, (h3 h).2.2⟩⟩

structure FitV (x : V) : Prop where
  k0 : 0 ≤ x.k
  k1 : x.k ≤ 255
  s1 : x.s.size ≤ 140737488353000
  l1 : x.l.length * 96 ≤ 140737488353000
  p1 : x.p.length * 112 ≤ 140737488353000
  n0 : -9223372036854775808 ≤ x.n
  n1 : x.n ≤ 9223372036854775807
  f1 : x.f < 18446744073709551616

/-- the slices q1, q2 are x's list and pairs, all of them in blocks of S -/
inductive Rep (S : Nat → Prop) (w : World) : Value → Value → V → Prop where
  | mk {x : V} {q1 q2 : Value} (g1 o1 g2 o2 : Nat) (c1 d1 c2 d2 : Nat → Value) (fit : FitV x)
      (s1 : Sl S w q1 g1 o1 x.l.length) (s2 : Sl S w q2 g2 o2 x.p.length)
      (a1 : ∀ (i : Nat) (y : V), x.l[i]? = some y → At7 w g1 (o1 + i * 7) y (c1 i) (d1 i))
      (r1 : ∀ (i : Nat) (y : V), x.l[i]? = some y → Rep S w (c1 i) (d1 i) y)
      (a2 : ∀ (i : Nat) (y : ByteArray × V), x.p[i]? = some y → At8 w g2 (o2 + i * 8) y.1 y.2 (c2 i) (d2 i))
      (k2 : ∀ (i : Nat) (y : ByteArray × V), x.p[i]? = some y → y.1.size ≤ 140737488353000)
      (r2 : ∀ (i : Nat) (y : ByteArray × V), x.p[i]? = some y → Rep S w (c2 i) (d2 i) y.2) : Rep S w q1 q2 x

/-- the slice q has the values l -/
def RepL (S : Nat → Prop) (w : World) (q : Value) (l : List V) : Prop :=
  ∃ (g o : Nat) (c d : Nat → Value), Sl S w q g o l.length ∧ ∀ (i : Nat) (y : V), l[i]? = some y → At7 w g (o + i * 7) y (c i) (d i) ∧ Rep S w (c i) (d i) y
/-- the slice q has the pairs l -/
def RepP (S : Nat → Prop) (w : World) (q : Value) (l : List (ByteArray × V)) : Prop :=
  ∃ (g o : Nat) (c d : Nat → Value), Sl S w q g o l.length ∧ ∀ (i : Nat) (y : ByteArray × V), l[i]? = some y → At8 w g (o + i * 8) y.1 y.2 (c i) (d i) ∧ y.1.size ≤ 140737488353000 ∧ Rep S w (c i) (d i) y.2

theorem Rep.parts {S : Nat → Prop} {w : World} {q1 q2 : Value} {x : V} (h : Rep S w q1 q2 x) : FitV x ∧ RepL S w q1 x.l ∧ RepP S w q2 x.p := by
  cases h with
  | mk g1 o1 g2 o2 c1 d1 c2 d2 fit s1 s2 a1 r1 a2 k2 r2 =>
    exact ⟨fit, ⟨g1, o1, c1, d1, s1, fun i y h => ⟨a1 i y h, r1 i y h⟩⟩, ⟨g2, o2, c2, d2, s2, fun i y h => ⟨a2 i y h, k2 i y h, r2 i y h⟩⟩⟩
theorem Rep.of {S : Nat → Prop} {w : World} {q1 q2 : Value} {x : V} (h0 : FitV x) (h1 : RepL S w q1 x.l) (h2 : RepP S w q2 x.p) : Rep S w q1 q2 x := by
  obtain ⟨g1, o1, c1, d1, s1, h1⟩ := h1
  obtain ⟨g2, o2, c2, d2, s2, h2⟩ := h2
  exact .mk g1 o1 g2 o2 c1 d1 c2 d2 h0 s1 s2 (fun i y h => (h1 i y h).1) (fun i y h => (h1 i y h).2) (fun i y h => (h2 i y h).1) (fun i y h => (h2 i y h).2.1) (fun i y h => (h2 i y h).2.2)

/-- what all of it lies in is as it was -/
def Kept (S : Nat → Prop) (w w' : World) : Prop := w.heap.size ≤ w'.heap.size ∧ ∀ g, S g → g < w.heap.size → w'.heap[g]? = w.heap[g]?
theorem Kept.of_below {w w' : World} (h : Below w.heap.size w w') (S : Nat → Prop) : Kept S w w' := ⟨h.size, fun g _ hg => h.block g hg⟩
theorem Kept.trans {S : Nat → Prop} {a b c : World} (h : Kept S a b) (k : Kept S b c) : Kept S a c :=
  ⟨Nat.le_trans h.1 k.1, fun g hs hg => (k.2 g hs (Nat.lt_of_lt_of_le hg h.1)).trans (h.2 g hs hg)⟩

theorem lt_of_get {α : Type} {l : List α} {i : Nat} {x : α} (h : l[i]? = some x) : i < l.length := (List.getElem?_eq_some_iff.1 h).1
theorem Rep.keep {S S' : Nat → Prop} {w w' : World} {q1 q2 : Value} {x : V} (h : Rep S w q1 q2 x) (k : Kept S w w') (m : ∀ g, S g → g < w.heap.size → S' g) : Rep S' w' q1 q2 x := by
  induction h with
  | mk g1 o1 g2 o2 c1 d1 c2 d2 fit s1 s2 a1 r1 a2 k2 r2 ih1 ih2 =>
    have e1 : ∀ (i : Nat) y, _ = some y → w'.heap[g1]? = w.heap[g1]? := fun i y (h : (V.l _)[i]? = some y) => by
      obtain ⟨ad, cap, _, _, h3⟩ := s1
      obtain ⟨_, hs, hl⟩ := h3 (Nat.lt_of_le_of_lt (Nat.zero_le i) (lt_of_get h))
      exact k.2 g1 hs hl
    have e2 : ∀ (i : Nat) y, _ = some y → w'.heap[g2]? = w.heap[g2]? := fun i y (h : (V.p _)[i]? = some y) => by
      obtain ⟨ad, cap, _, _, h3⟩ := s2
      obtain ⟨_, hs, hl⟩ := h3 (Nat.lt_of_le_of_lt (Nat.zero_le i) (lt_of_get h))
      exact k.2 g2 hs hl
    exact .mk g1 o1 g2 o2 c1 d1 c2 d2 fit ((s1.mono m).keep k.1) ((s2.mono m).keep k.1) (fun i y h => (a1 i y h).keep (e1 i y h)) ih1 (fun i y h => (a2 i y h).keep (e2 i y h)) k2 ih2
theorem RepL.keep {S S' : Nat → Prop} {w w' : World} {q : Value} {l : List V} (h : RepL S w q l) (k : Kept S w w') (m : ∀ g, S g → g < w.heap.size → S' g) : RepL S' w' q l := by
  obtain ⟨g, o, c, d, s, h⟩ := h
  refine ⟨g, o, c, d, (s.mono m).keep k.1, fun i y hy => ⟨(h i y hy).1.keep ?_, (h i y hy).2.keep k m⟩⟩
  obtain ⟨ad, cap, _, _, h3⟩ := s
  obtain ⟨_, hs, hl⟩ := h3 (Nat.lt_of_le_of_lt (Nat.zero_le i) (lt_of_get hy))
  exact k.2 g hs hl
theorem RepP.keep {S S' : Nat → Prop} {w w' : World} {q : Value} {l : List (ByteArray × V)} (h : RepP S w q l) (k : Kept S w w') (m : ∀ g, S g → g < w.heap.size → S' g) : RepP S' w' q l := by
  obtain ⟨g, o, c, d, s, h⟩ := h
  refine ⟨g, o, c, d, (s.mono m).keep k.1, fun i y hy => ⟨(h i y hy).1.keep ?_, (h i y hy).2.1, (h i y hy).2.2.keep k m⟩⟩
  obtain ⟨ad, cap, _, _, h3⟩ := s
  obtain ⟨_, hs, hl⟩ := h3 (Nat.lt_of_le_of_lt (Nat.zero_le i) (lt_of_get hy))
  exact k.2 g hs hl

/-- anywhere -/
abbrev Any : Nat → Prop := fun _ => True
theorem Rep.under {w w' : World} {q1 q2 : Value} {x : V} (h : Rep Any w q1 q2 x) (b : Below w.heap.size w w') : Rep Any w' q1 q2 x := h.keep (Kept.of_below b _) fun _ _ _ => trivial
theorem RepL.under {w w' : World} {q : Value} {l : List V} (h : RepL Any w q l) (b : Below w.heap.size w w') : RepL Any w' q l := h.keep (Kept.of_below b _) fun _ _ _ => trivial
theorem RepP.under {w w' : World} {q : Value} {l : List (ByteArray × V)} (h : RepP Any w q l) (b : Below w.heap.size w w') : RepP Any w' q l := h.keep (Kept.of_below b _) fun _ _ _ => trivial

/-- the slice's form, and its elements -/
theorem RepL.form {S : Nat → Prop} {w : World} {q : Value} {l : List V} (h : RepL S w q l) : ∃ ad cap, q = .slice ad l.length cap ∧ l.length ≤ 9223372036854775807 := by
  obtain ⟨g, o, c, d, ⟨ad, cap, h1, h2, _⟩, _⟩ := h
  exact ⟨ad, cap, h1, h2⟩
theorem RepP.form {S : Nat → Prop} {w : World} {q : Value} {l : List (ByteArray × V)} (h : RepP S w q l) : ∃ ad cap, q = .slice ad l.length cap ∧ l.length ≤ 9223372036854775807 := by
  obtain ⟨g, o, c, d, ⟨ad, cap, h1, h2, _⟩, _⟩ := h
  exact ⟨ad, cap, h1, h2⟩
theorem RepL.at {S : Nat → Prop} {w : World} {ad : Option Addr} {m cap : Nat} {l : List V} (h : RepL S w (.slice ad m cap) l) {i : Nat} {y : V} (hi : l[i]? = some y) :
    ∃ g o c d, ad = some ⟨g, o, none⟩ ∧ g < w.heap.size ∧ At7 w g (o + i * 7) y c d ∧ Rep S w c d y := by
  obtain ⟨g, o, c, d, ⟨ad', cap', h1, _, h3⟩, h⟩ := h
  injection h1 with e1 e2 e3
  obtain ⟨e, _, hg⟩ := h3 (Nat.lt_of_le_of_lt (Nat.zero_le i) (lt_of_get hi))
  exact ⟨g, o, c i, d i, e1.trans e, hg, (h i y hi).1, (h i y hi).2⟩
theorem RepP.at {S : Nat → Prop} {w : World} {ad : Option Addr} {m cap : Nat} {l : List (ByteArray × V)} (h : RepP S w (.slice ad m cap) l) {i : Nat} {y : ByteArray × V} (hi : l[i]? = some y) :
    ∃ g o c d, ad = some ⟨g, o, none⟩ ∧ g < w.heap.size ∧ At8 w g (o + i * 8) y.1 y.2 c d ∧ y.1.size ≤ 140737488353000 ∧ Rep S w c d y.2 := by
  obtain ⟨g, o, c, d, ⟨ad', cap', h1, _, h3⟩, h⟩ := h
  injection h1 with e1 e2 e3
  obtain ⟨e, _, hg⟩ := h3 (Nat.lt_of_le_of_lt (Nat.zero_le i) (lt_of_get hi))
  exact ⟨g, o, c i, d i, e1.trans e, hg, (h i y hi).1, (h i y hi).2.1, (h i y hi).2.2⟩
theorem RepL.nil (S : Nat → Prop) (w : World) : RepL S w (.slice none 0 0) [] := ⟨0, 0, fun _ => .bool true, fun _ => .bool true, ⟨none, 0, rfl, by simp, fun h => absurd h (by simp)⟩, fun i y h => by simp at h⟩
theorem RepP.nil (S : Nat → Prop) (w : World) : RepP S w (.slice none 0 0) [] := ⟨0, 0, fun _ => .bool true, fun _ => .bool true, ⟨none, 0, rfl, by simp, fun h => absurd h (by simp)⟩, fun i y h => by simp at h⟩

/-- are they one -/
noncomputable def one (x y : V) : Bool := @decide (x = y) (Classical.propDecidable _)
noncomputable def oneP (x y : List (ByteArray × V)) : Bool := @decide (x = y) (Classical.propDecidable _)
theorem one_iff (x y : V) : one x y = true ↔ x = y := by unfold one; exact @decide_eq_true_iff _ (Classical.propDecidable _)
theorem oneP_iff (x y : List (ByteArray × V)) : oneP x y = true ↔ x = y := by unfold oneP; exact @decide_eq_true_iff _ (Classical.propDecidable _)
theorem one_no {x y : V} (h : x ≠ y) : one x y = false := by cases e : one x y; rfl; exact absurd ((one_iff x y).1 e) h
theorem oneP_no {x y : List (ByteArray × V)} (h : x ≠ y) : oneP x y = false := by cases e : oneP x y; rfl; exact absurd ((oneP_iff x y).1 e) h
theorem one_refl (x : V) : one x x = true := (one_iff x x).2 rfl
theorem oneP_refl (x : List (ByteArray × V)) : oneP x x = true := (oneP_iff x x).2 rfl
end Go.Proofs.YtnnnnlcpmocnfaaDoor
