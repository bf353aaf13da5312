/- CONF: NODES AS DATA: the model of a node, and how one lies in memory. -/
import Derived.Test.YtegobomfhdfodaaGreatDoorCk
import Derived.Deep.AppendLies
namespace Go.Proofs.YtegobomfhdfodaaGreatDoor
open Go.RowKit
set_option maxRecDepth 100000
set_option linter.unusedVariables false
set_option linter.unusedSimpArgs false

/-- a node: its kind, text, list, keys -/
inductive Nd where
  | mk (k : Nat) (s : List UInt8) (l : List (List UInt8)) (p : List (List UInt8 × Nd))
def Nd.k : Nd → Nat | .mk k _ _ _ => k
def Nd.s : Nd → K.T | .mk _ s _ _ => s
def Nd.l : Nd → List K.T | .mk _ _ l _ => l
def Nd.p : Nd → List (K.T × Nd) | .mk _ _ _ p => p
theorem Nd.eta (x : Nd) : x = .mk x.k x.s x.l x.p := by cases x; rfl
theorem Nd.size_p {x : Nd} {y : K.T × Nd} (h : y ∈ x.p) : SizeOf.sizeOf y.2 < SizeOf.sizeOf x := by
  cases x with
  | mk k s l p =>
    have h1 := List.sizeOf_lt_of_mem h
    have h2 : SizeOf.sizeOf y.2 < SizeOf.sizeOf y := by cases y; simp only [Prod.mk.sizeOf_spec]; omega
    simp only [Nd.p, Nd.mk.sizeOf_spec] at h1 ⊢
    omega
/-- a node's four cells -/
abbrev nv (x : Nd) (q1 q2 : Value) : Array Value := #[.int .u8 (x.k : Int), S x.s, q1, q2]
/-- a key's five cells -/
abbrev kv (key : K.T) (x : Nd) (q1 q2 : Value) : Array Value := #[S key, .int .u8 (x.k : Int), S x.s, q1, q2]
structure At4 (w : World) (g o : Nat) (x : Nd) (q1 q2 : Value) : Prop where
  c0 : w.cell? ⟨g, o, none⟩ = some (.int .u8 (x.k : Int))
  c1 : w.cell? ⟨g, o + 1, none⟩ = some (S x.s)
  c2 : w.cell? ⟨g, o + 2, none⟩ = some q1
  c3 : w.cell? ⟨g, o + 3, none⟩ = some q2
structure At5 (w : World) (g o : Nat) (key : K.T) (x : Nd) (q1 q2 : Value) : Prop where
  c0 : w.cell? ⟨g, o, none⟩ = some (S key)
  c1 : w.cell? ⟨g, o + 1, none⟩ = some (.int .u8 (x.k : Int))
  c2 : w.cell? ⟨g, o + 2, none⟩ = some (S x.s)
  c3 : w.cell? ⟨g, o + 3, none⟩ = some q1
  c4 : w.cell? ⟨g, o + 4, none⟩ = some q2
theorem cell_block {w w' : World} {g : Nat} (h : w'.heap[g]? = w.heap[g]?) (o : Nat) : w'.cell? ⟨g, o, none⟩ = w.cell? ⟨g, o, none⟩ := World.cell?_of_block (w := w) h
theorem At4.keep {w w' : World} {g o : Nat} {x : Nd} {q1 q2 : Value} (h : At4 w g o x q1 q2) (e : w'.heap[g]? = w.heap[g]?) : At4 w' g o x q1 q2 :=
  ⟨(cell_block e _).trans h.c0, (cell_block e _).trans h.c1, (cell_block e _).trans h.c2, (cell_block e _).trans h.c3⟩
theorem At5.keep {w w' : World} {g o : Nat} {key : K.T} {x : Nd} {q1 q2 : Value} (h : At5 w g o key x q1 q2) (e : w'.heap[g]? = w.heap[g]?) : At5 w' g o key x q1 q2 :=
  ⟨(cell_block e _).trans h.c0, (cell_block e _).trans h.c1, (cell_block e _).trans h.c2, (cell_block e _).trans h.c3, (cell_block e _).trans h.c4⟩
theorem At4.box {w : World} {g : Nat} {x : Nd} {q1 q2 : Value} {t : TypeId} (h : w.heap[g]? = some (.cells (nv x q1 q2) t (0, 0))) : At4 w g 0 x q1 q2 :=
  ⟨cell_of_row w g 0 _ t (0, 0) h, cell_of_row w g 1 _ t (0, 0) h, cell_of_row w g 2 _ t (0, 0) h, cell_of_row w g 3 _ t (0, 0) h⟩
theorem At5.box {w : World} {g : Nat} {key : K.T} {x : Nd} {q1 q2 : Value} {t : TypeId} (h : w.heap[g]? = some (.cells (kv key x q1 q2) t (0, 0))) : At5 w g 0 key x q1 q2 :=
  ⟨cell_of_row w g 0 _ t (0, 0) h, cell_of_row w g 1 _ t (0, 0) h, cell_of_row w g 2 _ t (0, 0) h, cell_of_row w g 3 _ t (0, 0) h, cell_of_row w g 4 _ t (0, 0) h⟩

/-- q is a slice of n elements, from the cell o of the block g of B on -/
def Sl (B : Nat → Prop) (w : World) (q : Value) (g o n : Nat) : Prop :=
  ∃ ad cap, q = .slice ad n cap ∧ (n ≤ cap ∧ cap ≤ 9223372036854775807) ∧ (0 < n → ad = some ⟨g, o, none⟩ ∧ B g ∧ g < w.heap.size)
theorem Sl.keep {B : Nat → Prop} {w w' : World} {q : Value} {g o n : Nat} (h : Sl B w q g o n) (e : w.heap.size ≤ w'.heap.size) : Sl B w' q g o n := by
  obtain ⟨ad, cap, h1, h2, h3⟩ := h
  exact ⟨ad, cap, h1, h2, fun h => ⟨(h3 h).1, (h3 h).2.1, Nat.lt_of_lt_of_le (h3 h).2.2 e⟩⟩
theorem Sl.mono {B B' : Nat → Prop} {w : World} {q : Value} {g o n : Nat} (h : Sl B w q g o n) (e : ∀ g, B g → g < w.heap.size → B' g) : Sl B' w q g o n := by
  obtain ⟨ad, cap, h1, h2, h3⟩ := h
  exact ⟨ad, cap, h1, h2, fun h => ⟨(h3 h).1, e _ (h3 h).2.1 (h3 h).2.2, (h3 h).2.2⟩⟩
/-- the slice q has the texts l -/
def RepT (B : Nat → Prop) (w : World) (q : Value) (l : List K.T) : Prop :=
  ∃ g o, Sl B w q g o l.length ∧ ∀ (i : Nat) (s : K.T), l[i]? = some s → w.cell? ⟨g, o + i, none⟩ = some (S s) ∧ s.length ≤ 140737488353000
structure FitN (x : Nd) : Prop where
  k1 : x.k ≤ 255
  s1 : x.s.length ≤ 140737488353000
  l1 : x.l.length * 16 ≤ 140737488353000
  p1 : x.p.length * 88 ≤ 140737488353000
/-- the slices q1, q2 are x's list and keys, all of them in blocks of B -/
inductive Rep (B : Nat → Prop) (w : World) : Value → Value → Nd → Prop where
  | mk {x : Nd} {q1 q2 : Value} (g2 o2 : Nat) (c2 d2 : Nat → Value) (fit : FitN x)
      (t1 : RepT B w q1 x.l) (s2 : Sl B w q2 g2 o2 x.p.length)
      (a2 : ∀ (i : Nat) (y : K.T × Nd), x.p[i]? = some y → At5 w g2 (o2 + i * 5) y.1 y.2 (c2 i) (d2 i))
      (k2 : ∀ (i : Nat) (y : K.T × Nd), x.p[i]? = some y → y.1.length ≤ 140737488353000)
      (r2 : ∀ (i : Nat) (y : K.T × Nd), x.p[i]? = some y → Rep B w (c2 i) (d2 i) y.2) : Rep B w q1 q2 x
/-- the slice q has the keys l -/
def RepK (B : Nat → Prop) (w : World) (q : Value) (l : List (K.T × Nd)) : Prop :=
  ∃ (g o : Nat) (c d : Nat → Value), Sl B w q g o l.length ∧ ∀ (i : Nat) (y : K.T × Nd), l[i]? = some y → At5 w g (o + i * 5) y.1 y.2 (c i) (d i) ∧ y.1.length ≤ 140737488353000 ∧ Rep B w (c i) (d i) y.2
theorem Rep.parts {B : Nat → Prop} {w : World} {q1 q2 : Value} {x : Nd} (h : Rep B w q1 q2 x) : FitN x ∧ RepT B w q1 x.l ∧ RepK B w q2 x.p := by
  cases h with
  | mk g2 o2 c2 d2 fit t1 s2 a2 k2 r2 => exact ⟨fit, t1, ⟨g2, o2, c2, d2, s2, fun i y h => ⟨a2 i y h, k2 i y h, r2 i y h⟩⟩⟩
theorem Rep.of {B : Nat → Prop} {w : World} {q1 q2 : Value} {x : Nd} (h0 : FitN x) (h1 : RepT B w q1 x.l) (h2 : RepK B w q2 x.p) : Rep B w q1 q2 x := by
  obtain ⟨g2, o2, c2, d2, s2, h2⟩ := h2
  exact .mk g2 o2 c2 d2 h0 h1 s2 (fun i y h => (h2 i y h).1) (fun i y h => (h2 i y h).2.1) (fun i y h => (h2 i y h).2.2)

/-- what all of it lies in is as it was -/
def Kept (B : Nat → Prop) (w w' : World) : Prop := w.heap.size ≤ w'.heap.size ∧ ∀ g, B g → g < w.heap.size → w'.heap[g]? = w.heap[g]?
theorem Kept.of_below {w w' : World} (h : Below w.heap.size w w') (B : Nat → Prop) : Kept B w w' := ⟨h.size, fun g _ hg => h.block g hg⟩
theorem Kept.trans {B : Nat → Prop} {a b c : World} (h : Kept B a b) (k : Kept B b c) : Kept B a c :=
  ⟨Nat.le_trans h.1 k.1, fun g hs hg => (k.2 g hs (Nat.lt_of_lt_of_le hg h.1)).trans (h.2 g hs hg)⟩
theorem Kept.refl (B : Nat → Prop) (w : World) : Kept B w w := ⟨Nat.le_refl _, fun _ _ _ => rfl⟩
theorem lt_of_get {α : Type} {l : List α} {i : Nat} {x : α} (h : l[i]? = some x) : i < l.length := (List.getElem?_eq_some_iff.1 h).1
theorem get_at {α : Type} {l : List α} {k : Nat} (h : k < l.length) : ∃ a, l[k]? = some a := ⟨l[k], by simp [h]⟩
theorem RepT.keep {B B' : Nat → Prop} {w w' : World} {q : Value} {l : List K.T} (h : RepT B w q l) (k : Kept B w w') (m : ∀ g, B g → g < w.heap.size → B' g) : RepT B' w' q l := by
  obtain ⟨g, o, s, h⟩ := h
  refine ⟨g, o, (s.mono m).keep k.1, fun i y hy => ⟨(cell_block ?_ _).trans (h i y hy).1, (h i y hy).2⟩⟩
  obtain ⟨ad, cap, _, _, h3⟩ := s
  obtain ⟨_, hs, hl⟩ := h3 (Nat.lt_of_le_of_lt (Nat.zero_le i) (lt_of_get hy))
  exact k.2 g hs hl
theorem Rep.keep {B B' : Nat → Prop} {w w' : World} {q1 q2 : Value} {x : Nd} (h : Rep B w q1 q2 x) (k : Kept B w w') (m : ∀ g, B g → g < w.heap.size → B' g) : Rep B' w' q1 q2 x := by
  induction h with
  | mk g2 o2 c2 d2 fit t1 s2 a2 k2 r2 ih2 =>
    have e2 : ∀ (i : Nat) y, _ = some y → w'.heap[g2]? = w.heap[g2]? := fun i y (h : (Nd.p _)[i]? = some y) => by
      obtain ⟨ad, cap, _, _, h3⟩ := s2
      obtain ⟨_, hs, hl⟩ := h3 (Nat.lt_of_le_of_lt (Nat.zero_le i) (lt_of_get h))
      exact k.2 g2 hs hl
    exact .mk g2 o2 c2 d2 fit (t1.keep k m) ((s2.mono m).keep k.1) (fun i y h => (a2 i y h).keep (e2 i y h)) k2 ih2
theorem RepK.keep {B B' : Nat → Prop} {w w' : World} {q : Value} {l : List (K.T × Nd)} (h : RepK B w q l) (k : Kept B w w') (m : ∀ g, B g → g < w.heap.size → B' g) : RepK B' w' q l := by
  obtain ⟨g, o, c, d, s, h⟩ := h
  refine ⟨g, o, c, d, (s.mono m).keep k.1, fun i y hy => ⟨(h i y hy).1.keep ?_, (h i y hy).2.1, (h i y hy).2.2.keep k m⟩⟩
  obtain ⟨ad, cap, _, _, h3⟩ := s
  obtain ⟨_, hs, hl⟩ := h3 (Nat.lt_of_le_of_lt (Nat.zero_le i) (lt_of_get hy))
  exact k.2 g hs hl
/-- anywhere -/
abbrev Any : Nat → Prop := fun _ => True
theorem RepT.under {B : Nat → Prop} {w w' : World} {q : Value} {l : List K.T} (h : RepT B w q l) (b : Below w.heap.size w w') : RepT B w' q l := h.keep (Kept.of_below b _) fun _ h _ => h
theorem Rep.under {B : Nat → Prop} {w w' : World} {q1 q2 : Value} {x : Nd} (h : Rep B w q1 q2 x) (b : Below w.heap.size w w') : Rep B w' q1 q2 x := h.keep (Kept.of_below b _) fun _ h _ => h
theorem RepK.under {B : Nat → Prop} {w w' : World} {q : Value} {l : List (K.T × Nd)} (h : RepK B w q l) (b : Below w.heap.size w w') : RepK B w' q l := h.keep (Kept.of_below b _) fun _ h _ => h
theorem RepT.mono {B B' : Nat → Prop} {w : World} {q : Value} {l : List K.T} (h : RepT B w q l) (m : ∀ g, B g → g < w.heap.size → B' g) : RepT B' w q l := h.keep (Kept.refl _ _) m
theorem Rep.mono {B B' : Nat → Prop} {w : World} {q1 q2 : Value} {x : Nd} (h : Rep B w q1 q2 x) (m : ∀ g, B g → g < w.heap.size → B' g) : Rep B' w q1 q2 x := h.keep (Kept.refl _ _) m
theorem RepK.mono {B B' : Nat → Prop} {w : World} {q : Value} {l : List (K.T × Nd)} (h : RepK B w q l) (m : ∀ g, B g → g < w.heap.size → B' g) : RepK B' w q l := h.keep (Kept.refl _ _) m

/-- the slice's form, and its elements -/
theorem RepT.form {B : Nat → Prop} {w : World} {q : Value} {l : List K.T} (h : RepT B w q l) : ∃ ad cap, q = .slice ad l.length cap ∧ l.length ≤ 9223372036854775807 := by
  obtain ⟨g, o, ⟨ad, cap, h1, h2, _⟩, _⟩ := h
  exact ⟨ad, cap, h1, Nat.le_trans h2.1 h2.2⟩
theorem RepK.form {B : Nat → Prop} {w : World} {q : Value} {l : List (K.T × Nd)} (h : RepK B w q l) : ∃ ad cap, q = .slice ad l.length cap ∧ l.length ≤ 9223372036854775807 := by
  obtain ⟨g, o, c, d, ⟨ad, cap, h1, h2, _⟩, _⟩ := h
  exact ⟨ad, cap, h1, Nat.le_trans h2.1 h2.2⟩
theorem RepK.room {B : Nat → Prop} {w : World} {ad : Option Addr} {n cap : Nat} {l : List (K.T × Nd)} (h : RepK B w (.slice ad n cap) l) : n ≤ cap ∧ cap ≤ 9223372036854775807 := by
  obtain ⟨g, o, c, d, ⟨ad', cap', h1, h2, _⟩, _⟩ := h
  injection h1 with e1 e2 e3
  omega
/-- the first keys -/
theorem RepK.take {B : Nat → Prop} {w : World} {ad : Option Addr} {n cap : Nat} {l : List (K.T × Nd)} (h : RepK B w (.slice ad n cap) l) (k : Nat) (hk : k ≤ l.length) : RepK B w (.slice ad k cap) (l.take k) := by
  obtain ⟨g, o, c, d, ⟨ad', cap', h1, h2, h3⟩, h4⟩ := h
  injection h1 with e1 e2 e3
  refine ⟨g, o, c, d, ⟨ad, cap, by rw [List.length_take, Nat.min_eq_left hk], ⟨by rw [List.length_take]; omega, by omega⟩, fun hp => ?_⟩, fun i y hy => ?_⟩
  · rw [List.length_take] at hp; rw [e1]; exact h3 (by omega)
  · rw [List.getElem?_take] at hy; split at hy
    · exact h4 i y hy
    · cases hy
theorem RepT.at {B : Nat → Prop} {w : World} {ad : Option Addr} {m cap : Nat} {l : List K.T} (h : RepT B w (.slice ad m cap) l) {i : Nat} {y : K.T} (hi : l[i]? = some y) :
    ∃ g o, ad = some ⟨g, o, none⟩ ∧ g < w.heap.size ∧ w.cell? ⟨g, o + i, none⟩ = some (S y) ∧ y.length ≤ 140737488353000 := by
  obtain ⟨g, o, ⟨ad', cap', h1, _, h3⟩, h⟩ := h
  injection h1 with e1 e2 e3
  obtain ⟨e, _, hg⟩ := h3 (Nat.lt_of_le_of_lt (Nat.zero_le i) (lt_of_get hi))
  exact ⟨g, o, e1.trans e, hg, (h i y hi).1, (h i y hi).2⟩
theorem RepK.at {B : Nat → Prop} {w : World} {ad : Option Addr} {m cap : Nat} {l : List (K.T × Nd)} (h : RepK B w (.slice ad m cap) l) {i : Nat} {y : K.T × Nd} (hi : l[i]? = some y) :
    ∃ g o c d, ad = some ⟨g, o, none⟩ ∧ g < w.heap.size ∧ At5 w g (o + i * 5) y.1 y.2 c d ∧ y.1.length ≤ 140737488353000 ∧ Rep B w c d y.2 := by
  obtain ⟨g, o, c, d, ⟨ad', cap', h1, _, h3⟩, h⟩ := h
  injection h1 with e1 e2 e3
  obtain ⟨e, _, hg⟩ := h3 (Nat.lt_of_le_of_lt (Nat.zero_le i) (lt_of_get hi))
  exact ⟨g, o, c i, d i, e1.trans e, hg, (h i y hi).1, (h i y hi).2.1, (h i y hi).2.2⟩
theorem RepT.nil (B : Nat → Prop) (w : World) : RepT B w (.slice none 0 0) [] := ⟨0, 0, ⟨none, 0, rfl, by simp, fun h => absurd h (by simp)⟩, fun i y h => by simp at h⟩
theorem RepK.nil (B : Nat → Prop) (w : World) : RepK B w (.slice none 0 0) [] := ⟨0, 0, fun _ => .bool true, fun _ => .bool true, ⟨none, 0, rfl, by simp, fun h => absurd h (by simp)⟩, fun i y h => by simp at h⟩

/-- are they one -/
noncomputable def one (x y : Nd) : Bool := @decide (x = y) (Classical.propDecidable _)
theorem one_iff (x y : Nd) : one x y = true ↔ x = y := by unfold one; exact @decide_eq_true_iff _ (Classical.propDecidable _)
theorem one_no {x y : Nd} (h : x ≠ y) : one x y = false := by cases e : one x y; rfl; exact absurd ((one_iff x y).1 e) h
theorem one_refl (x : Nd) : one x x = true := (one_iff x x).2 rfl
/-- the zero node -/
def Nd.zero : Nd := .mk 0 [] [] []
theorem Rep.zero (B : Nat → Prop) (w : World) : Rep B w (.slice none 0 0) (.slice none 0 0) Nd.zero := Rep.of ⟨by decide, by decide, by decide, by decide⟩ (RepT.nil _ _) (RepK.nil _ _)
end Go.Proofs.YtegobomfhdfodaaGreatDoor
