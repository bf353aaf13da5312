/- WHAT THE LAWS OF ATTRIBUTES LEAN ON: the contracts in short, and the mathematics of Get, Put, Drop. -/
import Derived.Test.YtnnnnlcpmocnfaaGreatDoorAt4
import Derived.Test.YtnnnnlcpmocnfaaGreatDoorSm
import Derived.Test.YtnnnnlcpmocnfaaGreatDoorVal6
namespace Go.Proofs.YtnnnnlcpmocnfaaGreatDoor
open Go.RowKit
set_option linter.unusedVariables false
set_option linter.unusedSimpArgs false

theorem putIn_len (key : ByteArray) (v : V) : ∀ l : List (ByteArray × V), (putIn l key v).length ≤ l.length + 1 := by
  intro l
  induction l with
  | nil => simp [putIn]
  | cons a l ih => rw [putIn]; split <;> simp <;> omega
theorem get_put (key : ByteArray) (v : V) : ∀ l : List (ByteArray × V), getOr (putIn l key v) key = (v, true) := by
  intro l
  induction l with
  | nil => simp [putIn, getOr]
  | cons a l ih =>
    rw [putIn]
    split
    · rename_i h; rw [getOr, if_pos h]
    · rename_i h; rw [getOr, if_neg h, ih]
theorem get_put_other {key o : ByteArray} (v : V) (hne : o ≠ key) : ∀ l : List (ByteArray × V), getOr (putIn l key v) o = getOr l o := by
  intro l
  induction l with
  | nil => simp only [putIn, getOr]; rw [if_neg (fun e => hne e.symm)]
  | cons a l ih =>
    rw [putIn]
    split
    · rename_i h
      rw [getOr, getOr, if_neg (by show ¬ a.1 = o; rw [h]; exact fun e => hne e.symm), if_neg (by rw [h]; exact fun e => hne e.symm)]
    · rw [getOr, getOr, ih]
theorem drop_cons (a : ByteArray × V) (l : List (ByteArray × V)) (key : ByteArray) : dropOf (a :: l) key = if a.1 = key then dropOf l key else a :: dropOf l key := by
  unfold dropOf
  by_cases h : a.1 = key <;> simp [h]
theorem drop_put (key : ByteArray) (v : V) : ∀ l : List (ByteArray × V), dropOf (putIn l key v) key = dropOf l key := by
  intro l
  induction l with
  | nil => rw [putIn, drop_cons, if_pos rfl]
  | cons a l ih =>
    rw [putIn]
    split
    · rename_i h; rw [drop_cons, drop_cons, if_pos h, if_pos h]
    · rename_i h; rw [drop_cons, drop_cons, if_neg h, if_neg h, ih]
theorem get_drop (key : ByteArray) : ∀ l : List (ByteArray × V), getOr (dropOf l key) key = (zeroV, false) := by
  intro l
  induction l with
  | nil => rfl
  | cons a l ih =>
    rw [drop_cons]
    split
    · exact ih
    · rename_i h; rw [getOr, if_neg h, ih]
theorem get_drop_other {key o : ByteArray} (hne : o ≠ key) : ∀ l : List (ByteArray × V), getOr (dropOf l key) o = getOr l o := by
  intro l
  induction l with
  | nil => rfl
  | cons a l ih =>
    rw [drop_cons]
    split
    · rename_i h; rw [ih, getOr, if_neg (by rw [h]; exact fun e => hne e.symm)]
    · rw [getOr, getOr, ih]

theorem PRow.any {w : World} {base : Nat} {v : Value} {es : List (ByteArray × V × Value × Value)} {l : List (ByteArray × V)} (h : PRow w base v es) (e : es.map kv = l) (hl : l.length ≤ 9223372036854775807) : RepP Any w v l := by
  have := h.data (by rw [← e] at hl; simpa using hl)
  rw [e] at this
  exact this.keep (Kept.of_below (Below.refl _ _) _) fun _ _ _ => trivial
theorem get_is {F : Nat} (hF : GetC F) {w : World} {q : Value} {l : List (ByteArray × V)} {key : ByteArray} {y : V} {b : Bool} (hg : getOr l key = (y, b)) (h : RepP Any w q l) (hk : key.size ≤ 140737488353000) :
    Calls Tryz.prog F #[q, .string key] w fun e w' => ∃ a1 c1 a2 c2, e = .returned (.tuple #[.agg (cv y (.slice a1 y.l.length c1) (.slice a2 y.p.length c2)), .bool b]) ∧ Rep Any w' (.slice a1 y.l.length c1) (.slice a2 y.p.length c2) y ∧ Below w.heap.size w w' :=
  (hF w q l key h hk).mono fun e w' hp => by
    obtain ⟨r1, r2, he, hr, hb⟩ := hp
    rw [hg] at he hr
    obtain ⟨a1, c1, rfl, _⟩ := hr.parts.2.1.form
    obtain ⟨a2, c2, rfl, _⟩ := hr.parts.2.2.form
    exact ⟨a1, c1, a2, c2, he, hr.keep (Kept.of_below (Below.refl _ _) _) fun _ _ _ => trivial, hb⟩
/-- a call that makes a list of pairs -/
def Makes (l : List (ByteArray × V)) (w : World) (e : Ending) (w' : World) : Prop := ∃ ad cap, e = .returned (.slice ad l.length cap) ∧ RepP Any w' (.slice ad l.length cap) l ∧ Below w.heap.size w w'
theorem makes_of {l : List (ByteArray × V)} {w : World} {e : Ending} {w' : World} (hl : l.length ≤ 9223372036854775807) (h : CopiedP l w e w') : Makes l w e w' := by
  obtain ⟨v, es, he, hr, hes, hb⟩ := h
  have ha := hr.any hes hl
  obtain ⟨ad, cap, rfl, _⟩ := ha.form
  exact ⟨ad, cap, he, ha, hb⟩
theorem put_is {F : Nat} (hF : PutC F) {w : World} {q : Value} {l : List (ByteArray × V)} {key : ByteArray} {x : V} {q1 q2 : Value} (h : RepP Any w q l) (hl : l.length * 112 ≤ 140737488352000) (hk : key.size ≤ 140737488353000) (hx : Rep Any w q1 q2 x) :
    Calls Tryz.prog F #[q, .string key, .agg (cv x q1 q2)] w (Makes (putIn l key x) w) :=
  (hF w q l key x q1 q2 h (by omega) hk hx).mono fun e w' => makes_of (by have := putIn_len key x l; omega)
theorem drop_is {F : Nat} (hF : DropC F) {w : World} {q : Value} {l : List (ByteArray × V)} {key : ByteArray} (h : RepP Any w q l) (hl : l.length * 112 ≤ 140737488353000) (hk : key.size ≤ 140737488353000) : Calls Tryz.prog F #[q, .string key] w (Makes (dropOf l key) w) :=
  (hF w q l key h hl hk).mono fun e w' => makes_of (by have := dropOf_len l key; omega)
theorem copyp_is {F : Nat} {l : List (ByteArray × V)} (hF : CopyPC F l) {w : World} {q : Value} (h : RepP Any w q l) (hl : l.length * 112 ≤ 140737488353000) : Calls Tryz.prog F #[q] w (Makes l w) :=
  (hF w q h hl).mono fun e w' => makes_of (by omega)
theorem same_is {F : Nat} {x : V} (hF : SameC F x x) {w : World} {q1 q2 r1 r2 : Value} (h : Rep Any w q1 q2 x) (k : Rep Any w r1 r2 x) :
    Calls Tryz.prog F #[.agg (cv x q1 q2), .agg (cv x r1 r2)] w fun e w' => e = .returned (.bool true) ∧ Below w.heap.size w w' :=
  (hF w q1 q2 r1 r2 h k).mono fun e w' ⟨he, hb⟩ => ⟨by rw [he, one_refl], hb⟩
theorem samep_is {F : Nat} {l : List (ByteArray × V)} (hF : SamePC F l l) {w : World} {q r : Value} (h : RepP Any w q l) (k : RepP Any w r l) :
    Calls Tryz.prog F #[q, r] w fun e w' => e = .returned (.bool true) ∧ Below w.heap.size w w' :=
  (hF w q r h k).mono fun e w' ⟨he, hb⟩ => ⟨by rw [he, oneP_refl], hb⟩

/-- a box that stands -/
def Box (w : World) (g : Nat) (x : V) (q1 q2 : Value) : Prop := w.heap[g]? = some (.cells (cv x q1 q2) 27 (0, 0))
theorem Box.under {w w' : World} {g : Nat} {x : V} {q1 q2 : Value} (h : Box w g x q1 q2) (hb : Below w.heap.size w w') : Box w' g x q1 q2 := (hb.block g (lt_of_block h)).trans h
theorem Box.at {w : World} {g : Nat} {x : V} {q1 q2 : Value} (h : Box w g x q1 q2) :
    w.cell? ⟨g, 0, none⟩ = some (.int .u8 x.k) ∧ w.cell? ⟨g, 1, none⟩ = some (.string x.s) ∧ w.cell? ⟨g, 2, none⟩ = some (.bool x.b) ∧ w.cell? ⟨g, 3, none⟩ = some (.int .i64 x.n) ∧ w.cell? ⟨g, 4, none⟩ = some (.float .f64 x.f) ∧ w.cell? ⟨g, 5, none⟩ = some q1 ∧ w.cell? ⟨g, 6, none⟩ = some q2 := by
  obtain ⟨a0, a1, a2, a3, a4, a5, a6⟩ := At7.box h
  simp only [Nat.zero_add] at a0 a1 a2 a3 a4 a5 a6
  exact ⟨a0, a1, a2, a3, a4, a5, a6⟩
theorem Box.far {w : World} {g : Nat} {x : V} {q1 q2 : Value} (h : Box w g x q1 q2) :
    (∀ ob, (w.alloc ob).cell? ⟨g, 0, none⟩ = some (.int .u8 x.k)) ∧ (∀ ob, (w.alloc ob).cell? ⟨g, 1, none⟩ = some (.string x.s)) ∧ (∀ ob, (w.alloc ob).cell? ⟨g, 2, none⟩ = some (.bool x.b)) ∧ (∀ ob, (w.alloc ob).cell? ⟨g, 3, none⟩ = some (.int .i64 x.n)) ∧
    (∀ ob, (w.alloc ob).cell? ⟨g, 4, none⟩ = some (.float .f64 x.f)) ∧ (∀ ob, (w.alloc ob).cell? ⟨g, 5, none⟩ = some q1) ∧ (∀ ob, (w.alloc ob).cell? ⟨g, 6, none⟩ = some q2) :=
  ⟨cell_alloc h.at.1, cell_alloc h.at.2.1, cell_alloc h.at.2.2.1, cell_alloc h.at.2.2.2.1, cell_alloc h.at.2.2.2.2.1, cell_alloc h.at.2.2.2.2.2.1, cell_alloc h.at.2.2.2.2.2.2⟩
theorem Box.new (w : World) (x : V) (q1 q2 : Value) : Box (w.alloc (.cells (cv x q1 q2) 27)) w.heap.size x q1 q2 := blk_new w _
theorem al (w : World) (o : Obj) : Below w.heap.size w (w.alloc o) := (Below.refl _ _).alloc (Nat.le_refl _) _
end Go.Proofs.YtnnnnlcpmocnfaaGreatDoor
