/- THE WALKS OVER Get, Put, Drop, the program's. -/
import Derived.Test.YtnnnnlcpmocnfaaGreatDoorCp3
import Derived.Deep.RegionHeld3
import Derived.Deep.RegionLaw
import Derived.StillTailTactics
import Derived.WalkLawsBesides
import Derived.Outline
namespace Go.Proofs.YtnnnnlcpmocnfaaGreatDoor
open Go.RowKit
set_option linter.unusedVariables false
set_option linter.unusedSimpArgs false
attribute [local go_sem] run_store_float


/-- the first value of a key; what is put; what is dropped -/
def zeroV : V := .mk 0 ⟨#[]⟩ false 0 0 [] []
def getOr : List (ByteArray × V) → ByteArray → V × Bool
  | [], _ => (zeroV, false)
  | a :: l, key => if a.1 = key then (a.2, true) else getOr l key
def putIn : List (ByteArray × V) → ByteArray → V → List (ByteArray × V)
  | [], key, v => [(key, v)]
  | a :: l, key, v => if a.1 = key then (a.1, v) :: l else a :: putIn l key v
def dropOf (l : List (ByteArray × V)) (key : ByteArray) : List (ByteArray × V) := l.filter fun e => !decide (e.1 = key)

theorem getOr_at {l : List (ByteArray × V)} {key : ByteArray} : ∀ {k : Nat} {a : ByteArray × V}, l[k]? = some a → a.1 = key → (∀ j b, j < k → l[j]? = some b → b.1 ≠ key) → getOr l key = (a.2, true) := by
  induction l with
  | nil => intro k a h; simp at h
  | cons x l ih =>
    intro k a h he hno
    cases k with
    | zero => simp at h; subst h; rw [getOr, if_pos he]
    | succ k =>
      rw [getOr, if_neg (hno 0 x (by omega) rfl)]
      exact ih (k := k) (by simpa using h) he fun j b hj hb => hno (j + 1) b (by omega) (by simpa using hb)
theorem getOr_no {l : List (ByteArray × V)} {key : ByteArray} (h : ∀ (j : Nat) b, l[j]? = some b → b.1 ≠ key) : getOr l key = (zeroV, false) := by
  induction l with
  | nil => rfl
  | cons x l ih => rw [getOr, if_neg (h 0 x rfl)]; exact ih fun j b hb => h (j + 1) b (by simpa using hb)
theorem putIn_at {key : ByteArray} {v : V} : ∀ {l : List (ByteArray × V)} {k : Nat} {a : ByteArray × V}, l[k]? = some a → a.1 = key → (∀ j b, j < k → l[j]? = some b → b.1 ≠ key) → putIn l key v = l.set k (a.1, v) := by
  intro l
  induction l with
  | nil => intro k a h; simp at h
  | cons x l ih =>
    intro k a h he hno
    cases k with
    | zero => simp at h; subst h; rw [putIn, if_pos he]; rfl
    | succ k =>
      rw [putIn, if_neg (hno 0 x (by omega) rfl), List.set_cons_succ]
      rw [ih (k := k) (by simpa using h) he fun j b hj hb => hno (j + 1) b (by omega) (by simpa using hb)]
theorem putIn_no {key : ByteArray} {v : V} {l : List (ByteArray × V)} (h : ∀ (j : Nat) b, l[j]? = some b → b.1 ≠ key) : putIn l key v = l ++ [(key, v)] := by
  induction l with
  | nil => rfl
  | cons x l ih => rw [putIn, if_neg (h 0 x rfl), ih fun j b hb => h (j + 1) b (by simpa using hb)]; rfl
theorem dropOf_snoc (l : List (ByteArray × V)) (key : ByteArray) (a : ByteArray × V) : dropOf (l ++ [a]) key = dropOf l key ++ (if a.1 = key then [] else [a]) := by
  unfold dropOf
  rw [List.filter_append]
  congr 1
  by_cases h : a.1 = key <;> simp [h]
theorem dropOf_len (l : List (ByteArray × V)) (key : ByteArray) : (dropOf l key).length ≤ l.length := List.length_filter_le _ _

/-- what Get answers -/
def Got (l : List (ByteArray × V)) (key : ByteArray) (w : World) (e : Ending) (w' : World) : Prop :=
  ∃ r1 r2, e = .returned (.tuple #[.agg (cv (getOr l key).1 r1 r2), .bool (getOr l key).2]) ∧ Rep (New w.heap.size w') w' r1 r2 (getOr l key).1 ∧ Below w.heap.size w w'
def GetC (F : Nat) : Prop := ∀ (w : World) (q : Value) (l : List (ByteArray × V)) (key : ByteArray), RepP Any w q l → key.size ≤ 140737488353000 → Calls Tryz.prog F #[q, .string key] w (Got l key w)
def PutC (F : Nat) : Prop := ∀ (w : World) (q : Value) (l : List (ByteArray × V)) (key : ByteArray) (x : V) (q1 q2 : Value), RepP Any w q l → l.length * 112 ≤ 140737488353000 → key.size ≤ 140737488353000 → Rep Any w q1 q2 x →
  Calls Tryz.prog F #[q, .string key, .agg (cv x q1 q2)] w (CopiedP (putIn l key x) w)
def DropC (F : Nat) : Prop := ∀ (w : World) (q : Value) (l : List (ByteArray × V)) (key : ByteArray), RepP Any w q l → l.length * 112 ≤ 140737488353000 → key.size ≤ 140737488353000 → Calls Tryz.prog F #[q, .string key] w (CopiedP (dropOf l key) w)
theorem zero_fit : FitV zeroV := ⟨by decide, by decide, by decide, by decide, by decide, by decide, by decide, by decide⟩
theorem zero_rep (S : Nat → Prop) (w : World) : Rep S w (.slice none 0 0) (.slice none 0 0) zeroV := Rep.of zero_fit (RepL.nil S w) (RepP.nil S w)
theorem str_is {a b : ByteArray} (h : a = b) : (a.toList == b.toList) = true := by rw [h]; simp
theorem str_not {a b : ByteArray} (h : a ≠ b) : (a.toList == b.toList) = false := by
  apply beq_eq_false_iff_ne.2
  intro e
  rw [Go.ByteArray.toList_eq, Go.ByteArray.toList_eq] at e
  exact h (ByteArray.ext (Array.toList_inj.1 e))

/-- where Get stands -/
structure GInv25 (l : List (ByteArray × V)) (key : ByteArray) (w : World) (k : Nat) (wr : World) : Prop where
  res : wr.heap[w.heap.size]? = some (.cells #[.int .u8 0, .string ⟨#[]⟩, .bool false, .int .i64 0, .float .f64 0, .slice none 0 0, .slice none 0 0] 27 (0, 0))
  no : ∀ j b, j < k → l[j]? = some b → b.1 ≠ key
  bel : Below w.heap.size w wr
end Go.Proofs.YtnnnnlcpmocnfaaGreatDoor

/- THE WALKS OVER Get, Put, Drop, the program's. -/
namespace Go.Proofs.YtnnnnlcpmocnfaaGreatDoor
open Go.RowKit
set_option linter.unusedVariables false
set_option linter.unusedSimpArgs false
attribute [local go_sem] run_store_float


theorem fm_set7 (e : ByteArray × V × Value × Value) (y : V) (r1 r2 : Value) : ∀ (es : List (ByteArray × V × Value × Value)) (k : Nat), es[k]? = some e →
    (es.set k (e.1, y, r1, r2)).flatMap pc = ((((((((es.flatMap pc).set (k * 8 + 1) (.int .u8 y.k)).set (k * 8 + 2) (.string y.s)).set (k * 8 + 3) (.bool y.b)).set (k * 8 + 4) (.int .i64 y.n)).set (k * 8 + 5) (.float .f64 y.f)).set (k * 8 + 6) r1).set (k * 8 + 7) r2) := by
  intro es
  induction es with
  | nil => intro k h; simp at h
  | cons x es ih =>
    intro k h
    cases k with
    | zero =>
      simp at h; subst h
      simp [pc, List.set]
    | succ k =>
      have ih' := ih k (by simpa using h)
      rw [List.set_cons_succ, List.flatMap_cons, ih', List.flatMap_cons]
      have e : ∀ j, (k + 1) * 8 + j = (k * 8 + j) + 8 := fun j => by omega
      simp only [e]
      simp only [pc, List.cons_append, List.nil_append, List.set_cons_succ]
/-- a value stored into a row's pair -/
theorem PRow.store {w : World} {base g cap : Nat} {es : List (ByteArray × V × Value × Value)} {n : Nat} (hn : n = es.length) (h : PRow w base (.slice (some ⟨g, 0, none⟩) n cap) es) {k : Nat} {e : ByteArray × V × Value × Value} (he : es[k]? = some e) {y : V} {r1 r2 : Value} (hy : Rep (Far w base (some g)) w r1 r2 y) :
    PRow (((((((w.setCell ⟨g, k * 8 + 1, none⟩ (.int .u8 y.k)).setCell ⟨g, k * 8 + 2, none⟩ (.string y.s)).setCell ⟨g, k * 8 + 3, none⟩ (.bool y.b)).setCell ⟨g, k * 8 + 4, none⟩ (.int .i64 y.n)).setCell ⟨g, k * 8 + 5, none⟩ (.float .f64 y.f)).setCell ⟨g, k * 8 + 6, none⟩ r1).setCell ⟨g, k * 8 + 7, none⟩ r2) base (.slice (some ⟨g, 0, none⟩) n cap) (es.set k (e.1, y, r1, r2)) := by
  subst hn
  have s1 := World.ownsRow.stored h.row (k * 8 + 1) (.int .u8 y.k)
  have s2 := World.ownsRow.stored s1.1 (k * 8 + 2) (.string y.s)
  have s3 := World.ownsRow.stored s2.1 (k * 8 + 3) (.bool y.b)
  have s4 := World.ownsRow.stored s3.1 (k * 8 + 4) (.int .i64 y.n)
  have s5 := World.ownsRow.stored s4.1 (k * 8 + 5) (.float .f64 y.f)
  have s6 := World.ownsRow.stored s5.1 (k * 8 + 6) r1
  have s7 := World.ownsRow.stored s6.1 (k * 8 + 7) r2
  have hk : ∀ j, Far w base (some g) j → j < w.heap.size → (((((((w.setCell ⟨g, k * 8 + 1, none⟩ (.int .u8 y.k)).setCell ⟨g, k * 8 + 2, none⟩ (.string y.s)).setCell ⟨g, k * 8 + 3, none⟩ (.bool y.b)).setCell ⟨g, k * 8 + 4, none⟩ (.int .i64 y.n)).setCell ⟨g, k * 8 + 5, none⟩ (.float .f64 y.f)).setCell ⟨g, k * 8 + 6, none⟩ r1).setCell ⟨g, k * 8 + 7, none⟩ r2).heap[j]? = w.heap[j]? := fun j hj hl => by
    have hne : j ≠ g := fun e => hj.2.1 (by rw [e])
    exact (Below.heap_setCell _ _ _ _ hne).trans ((Below.heap_setCell _ _ _ _ hne).trans ((Below.heap_setCell _ _ _ _ hne).trans ((Below.heap_setCell _ _ _ _ hne).trans ((Below.heap_setCell _ _ _ _ hne).trans ((Below.heap_setCell _ _ _ _ hne).trans (Below.heap_setCell _ _ _ _ hne))))))
  refine ⟨?_, ?_, ?_⟩
  · rw [List.length_set, fm_set7 e y r1 r2 es k he]
    exact s7.1
  · intro e' he'
    rcases List.mem_or_eq_of_mem_set he' with h1 | h1
    · exact h.key e' h1
    · rw [h1]; exact h.key e (List.mem_of_getElem? he)
  · intro e' he'
    rcases List.mem_or_eq_of_mem_set he' with h1 | h1
    · exact (h.rep e' h1).keep ⟨by simp [World.setCell], hk⟩ fun j h hl => ⟨h.1, h.2.1, h.2.2.keep (hk j h hl)⟩
    · rw [h1]; exact hy.keep ⟨by simp [World.setCell], hk⟩ fun j h hl => ⟨h.1, h.2.1, h.2.2.keep (hk j h hl)⟩
theorem kv_set (es : List (ByteArray × V × Value × Value)) (k : Nat) (e : ByteArray × V × Value × Value) : (es.set k e).map kv = (es.map kv).set k (kv e) := by rw [List.map_set]
theorem PRow.own {w : World} {base : Nat} {v : Value} {es : List (ByteArray × V × Value × Value)} (h : PRow w base v es) (hn : es ≠ []) : ∃ g cap, v = .slice (some ⟨g, 0, none⟩) es.length cap ∧ base ≤ g ∧ g < w.heap.size := by
  rcases h.row.2 with ⟨hv, h0⟩ | ⟨g, cap, cur, hv, hb, hg, _⟩
  · exact absurd (List.eq_nil_of_length_eq_zero h0) hn
  · exact ⟨g, cap, hv, hb, lt_of_block hg⟩

end Go.Proofs.YtnnnnlcpmocnfaaGreatDoor

/- THE WALKS OVER Get, Put, Drop, the program's. -/
namespace Go.Proofs.YtnnnnlcpmocnfaaGreatDoor
open Go.RowKit
set_option linter.unusedVariables false
set_option linter.unusedSimpArgs false
attribute [local go_sem] run_store_float


/-- where Drop stands -/
structure DrInv29 (l : List (ByteArray × V)) (key : ByteArray) (w : World) (k : Nat) (v : Value) (es : List (ByteArray × V × Value × Value)) (wr : World) : Prop where
  row : PRow wr w.heap.size v es
  eq : es.map kv = dropOf (l.take k) key
  bel : Below w.heap.size w wr
end Go.Proofs.YtnnnnlcpmocnfaaGreatDoor
