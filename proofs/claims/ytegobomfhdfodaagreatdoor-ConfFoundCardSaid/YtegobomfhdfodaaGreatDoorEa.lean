/- CONF: Get as one answer; what the keys of a right map lead to. -/
import Derived.Test.YtegobomfhdfodaaGreatDoorDv
import Derived.Test.YtegobomfhdfodaaGreatDoorDw
import Derived.Test.YtegobomfhdfodaaGreatDoorDs
import Derived.Test.YtegobomfhdfodaaGreatDoorDh
namespace Go.Proofs.YtegobomfhdfodaaGreatDoor
open Go.RowKit
set_option maxRecDepth 100000
set_option linter.unusedVariables false
set_option linter.unusedSimpArgs false

namespace K
theorem get_nil (x : Nd) : get x [] = some x := by rw [get]
theorem get_app (x : Nd) (a b : List T) : get x (a ++ b) = match get x a with | some y => get y b | none => none := by
  induction a generalizing x with
  | nil => rw [get_nil, List.nil_append]
  | cons k r ih =>
    rw [List.cons_append, get, get]
    split
    · split
      · split
        · exact ih _
        · rfl
      · rfl
    · rfl
theorem keysF_find (ok : Nd → Bool) : ∀ (l seen : List (T × Nd)), keysF ok seen l = true → ∀ (i : Nat) (y : T × Nd), l[i]? = some y → find (seen ++ l) y.1 = some (seen.length + i)
  | [], _, _, i, y, hy => by simp at hy
  | z :: r, seen, h, i, y, hy => by
    rw [keysF] at h
    simp only [Bool.and_eq_true, Option.isNone_iff_eq_none] at h
    cases i with
    | zero =>
      simp only [List.getElem?_cons_zero, Option.some.injEq] at hy
      subst hy
      have hn := h.1.1.2
      unfold find at hn ⊢
      rw [List.findIdx?_append, hn, List.findIdx?_cons]
      simp
    | succ j =>
      have := keysF_find ok r (seen ++ [z]) h.2 j y (by simpa using hy)
      rw [List.append_assoc] at this
      simpa [Nat.add_assoc, Nat.add_comm 1 j] using this
theorem right_get {x : Nd} (h : right x = true) {i : Nat} {y : T × Nd} (hy : x.p[i]? = some y) : get x [y.1] = some y.2 := by
  unfold right at h
  simp only [Bool.and_eq_true, decide_eq_true_eq] at h
  have hn := h.2
  rw [nodeF_eq, if_pos h.1] at hn
  simp only [Bool.and_eq_true] at hn
  have hf := keysF_find _ _ _ hn.2.2 i y hy
  simp only [List.nil_append, List.length_nil, Nat.zero_add] at hf
  rw [get, if_pos h.1, hf]
  simp only [hy]
  exact get_nil _
/-- what Get answers, as one -/
def ans (o : Option Nd) : Nd := match o with
  | some y => y
  | none => Nd.zero
def is (o : Option Nd) : Bool := match o with
  | some _ => true
  | none => false
theorem get_step (x : Nd) (path : List T) (p : T) : (is (get x path) = true → get x (path ++ [p]) = get (ans (get x path)) [p]) ∧ (is (get x path) = false → get x (path ++ [p]) = none ∧ get x path = none) := by
  rw [get_app]
  cases get x path with
  | none => exact ⟨fun h => (by cases h), fun _ => ⟨rfl, rfl⟩⟩
  | some y => exact ⟨fun _ => rfl, fun h => (by cases h)⟩
end K
/-- what Get answers, from w on: a node, and whether it is there -/
def AnsR (w : World) (z : Nd) (b : Bool) (e : Ending) (w' : World) : Prop :=
  Below w.heap.size w w' ∧ ∃ a1 c1 a2 c2, e = .returned (.tuple #[.agg (nv z (.slice a1 z.l.length c1) (.slice a2 z.p.length c2)), .bool b]) ∧ Rep (fun g => w.heap.size ≤ g) w' (.slice a1 z.l.length c1) (.slice a2 z.p.length c2) z ∧ FreeS w.heap.size w' (.slice a1 z.l.length c1) ∧ FreeS w.heap.size w' (.slice a2 z.p.length c2)
theorem gets_any {B B' : Nat → Prop} (w : World) (q1 q2 qp : Value) (x : Nd) (path : List K.T) (hr : Rep B w q1 q2 x) (hp : RepT B' w qp path) :
    Calls Tryz.prog 19 #[.agg (nv x q1 q2), qp] w (AnsR w (K.ans (K.get x path)) (K.is (K.get x path))) := by
  refine (get_any w q1 q2 qp x path hr hp (fun y _ => clone_any y)).mono fun e w' h => ?_
  obtain ⟨hb, h⟩ := h
  cases hg : K.get x path with
  | none =>
    rw [hg] at h
    exact ⟨hb, none, 0, none, 0, h, Rep.zero _ _, FreeS.nil _ _ _ _, FreeS.nil _ _ _ _⟩
  | some y =>
    rw [hg] at h
    obtain ⟨r1, r2, he, hrep, hf⟩ := h
    obtain ⟨ad1, cap1, rfl, _⟩ := hrep.parts.2.1.form
    obtain ⟨ad2, cap2, rfl, _⟩ := hrep.parts.2.2.form
    exact ⟨hb, ad1, cap1, ad2, cap2, he, hrep, hf⟩
/-- Get with one key, in a new block -/
theorem gets_one {B : Nat → Prop} (w : World) (q1 q2 : Value) (x : Nd) (key : K.T) (hl : key.length ≤ 140737488353000) (hr : Rep B w q1 q2 x) :
    Calls Tryz.prog 19 #[.agg (nv x q1 q2), .slice (some ⟨w.heap.size, 0, none⟩) 1 1] (w.alloc (.cells #[S key] 9)) (AnsR w (K.ans (K.get x [key])) (K.is (K.get x [key]))) := by
  have hB : Below w.heap.size w (w.alloc (.cells #[S key] 9)) := (Below.refl _ w).alloc (Nat.le_refl _) _
  have hbk := blk_new w (.cells #[S key] 9)
  have hp : RepT Any (w.alloc (.cells #[S key] 9)) (.slice (some ⟨w.heap.size, 0, none⟩) 1 1) [key] := by
    refine ⟨w.heap.size, 0, ⟨_, 1, rfl, by simp, fun _ => ⟨rfl, trivial, blk_lt hbk⟩⟩, fun i s hi => ?_⟩
    match i, hi with
    | 0, hi => cases hi; exact ⟨cell_of_row _ _ 0 _ 9 (0, 0) hbk, hl⟩
  refine (gets_any _ q1 q2 _ x [key] (hr.under hB) hp).mono fun e w' ⟨hb, a1, c1, a2, c2, he, hrep, hf⟩ => ?_
  exact ⟨hB.trans (hb.mono hB.size), a1, c1, a2, c2, he, hrep.mono (fun g h _ => Nat.le_trans hB.size h), hf.1.keep hB.size (fun _ _ _ => rfl), hf.2.keep hB.size (fun _ _ _ => rfl)⟩
/-- a node in a box of its own -/
def Box4 (w : World) (g : Nat) (z : Nd) (r1 r2 : Value) : Prop := w.heap[g]? = some (.cells (nv z r1 r2) 32 (0, 0))
theorem Box4.under {w w' : World} {g : Nat} {z : Nd} {r1 r2 : Value} (h : Box4 w g z r1 r2) (hb : Below w.heap.size w w') : Box4 w' g z r1 r2 := blk_under (w := w) h hb
end Go.Proofs.YtegobomfhdfodaaGreatDoor
