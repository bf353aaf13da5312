/- CONF: Parse and Print as one answer each. -/
import Derived.Test.YtegobomfhdfodaaGreatDoorFm
import Derived.Test.YtegobomfhdfodaaGreatDoorEb
namespace Go.Proofs.YtegobomfhdfodaaGreatDoor
open Go.RowKit
set_option maxRecDepth 100000
set_option linter.unusedVariables false
set_option linter.unusedSimpArgs false
namespace K
def pnode (o : Except (Int × Nat) (List (T × Nd))) : Nd := match o with
  | .ok p => .mk 0 [] [] p
  | .error _ => Nd.zero
def pcode (o : Except (Int × Nat) (List (T × Nd))) : Int := match o with
  | .ok _ => 0
  | .error x => x.1
def pline (o : Except (Int × Nat) (List (T × Nd))) : Nat := match o with
  | .ok _ => 0
  | .error x => x.2
theorem steps_err : ∀ (l : List (Nat × T)) (st : List L) (x : Int × Nat), steps st l = .error x → (x.1 = 15 ∨ x.1 = 11 ∨ x.1 = 4 ∨ x.1 = 3) ∧ x.2 ∈ l.map (·.1)
  | [], st, x, h => by cases h
  | y :: r, st, x, h => by
    simp only [steps] at h
    cases hs : step st y.2 with
    | ok s1 =>
      rw [hs] at h
      obtain ⟨h1, h2⟩ := steps_err r s1 x h
      exact ⟨h1, by simp only [List.map_cons, List.mem_cons]; exact .inr h2⟩
    | error c =>
      rw [hs] at h
      injection h with h
      subst h
      exact ⟨step_err hs, by simp⟩
theorem parse_err {s : T} {x : Int × Nat} (h : parse s = .error x) : ¬ x.1 = 0 ∧ (x.1 == 0) = false := by
  have : x.1 = 15 ∨ x.1 = 11 ∨ x.1 = 4 ∨ x.1 = 3 := by
    unfold parse at h
    split at h
    · injection h with h; subst h; simp
    · cases hs : steps st0 (linesOf s) with
      | ok st => rw [hs] at h; cases h
      | error y =>
        rw [hs] at h
        injection h with h
        subst h
        exact (steps_err _ _ _ hs).1
  exact ⟨by omega, by simp; omega⟩
theorem right_zero : right Nd.zero = true := by decide
theorem pnode_right (s : T) : right (pnode (parse s)) = true := by
  cases h : parse s with
  | error x => exact right_zero
  | ok p => exact parse_right h
theorem print_ok {x : Nd} {t : T} (h : print x = .ok t) : right x = true ∧ t = keysS 10 [] x.p ∧ t.length ≤ 16384 ∧ parse t = .ok x.p ∧ Nd.mk 0 [] [] x.p = x := by
  unfold print at h
  split at h
  · rename_i hr
    split at h
    · rename_i hl
      injection h with h
      subst h
      exact ⟨hr, rfl, hl, parse_print hr hl, (right_parts hr).1.symm⟩
    · cases h
  · cases h
theorem print_err {x : Nd} {c : Int} (h : print x = .error c) : (c = 15 ∧ right x = false) ∨ (c = 4 ∧ right x = true) := by
  unfold print at h
  split at h
  · rename_i hr
    split at h
    · cases h
    · injection h with h; exact .inr ⟨h.symm, hr⟩
  · rename_i hr
    injection h with h; exact .inl ⟨h.symm, by simpa using hr⟩
end K
/-- what Parse answers, from w on -/
def ParsR (w : World) (z : Nd) (c k : Int) (e : Ending) (w' : World) : Prop :=
  Below w.heap.size w w' ∧ ∃ ad cap, e = .returned (.tuple #[.agg #[.int .u8 (z.k : Int), S z.s, .slice none z.l.length 0, .slice ad z.p.length cap], .int .i64 c, .int .i64 k]) ∧ Rep Any w' (.slice none z.l.length 0) (.slice ad z.p.length cap) z
theorem parses_any (w : World) (s : K.T) (hl : s.length ≤ 9223372036854775807) (hT : Tb w) : Calls Tryz.prog 16 #[S s] w (ParsR w (K.pnode (K.parse s)) (K.pcode (K.parse s)) (K.pline (K.parse s))) := by
  refine (parse_any w s hl hT).mono fun e w' ⟨hb, h⟩ => ?_
  have hr := K.pnode_right s
  cases hp : K.parse s with
  | error x =>
    rw [hp] at h
    exact ⟨hb, none, 0, h, Rep.zero _ _⟩
  | ok p =>
    rw [hp] at h hr
    obtain ⟨q, he, hq⟩ := h
    obtain ⟨ad, cap, rfl, _⟩ := hq.form
    have := (K.right_parts hr).2.1
    have this : p.length ≤ 256 := this
    exact ⟨hb, ad, cap, he, Rep.of ⟨by show (0 : Nat) ≤ 255; omega, by show (0 : Nat) ≤ _; omega, by show (0 : Nat) * 16 ≤ _; omega, by show p.length * 88 ≤ _; omega⟩ (RepT.nil _ _) (hq.mono fun _ _ _ => trivial)⟩
theorem parses_ok {s : K.T} {p : List (K.T × Nd)} (hp : K.parse s = .ok p) (w : World) (hl : s.length ≤ 9223372036854775807) (hT : Tb w) : Calls Tryz.prog 16 #[S s] w (ParsR w (.mk 0 [] [] p) 0 0) := by
  have := parses_any w s hl hT
  rw [hp] at this
  exact this
theorem parses_err {s : K.T} {x : Int × Nat} (hp : K.parse s = .error x) (w : World) (hl : s.length ≤ 9223372036854775807) (hT : Tb w) : Calls Tryz.prog 16 #[S s] w (ParsR w Nd.zero x.1 x.2) := by
  have := parses_any w s hl hT
  rw [hp] at this
  exact this
theorem prints_ok {B : Nat → Prop} {x : Nd} {t : K.T} (hp : K.print x = .ok t) (w : World) (q1 q2 : Value) (hr : Rep B w q1 q2 x) (hT : Tb w) : Calls Tryz.prog 15 #[.agg (nv x q1 q2)] w fun e w' => Below w.heap.size w w' ∧ e = .returned (.tuple #[S t, .int .i64 0]) := by
  have := print_any w q1 q2 x hr hT
  rw [hp] at this
  exact this
theorem prints_err {B : Nat → Prop} {x : Nd} {c : Int} (hp : K.print x = .error c) (w : World) (q1 q2 : Value) (hr : Rep B w q1 q2 x) (hT : Tb w) : Calls Tryz.prog 15 #[.agg (nv x q1 q2)] w fun e w' => Below w.heap.size w w' ∧ e = .returned (.tuple #[S [], .int .i64 c]) := by
  have := print_any w q1 q2 x hr hT
  rw [hp] at this
  exact this
theorem checks_ok {B : Nat → Prop} {x : Nd} (h : K.right x = true) (w : World) (q1 q2 : Value) (hr : Rep B w q1 q2 x) : Calls Tryz.prog 18 #[.agg (nv x q1 q2)] w fun e w' => e = .returned (.int .i64 0) ∧ Below w.heap.size w w' := by
  have := ccheck_any w q1 q2 x hr
  rw [if_pos h] at this
  exact this
/-- a node's box laid behind a world -/
theorem box_new (w : World) (z : Nd) (r1 r2 : Value) {X : World} (h : X = w.alloc (.cells (nv z r1 r2) 32)) : Below w.heap.size w X ∧ Box4 X w.heap.size z r1 r2 := by
  subst h
  exact ⟨(Below.refl _ w).alloc (Nat.le_refl _) _, blk_new w _⟩
end Go.Proofs.YtegobomfhdfodaaGreatDoor
