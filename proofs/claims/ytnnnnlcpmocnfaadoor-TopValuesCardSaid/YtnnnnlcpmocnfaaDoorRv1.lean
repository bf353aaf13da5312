/- MESSAGES OF VALUES, READ: the model. -/
import Derived.Test.YtnnnnlcpmocnfaaDoorRm
import Derived.Test.YtnnnnlcpmocnfaaDoorLaw0
import Derived.Outline
import Derived.WalkLawsBesides
import Derived.Deep.RegionLaw
import Derived.Deep.RegionHeld3
namespace Go.Proofs.YtnnnnlcpmocnfaaDoor
open Go.RowKit
set_option linter.unusedVariables false
set_option linter.unusedSimpArgs false
attribute [local go_sem] run_store_float

/-- what reading answers -/
def RPost (r : Except Int V) (w : World) (e : Ending) (w' : World) : Prop :=
  match r with
  | .error c => e = pan31 c ∧ Below w.heap.size w w'
  | .ok x => Copied x w e w'
def strOf (f : Option M.Fd) : List UInt8 := match f with | some f => f.s | none => []
abbrev BA (l : List UInt8) : ByteArray := ⟨l.toArray⟩
def rpairG (g : List UInt8 → Except Int V) (s : List UInt8) : Except Int (ByteArray × V) :=
  match M.read s with
  | .error c => .error (c : Int)
  | .ok fs => if keyErr (BA (strOf (lastOf 1 2 fs))) = 0 then (match g (strOf (lastOf 2 2 fs)) with | .error c => .error c | .ok x => .ok (BA (strOf (lastOf 1 2 fs)), x)) else .error (keyErr (BA (strOf (lastOf 1 2 fs))))
def rlistG (g : List UInt8 → Except Int V) (fs : List M.Fd) : Except Int (List V) :=
  fs.foldl (fun acc f => match acc with | .error c => .error c | .ok l => (match g f.s with | .error c => .error c | .ok x => .ok (l ++ [x]))) (.ok [])
def rpairsG (g : List UInt8 → Except Int V) (fs : List M.Fd) : Except Int (List (ByteArray × V)) :=
  fs.foldl (fun acc f => match acc with | .error c => .error c | .ok l => (match rpairG g f.s with | .error c => .error c | .ok x => .ok (putIn l x.1 x.2))) (.ok [])
theorem rlistG_snoc (g : List UInt8 → Except Int V) (fs : List M.Fd) (f : M.Fd) : rlistG g (fs ++ [f]) = match rlistG g fs with | .error c => .error c | .ok l => (match g f.s with | .error c => .error c | .ok x => .ok (l ++ [x])) := by
  unfold rlistG; rw [List.foldl_append]; rfl
theorem rpairsG_snoc (g : List UInt8 → Except Int V) (fs : List M.Fd) (f : M.Fd) : rpairsG g (fs ++ [f]) = match rpairsG g fs with | .error c => .error c | .ok l => (match rpairG g f.s with | .error c => .error c | .ok x => .ok (putIn l x.1 x.2)) := by
  unfold rpairsG; rw [List.foldl_append]; rfl
theorem rev_ind {α : Type} {P : List α → Prop} (h0 : P []) (h1 : ∀ l a, P l → P (l ++ [a])) (l : List α) : P l := by
  have key : ∀ r : List α, P r.reverse := by
    intro r
    induction r with
    | nil => exact h0
    | cons a r ih => rw [List.reverse_cons]; exact h1 _ a ih
  have := key l.reverse
  rwa [List.reverse_reverse] at this
theorem rlistG_err {g : List UInt8 → Except Int V} {fs : List M.Fd} {c : Int} (h : rlistG g fs = .error c) (rest : List M.Fd) : rlistG g (fs ++ rest) = .error c := by
  refine rev_ind (P := fun rest => rlistG g (fs ++ rest) = .error c) (by simpa using h) (fun rest f ih => ?_) rest
  rw [← List.append_assoc, rlistG_snoc, ih]
theorem rpairsG_err {g : List UInt8 → Except Int V} {fs : List M.Fd} {c : Int} (h : rpairsG g fs = .error c) (rest : List M.Fd) : rpairsG g (fs ++ rest) = .error c := by
  refine rev_ind (P := fun rest => rpairsG g (fs ++ rest) = .error c) (by simpa using h) (fun rest f ih => ?_) rest
  rw [← List.append_assoc, rpairsG_snoc, ih]
/-- one value, of what is around it -/
def rbody (fuel : Nat) (g : List UInt8 → Except Int V) (s : List UInt8) : Except Int V :=
  match M.read s with
  | .error c => .error (c : Int)
  | .ok fs =>
    if (toldOf fs).1 = 1 then (if keyErr (BA (toldOf fs).2.s) = 0 then .ok (.mk 1 (BA (toldOf fs).2.s) false 0 0 [] []) else .error (keyErr (BA (toldOf fs).2.s)))
    else if (toldOf fs).1 = 2 then .ok (.mk 2 ⟨#[]⟩ (((toldOf fs).2.n : Int) != 0) 0 0 [] [])
    else if (toldOf fs).1 = 3 then .ok (.mk 3 ⟨#[]⟩ false (IntKind.i64.wrap (toldOf fs).2.n) 0 [] [])
    else if (toldOf fs).1 = 4 then .ok (.mk 4 ⟨#[]⟩ false 0 (toldOf fs).2.n [] [])
    else if (toldOf fs).1 = 5 then (match partsR (toldOf fs).2.s fuel with | .error c => .error c | .ok ps => (match rlistG g ps with | .error c => .error c | .ok l => .ok (.mk 5 ⟨#[]⟩ false 0 0 l [])))
    else if (toldOf fs).1 = 6 then (match partsR (toldOf fs).2.s fuel with | .error c => .error c | .ok ps => (match rpairsG g ps with | .error c => .error c | .ok l => .ok (.mk 6 ⟨#[]⟩ false 0 0 [] l)))
    else if (toldOf fs).1 = 7 then (if (toldOf fs).2.s.length ≤ 4096 then .ok (.mk 7 (BA (toldOf fs).2.s) false 0 0 [] []) else .error 4)
    else .ok (.mk 0 ⟨#[]⟩ false 0 0 [] [])
/-- what a message says, so many lists and maps being allowed -/
def rmsg : Nat → List UInt8 → Except Int V
  | 0, s => rbody 0 (fun _ => .error 11) s
  | n + 1, s => rbody (n + 1) (rmsg n) s
def ReadC (n : Nat) : Prop := ∀ (s : List UInt8) (w : World), Tabs w → s.length ≤ 9223372036854775807 → Calls Tryd.prog 66 #[.string ⟨s.toArray⟩, .int .i64 (8 - (n : Int))] w (RPost (rmsg n s) w)

/-- texts of fields are short -/
theorem parse1_s {l : List UInt8} {f : M.Fd} {r : List UInt8} (h : M.parse1 l = .ok (f, r)) : f.s.length ≤ l.length := by
  unfold M.parse1 at h
  cases hr : M.rd l with
  | none => rw [hr] at h; cases h
  | some x =>
    obtain ⟨k, a⟩ := x
    rw [hr] at h
    simp only at h
    repeat' split at h
    all_goals first
      | (cases h; done)
      | (injection h with h; injection h with h _; subst h; simp; done)
      | (injection h with h; injection h with h _; subst h; simp only [List.length_take, List.length_drop]; omega)
theorem parse_s : ∀ (n : Nat) (l : List UInt8), l.length ≤ n → ∀ fs, M.parse l = .ok fs → ∀ f ∈ fs, f.s.length ≤ l.length := by
  intro n
  induction n with
  | zero =>
    intro l hl fs h f hf
    have : l = [] := List.eq_nil_of_length_eq_zero (by omega)
    subst this
    rw [M.parse_nil] at h
    injection h with h; subst h; cases hf
  | succ n ih =>
    intro l hl fs h f hf
    by_cases h0 : l = []
    · subst h0; rw [M.parse_nil] at h; injection h with h; subst h; cases hf
    · cases h1 : M.parse1 l with
      | error e => rw [M.parse_err h0 h1] at h; cases h
      | ok x =>
        obtain ⟨g, r⟩ := x
        rw [M.parse_ok h0 h1] at h
        have hlen := M.parse1_len h1
        cases h2 : M.parse r with
        | error e => rw [h2] at h; cases h
        | ok gs =>
          rw [h2] at h
          injection h with h
          subst h
          rcases List.mem_cons.1 hf with rfl | hf
          · exact parse1_s h1
          · have := ih r (by omega) gs h2 f hf; omega
theorem read_s {s : List UInt8} {fs : List M.Fd} (h : M.read s = .ok fs) : ∀ f ∈ fs, f.s.length ≤ 65536 := by
  unfold M.read at h
  split at h
  · cases h
  · rename_i hl
    cases hp : M.parse s with
    | error e => rw [hp] at h; cases h
    | ok gs =>
      rw [hp] at h
      dsimp only at h
      split at h
      · cases h
      · injection h with h; subst h
        intro f hf
        have := parse_s _ s (Nat.le_refl _) gs hp f hf
        omega
theorem told_mem (fs : List M.Fd) : (toldOf fs).2 ∈ fs ∨ toldOf fs = (0, ⟨0, 0, 0, []⟩) := by
  refine rev_ind (P := fun fs => (toldOf fs).2 ∈ fs ∨ toldOf fs = (0, ⟨0, 0, 0, []⟩)) (.inr rfl) (fun fs f ih => ?_) fs
  rw [toldOf_snoc]
  split
  · rcases ih with h | h
    · exact .inl (by simp [h])
    · exact .inr h
  · exact .inl (by simp)
theorem told_kind (fs : List M.Fd) : (toldOf fs).1 = 0 ∧ (toldOf fs).2 = ⟨0, 0, 0, []⟩ ∨ (toldOf fs).1 = kindOf (toldOf fs).2 := by
  refine rev_ind (P := fun fs => (toldOf fs).1 = 0 ∧ (toldOf fs).2 = ⟨0, 0, 0, []⟩ ∨ (toldOf fs).1 = kindOf (toldOf fs).2) (.inl ⟨rfl, rfl⟩) (fun fs f ih => ?_) fs
  rw [toldOf_snoc]
  split
  · exact ih
  · exact .inr rfl
theorem kindOf_range (f : M.Fd) : 0 ≤ kindOf f ∧ kindOf f ≤ 7 := by
  unfold kindOf
  repeat' split
  all_goals omega
end Go.Proofs.YtnnnnlcpmocnfaaDoor
