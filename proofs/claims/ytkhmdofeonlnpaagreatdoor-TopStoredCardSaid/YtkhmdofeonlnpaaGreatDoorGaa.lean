/- A DISK AS PLAIN DATA: files by rising names, what a change refuses, what it does. No program is imported. -/
import Derived.WalkKit
namespace Go.Proofs.YtkhmdofeonlnpaaGreatDoor
open Go.RowKit
set_option linter.unusedVariables false

theorem bl_cons (a b : UInt8) (x y : List UInt8) : Op.bytesLess (a :: x) (b :: y) = true ↔ a.toNat < b.toNat ∨ (a.toNat = b.toNat ∧ Op.bytesLess x y = true) := by
  simp only [Op.bytesLess, Bool.or_eq_true, Bool.and_eq_true, decide_eq_true_eq, beq_iff_eq, UInt8.lt_iff_toNat_lt, ← UInt8.toNat_inj]
theorem bl_nil (x : List UInt8) : ¬ Op.bytesLess x [] = true := by cases x <;> simp [Op.bytesLess]
theorem bl_irrefl : ∀ x, ¬ Op.bytesLess x x = true
  | [] => bl_nil []
  | a :: x => fun h => by
    rcases (bl_cons a a x x).1 h with h | ⟨_, h⟩
    · omega
    · exact bl_irrefl x h
theorem bl_trans : ∀ x y z, Op.bytesLess x y = true → Op.bytesLess y z = true → Op.bytesLess x z = true
  | x, y, [], _, h => absurd h (bl_nil y)
  | x, [], c :: z, h, _ => absurd h (bl_nil x)
  | [], b :: y, c :: z, _, _ => rfl
  | a :: x, b :: y, c :: z, h, h' => by
    rw [bl_cons] at h h' ⊢
    rcases h with h | ⟨e, h⟩ <;> rcases h' with h' | ⟨e', h'⟩
    · exact .inl (by omega)
    · exact .inl (by omega)
    · exact .inl (by omega)
    · exact .inr ⟨by omega, bl_trans x y z h h'⟩
theorem bl_tri : ∀ x y, ¬ Op.bytesLess x y = true → x ≠ y → Op.bytesLess y x = true
  | [], [], _, h => absurd rfl h
  | [], b :: y, h, _ => absurd rfl h
  | a :: x, [], _, _ => rfl
  | a :: x, b :: y, h, h' => by
    rw [bl_cons] at h ⊢
    by_cases e : a.toNat = b.toNat
    · have e' : a = b := UInt8.toNat_inj.1 e
      subst e'
      exact .inr ⟨rfl, bl_tri x y (fun q => h (.inr ⟨rfl, q⟩)) (fun q => h' (by rw [q]))⟩
    · exact .inl (by have : ¬ a.toNat < b.toNat := fun q => h (.inl q)
                     omega)
theorem str_is {a b : ByteArray} (h : a = b) : (a.toList == b.toList) = true := by rw [h]; simp
theorem str_inj {a b : ByteArray} (h : a.toList = b.toList) : a = b := by
  rw [Go.ByteArray.toList_eq, Go.ByteArray.toList_eq] at h
  exact ByteArray.ext (Array.toList_inj.1 h)
theorem str_not {a b : ByteArray} (h : a ≠ b) : (a.toList == b.toList) = false := by
  rw [beq_eq_false_iff_ne]
  exact fun e => h (str_inj e)

/-- a stands ahead of b -/
def lt (a b : ByteArray) : Bool := Op.bytesLess a.toList b.toList
theorem lt_irrefl (a : ByteArray) : ¬ lt a a = true := bl_irrefl _
theorem lt_trans {a b c : ByteArray} (h : lt a b = true) (h' : lt b c = true) : lt a c = true := bl_trans _ _ _ h h'
theorem lt_tri {a b : ByteArray} (h : ¬ lt a b = true) (h' : a ≠ b) : lt b a = true := bl_tri _ _ h (fun e => h' (str_inj e))
theorem lt_asym {a b : ByteArray} (h : lt a b = true) : ¬ lt b a = true := fun h' => lt_irrefl a (lt_trans h h')

/-- a file -/
structure F where
  name : ByteArray
  data : ByteArray
  syn : Int
deriving DecidableEq

/-- a step: its kind, and what it goes with -/
structure S where
  kind : Int
  name : ByteArray
  data : ByteArray
  size : Int

/-- a disk -/
structure D where
  files : List F
  down : Bool
  fuse : Int
  fault : Int

def okN (n : ByteArray) : Prop := n.size ≠ 0 ∧ n.size ≤ 4096
def okF (f : F) : Prop := okN f.name ∧ f.data.size ≤ 262144 ∧ 0 ≤ f.syn ∧ f.syn ≤ f.data.size
/-- the i-th file is right, where it stands -/
def good (fs : List F) (i : Nat) : Prop := ∀ f, fs[i]? = some f → okF f ∧ ∀ p, 0 < i → fs[i - 1]? = some p → lt p.name f.name = true
def Right (fs : List F) : Prop := fs.length ≤ 64 ∧ ∀ i, i < fs.length → good fs i
instance (n : ByteArray) : Decidable (okN n) := by unfold okN; infer_instance
instance (f : F) : Decidable (okF f) := by unfold okF; infer_instance

theorem Right.ok {fs : List F} (h : Right fs) : ∀ f ∈ fs, okF f := by
  intro f hf
  obtain ⟨i, hi⟩ := List.getElem?_of_mem hf
  exact (h.2 i (List.getElem?_eq_some_iff.1 hi).1 f hi).1
theorem Right.rise {fs : List F} (h : Right fs) : ∀ (j i : Nat) (p f : F), i < j → fs[i]? = some p → fs[j]? = some f → lt p.name f.name = true := by
  intro j
  induction j with
  | zero => intro i p f hij; omega
  | succ j ih =>
    intro i p f hij hp hf
    have hj : j + 1 < fs.length := (List.getElem?_eq_some_iff.1 hf).1
    obtain ⟨q, hq⟩ : ∃ q, fs[j]? = some q := ⟨fs[j], by simp⟩
    have h1 := (h.2 (j + 1) hj f hf).2 q (by omega) (by simpa using hq)
    by_cases e : i = j
    · subst e; rw [hp] at hq; injection hq with hq; subst hq; exact h1
    · exact lt_trans (ih i p q (by omega) hp hq) h1

/-- how many names stand ahead of one -/
def pos (fs : List F) (n : ByteArray) : Nat := (fs.takeWhile (fun f => lt f.name n)).length
theorem pos_le (fs : List F) (n : ByteArray) : pos fs n ≤ fs.length := (List.takeWhile_sublist _).length_le
theorem pos_unique {fs : List F} {n : ByteArray} : ∀ k, k ≤ fs.length → (∀ i f, i < k → fs[i]? = some f → lt f.name n = true) → (∀ f, fs[k]? = some f → ¬ lt f.name n = true) → pos fs n = k := by
  unfold pos
  induction fs with
  | nil => intro k hk _ _; simp at hk; simp [hk]
  | cons x t ih =>
    intro k hk h1 h2
    cases k with
    | zero =>
      have := h2 x rfl
      rw [List.takeWhile_cons, if_neg this]; rfl
    | succ k =>
      have := h1 0 x (by omega) rfl
      rw [List.takeWhile_cons, if_pos this, List.length_cons, ih k (by simpa using hk) (fun i f hi hf => h1 (i + 1) f (by omega) (by simpa using hf)) (fun f hf => h2 f (by simpa using hf))]
theorem pos_ahead {fs : List F} {n : ByteArray} : ∀ i f, i < pos fs n → fs[i]? = some f → lt f.name n = true := by
  unfold pos
  induction fs with
  | nil => intro i f h; simp at h
  | cons x t ih =>
    intro i f h hf
    by_cases hx : lt x.name n = true
    · rw [List.takeWhile_cons, if_pos hx, List.length_cons] at h
      cases i with
      | zero => simp at hf; subst hf; exact hx
      | succ i => exact ih i f (by omega) (by simpa using hf)
    · rw [List.takeWhile_cons, if_neg hx] at h; simp at h
theorem pos_at {fs : List F} {n : ByteArray} : ∀ f, fs[pos fs n]? = some f → ¬ lt f.name n = true := by
  unfold pos
  induction fs with
  | nil => intro f h; simp at h
  | cons x t ih =>
    intro f hf
    by_cases hx : lt x.name n = true
    · rw [List.takeWhile_cons, if_pos hx, List.length_cons] at hf; exact ih f (by simpa using hf)
    · rw [List.takeWhile_cons, if_neg hx] at hf; simp at hf; subst hf; exact hx
theorem pos_behind {fs : List F} (h : Right fs) {n : ByteArray} : ∀ i f, pos fs n ≤ i → fs[i]? = some f → ¬ lt f.name n = true := by
  intro i f hi hf
  by_cases e : pos fs n = i
  · subst e; exact pos_at f hf
  · have hil := (List.getElem?_eq_some_iff.1 hf).1
    obtain ⟨q, hq⟩ : ∃ q, fs[pos fs n]? = some q := ⟨fs[pos fs n]'(by omega), by simp⟩
    intro hl
    exact pos_at q hq (lt_trans (h.rise i _ q f (by omega) hq hf) hl)

/-- the file of that name -/
def found (fs : List F) (n : ByteArray) : Option F :=
  match fs[pos fs n]? with
  | some f => if f.name = n then some f else none
  | none => none
theorem found_some {fs : List F} {n : ByteArray} {f : F} (h : found fs n = some f) : fs[pos fs n]? = some f ∧ f.name = n := by
  unfold found at h
  cases hp : fs[pos fs n]? with
  | none => rw [hp] at h; cases h
  | some g =>
    rw [hp] at h
    simp only at h
    by_cases e : g.name = n
    · rw [if_pos e] at h; injection h with h; subst h; exact ⟨rfl, e⟩
    · rw [if_neg e] at h; cases h
theorem found_none {fs : List F} {n : ByteArray} (h : found fs n = none) : ∀ f, fs[pos fs n]? = some f → f.name ≠ n := by
  intro f hf e
  unfold found at h
  rw [hf] at h
  simp only [if_pos e] at h
  cases h
theorem found_mem {fs : List F} {n : ByteArray} {f : F} (h : found fs n = some f) : f ∈ fs := List.mem_of_getElem? (found_some h).1

/-- what a change itself refuses -/
def ref (fs : List F) (s : S) : Int :=
  if s.kind = 1 then (if okN s.name then (if (found fs s.name).isSome then 6 else if fs.length = 64 then 8 else 0) else 4)
  else match found fs s.name with
    | none => 7
    | some f =>
      if s.kind = 2 then (if 262144 - f.data.size < s.data.size then 8 else 0)
      else if s.kind = 4 then (if s.size < 0 ∨ (f.data.size : Int) < s.size then 2 else 0)
      else 0
/-- what it does to the files -/
def eff (fs : List F) (s : S) : List F :=
  if s.kind = 1 then fs.take (pos fs s.name) ++ ⟨s.name, ⟨#[]⟩, 0⟩ :: fs.drop (pos fs s.name)
  else match found fs s.name with
    | none => fs
    | some f =>
      if s.kind = 2 then fs.set (pos fs s.name) ⟨f.name, f.data ++ s.data, f.syn⟩
      else if s.kind = 3 then fs.set (pos fs s.name) ⟨f.name, f.data, f.data.size⟩
      else if s.kind = 4 then fs.set (pos fs s.name) ⟨f.name, f.data.extract 0 s.size.toNat, s.size⟩
      else fs.take (pos fs s.name) ++ fs.drop (pos fs s.name + 1)
def half (fs : List F) (s : S) : List F := if s.kind = 2 then eff fs s else fs
def dec (n : Int) : Int := if 0 < n then n - 1 else n
theorem dec_pos {n : Int} (h : 0 < n) : dec n = n - 1 := by unfold dec; rw [if_pos h]
theorem dec_neg {n : Int} (h : ¬ 0 < n) : dec n = n := by unfold dec; rw [if_neg h]
/-- a change, where its kind is one -/
def run (d : D) (s : S) : D × Int :=
  if d.down = true then (d, 17)
  else if ref d.files s ≠ 0 then (d, ref d.files s)
  else if d.fault = 0 then (⟨d.files, d.down, d.fuse, -1⟩, 18)
  else if d.fuse = 0 then (⟨half d.files s, true, 0, dec d.fault⟩, 17)
  else (⟨eff d.files s, false, dec d.fuse, dec d.fault⟩, 0)
def zero : D := ⟨[], false, 0, 0⟩
open Classical in
noncomputable def doo (d : D) (s : S) : D × Int :=
  if Right d.files then (if 1 ≤ s.kind ∧ s.kind ≤ 5 then run d s else (d, 5)) else (zero, 6)
end Go.Proofs.YtkhmdofeonlnpaaGreatDoor
