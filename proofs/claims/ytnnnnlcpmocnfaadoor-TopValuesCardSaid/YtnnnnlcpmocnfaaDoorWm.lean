/- MESSAGES OF VALUES: the model of what is written, and a message of fields, WALKED. -/
import Derived.Test.YtnnnnlcpmocnfaaDoorCk4
import Derived.Test.YtnnnnlcpmocnfaaDoorRow
import Derived.Outline
import Derived.WalkLawsBesides
import Derived.Deep.RegionLaw
import Derived.Deep.RegionHeld3
namespace Go.Proofs.YtnnnnlcpmocnfaaDoor
open Go.RowKit
set_option linter.unusedVariables false
set_option linter.unusedSimpArgs false
attribute [local go_sem] run_store_float

abbrev Res := Except Nat (List UInt8)
/-- a message of fields -/
def wrE (fs : List M.Fd) : Res := if (M.wr fs).1 = 0 then .ok (M.wr fs).2 else .error (M.wr fs).1
/-- what writes a message leaves: the bytes, or a panic with the error's number -/
def Wrote (r : Res) (w : World) (e : Ending) (w' : World) : Prop :=
  (match r with | .ok t => e = .returned (.string ⟨t.toArray⟩) | .error c => e = pan31 (c : Int)) ∧ Below w.heap.size w w'
theorem Wrote.ok {t : List UInt8} {w : World} {e : Ending} {w' : World} (h : Wrote (.ok t) w e w') : e = .returned (.string ⟨t.toArray⟩) ∧ Below w.heap.size w w' := h
theorem Wrote.no {c : Nat} {w : World} {e : Ending} {w' : World} (h : Wrote (.error c) w e w') : e = pan31 (c : Int) ∧ Below w.heap.size w w' := h
theorem Wrote.mk0 {t : List UInt8} {w w' : World} (h : Below w.heap.size w w') : Wrote (.ok t) w (.returned (.string ⟨t.toArray⟩)) w' := ⟨rfl, h⟩
theorem Wrote.mkn {c : Nat} {w w' : World} (h : Below w.heap.size w w') : Wrote (.error c) w (pan31 (c : Int)) w' := ⟨rfl, h⟩

theorem wr_cases (fs : List M.Fd) : (∃ e, (e = 2 ∨ e = 3 ∨ e = 4) ∧ M.wr fs = (e, [])) ∨ (M.wr fs = (0, M.enc fs) ∧ fs.all M.may = true ∧ fs.length ≤ 4096 ∧ (M.enc fs).length ≤ 65536) := by
  unfold M.wr
  split
  · exact .inl ⟨3, by omega, rfl⟩
  · split
    · exact .inl ⟨2, by omega, rfl⟩
    · split
      · exact .inl ⟨4, by omega, rfl⟩
      · rename_i h1 h2 h3
        exact .inr ⟨rfl, by simpa using h2, by omega, by omega⟩
/-- a message: the error, or the bytes -/
theorem wrE_cases (fs : List M.Fd) : (∃ e, (e = 2 ∨ e = 3 ∨ e = 4) ∧ M.wr fs = (e, []) ∧ wrE fs = .error e) ∨ (M.wr fs = (0, M.enc fs) ∧ wrE fs = .ok (M.enc fs) ∧ fs.all M.may = true ∧ fs.length ≤ 4096 ∧ (M.enc fs).length ≤ 65536) := by
  rcases wr_cases fs with ⟨e, he, h⟩ | ⟨h, h2⟩
  · exact .inl ⟨e, he, h, by unfold wrE; rw [h, if_neg (by simp only; omega)]⟩
  · exact .inr ⟨h, by unfold wrE; rw [h, if_pos rfl], h2⟩

theorem write_any (w : World) (ad : Option Addr) (cap n : Nat) (fs : List M.Fd) (hfn : n = fs.length) (hfs : Flds w w.heap.size ad fs) :
    Calls Tryd.prog 41 #[.slice ad n cap] w fun e w' => e = .returned (.tuple #[.string ⟨(M.wr fs).2.toArray⟩, .int .i64 (M.wr fs).1]) ∧ Below w.heap.size w w' := by
  by_cases h : n ≤ 4096
  · exact write_short w ad cap n fs hfn hfs h
  · have hr : M.wr fs = (3, []) := by rw [M.wr, if_pos (by omega)]
    rw [hr]
    exact (write_long w ad cap n (by rw [hfn]; exact hfs.1) (by omega)).mono fun e w' ⟨he, hw⟩ => ⟨he, by rw [← hw]; exact Below.refl _ _⟩

theorem on_no (e : Int) (w : World) (h0 : (e == 0) = false) : Calls Tryd.prog 114 #[.int .i64 e] w fun en w' => en = pan31 e ∧ w = w' := by
  go_enter Tryd.func114, Tryd.ntmps114
  go_wp2_with fail
  refine (unless_no _ _).mono ?_
  rintro e w' ⟨rfl, rfl⟩
  exact ⟨rfl, by exact ⟨rfl, rfl⟩⟩

/-- the fields of a slice, written -/
theorem message_any (w : World) (ad : Option Addr) (cap n : Nat) (fs : List M.Fd) (hfn : n = fs.length) (hfs : Flds w w.heap.size ad fs) :
    Calls Tryd.prog 98 #[.slice ad n cap] w (Wrote (wrE fs) w) := by
  have h := write_any w ad cap n fs hfn hfs
  rcases wrE_cases fs with ⟨c, hc, h1, h2⟩ | ⟨h1, h2, _⟩
  · rw [h2]
    rw [h1] at h
    have H := Lib.hid h
    have Hc := Lib.hid (show ((c : Int) == 0) = false from beq_eq_false_iff_ne.2 (by omega))
    clear h h1 h2 hc hfs hfn
    go_enter Tryd.func98, Tryd.ntmps98
    go_wp2_with fail
    refine (H.out).mono ?_
    rintro e w' ⟨rfl, hb⟩
    go_wp2_with fail
    refine (on_no _ _ Hc.out).mono ?_
    rintro e w2 ⟨rfl, rfl⟩
    exact ⟨rfl, by exact Wrote.mkn hb⟩
  · rw [h2]
    rw [h1] at h
    have H := Lib.hid h
    clear h h1 h2 hfs hfn
    go_enter Tryd.func98, Tryd.ntmps98
    go_wp2_with fail
    refine (H.out).mono ?_
    rintro e w' ⟨rfl, hb⟩
    go_wp2_with fail
    refine (on_ok _).mono ?_
    rintro e w2 ⟨rfl, rfl⟩
    go_wp2
    go_ret
    exact Wrote.mk0 hb

theorem flds_one {w : World} {g : Nat} {f : M.Fd} {a b c : Int} {l : List UInt8} (hf : Fit f a b c l) (hg : w.heap[g]? = some (.cells (fcells a b c l) 69 (0, 0))) : Flds w w.heap.size (some ⟨g, 0, none⟩) [f] := by
  have hx := box4 hg
  refine ⟨by simp, fun _ => ⟨g, 0, rfl, (Array.getElem?_eq_some_iff.1 hg).1, fun i f' hf' => ?_⟩⟩
  match i, hf' with
  | 0, hf' =>
    simp at hf'
    subst hf'
    exact ⟨a, b, c, l, hf, ⟨hx.1, hx.2.1, hx.2.2.1, hx.2.2.2⟩⟩
/-- one field, written -/
theorem message_fd (w : World) (g : Nat) (f : M.Fd) (a b c : Int) (l : List UInt8) (hf : Fit f a b c l) (hg : w.heap[g]? = some (.cells (fcells a b c l) 69 (0, 0))) (r : Res) (hr : wrE [f] = r) :
    Calls Tryd.prog 98 #[.slice (some ⟨g, 0, none⟩) 1 1] w (Wrote r w) := by
  rw [← hr]
  exact message_any w _ 1 1 [f] rfl (flds_one hf hg)

/-- a field of bytes -/
abbrev bf (n : Int) (t : List UInt8) : M.Fd := ⟨n, 2, 0, t⟩
/-- parts, as fields; the first error -/
def joined : List Res → Except Nat (List M.Fd)
  | [] => .ok []
  | .error e :: _ => .error e
  | .ok t :: rs => match joined rs with | .error e => .error e | .ok fs => .ok (bf 1 t :: fs)
def wjoin (rs : List Res) : Res := match joined rs with | .error e => .error e | .ok fs => wrE fs
def around (n : Int) (r : Res) : Res := match r with | .error e => .error e | .ok t => wrE [bf n t]
def keyf (key : ByteArray) : List M.Fd := if key.toList.isEmpty = true then [] else [bf 1 key.data.toList]
def wpairE (key : ByteArray) (k : Int) (r : Res) : Res := if k = 0 then wrE (keyf key) else match r with | .error e => .error e | .ok t => wrE (keyf key ++ [bf 2 t])
mutual
/-- a value's message -/
noncomputable def wmsg : V → Res
  | .mk k s b n f l p => if k = 1 then wrE [bf 1 s.data.toList] else if k = 2 then wrE [⟨2, 0, if b then 1 else 0, []⟩] else if k = 3 then wrE [⟨3, 0, (IntKind.u64.wrap n).toNat, []⟩] else if k = 4 then wrE [⟨4, 1, f, []⟩]
    else if k = 5 then around 5 (wjoin (wL l)) else if k = 6 then around 6 (wjoin (wP p)) else if k = 7 then wrE [bf 7 s.data.toList] else .ok []
noncomputable def wL : List V → List Res
  | [] => []
  | x :: l => wmsg x :: wL l
noncomputable def wP : List (ByteArray × V) → List Res
  | [] => []
  | (key, x) :: l => wpairE key x.k (wmsg x) :: wP l
end
noncomputable def wpair (key : ByteArray) (x : V) : Res := wpairE key x.k (wmsg x)
theorem wL_map (l : List V) : wL l = l.map wmsg := by
  induction l with
  | nil => rw [wL]; rfl
  | cons x l ih => rw [wL, ih]; rfl
theorem wP_map (l : List (ByteArray × V)) : wP l = l.map fun e => wpair e.1 e.2 := by
  induction l with
  | nil => rw [wP]; rfl
  | cons x l ih => obtain ⟨key, x⟩ := x; rw [wP, ih]; rfl
theorem wmsg_eq (x : V) : wmsg x = if x.k = 1 then wrE [bf 1 x.s.data.toList] else if x.k = 2 then wrE [⟨2, 0, if x.b then 1 else 0, []⟩] else if x.k = 3 then wrE [⟨3, 0, (IntKind.u64.wrap x.n).toNat, []⟩] else if x.k = 4 then wrE [⟨4, 1, x.f, []⟩]
    else if x.k = 5 then around 5 (wjoin (x.l.map wmsg)) else if x.k = 6 then around 6 (wjoin (x.p.map fun e => wpair e.1 e.2)) else if x.k = 7 then wrE [bf 7 x.s.data.toList] else .ok [] := by
  rw [← wL_map, ← wP_map]
  cases x
  rw [wmsg]
  rfl
theorem joined_snoc (rs : List Res) (r : Res) : joined (rs ++ [r]) = match joined rs with | .error e => .error e | .ok fs => (match r with | .error e => .error e | .ok t => .ok (fs ++ [bf 1 t])) := by
  induction rs with
  | nil => cases r <;> rfl
  | cons a rs ih =>
    cases a with
    | error e => rfl
    | ok t =>
      show (match joined (rs ++ [r]) with | .error e => Except.error e | .ok fs => .ok (bf 1 t :: fs)) = _
      rw [ih]
      show _ = match (match joined rs with | .error e => Except.error e | .ok fs => .ok (bf 1 t :: fs)) with | .error e => Except.error e | .ok fs => _
      cases joined rs with
      | error e => rfl
      | ok fs => cases r <;> rfl
theorem joined_err (rs qs : List Res) {c : Nat} (h : joined rs = .error c) : joined (rs ++ qs) = .error c := by
  induction rs with
  | nil => cases h
  | cons a rs ih =>
    cases a with
    | error e => exact h
    | ok t =>
      have h' : (match joined rs with | .error e => Except.error e | .ok fs => .ok (bf 1 t :: fs)) = .error c := h
      show (match joined (rs ++ qs) with | .error e => Except.error e | .ok fs => .ok (bf 1 t :: fs)) = .error c
      cases hj : joined rs with
      | error e => rw [hj] at h'; injection h' with h'; subst h'; rw [ih hj]
      | ok fs => rw [hj] at h'; cases h'
theorem joined_len : ∀ (rs : List Res) (fs : List M.Fd), joined rs = .ok fs → fs.length = rs.length := by
  intro rs
  induction rs with
  | nil => intro fs h; injection h with h; subst h; rfl
  | cons a rs ih =>
    intro fs h
    cases a with
    | error e => cases h
    | ok t =>
      have h' : (match joined rs with | .error e => Except.error e | .ok fs => .ok (bf 1 t :: fs)) = .ok fs := h
      cases hj : joined rs with
      | error e => rw [hj] at h'; cases h'
      | ok gs => rw [hj] at h'; injection h' with h'; subst h'; simp [ih gs hj]
end Go.Proofs.YtnnnnlcpmocnfaaDoor
