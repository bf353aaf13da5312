/- HTTP: THE PROGRAM'S READING AND WRITING, AS MATHEMATICS. -/
import Derived.WalkKit
import Derived.Lib.Hide
import Derived.Lib.SpaceUEq
import Derived.Lib.IndexMore
import Derived.Lib.SlTrimSet
import Derived.Shelf.GgClosure.StringsIndexFunc
import Derived.Test.YtomicdkmbgckkaaGreatDoorProg
namespace Go.Proofs.YtomicdkmbgckkaaGreatDoor
open Go.RowKit
set_option linter.unusedVariables false
set_option linter.unusedSimpArgs false
namespace H
abbrev T := List UInt8
def small (x : Nat) : Nat := if 65 ≤ x ∧ x ≤ 90 then x + 32 else x
def letter (x : Nat) : Bool := decide (97 ≤ small x) && decide (small x ≤ 122)
def digit (x : Nat) : Bool := decide (48 ≤ x) && decide (x ≤ 57)
def signs : T := [33, 35, 36, 37, 38, 39, 42, 43, 45, 46, 94, 95, 96, 124, 126]
def tok (x : Nat) : Bool := letter x || digit x || (decide (x < 128) && decide (0 ≤ Lib.indexByte signs x.toUInt8))
def tgt (x : Nat) : Bool := decide (33 ≤ x) && decide (x ≤ 126)
def val (x : Nat) : Bool := decide (x = 9) || (decide (32 ≤ x) && decide (x ≠ 127))
/-- the program's own question -/
def isOfR (s : T) (p : Nat → Bool) : Bool := !s.isEmpty && !decide (0 ≤ Lib.idxFunc (fun x => !p x) true ⟨s.toArray⟩)
/-- the same, byte by byte -/
def isOf (s : T) (p : Nat → Bool) : Bool := !s.isEmpty && s.all (fun b => p b.toNat)

theorem dec_hi (l : T) (b : UInt8) (t : T) (hl : l = b :: t) (hb : 128 ≤ b.toNat) : 128 ≤ (Lib.decodeL l).1 ∧ (Lib.decodeL l).2 ≤ l.length ∧ ∀ c ∈ l.take (Lib.decodeL l).2, 128 ≤ c.toNat := by
  have hc := Lib.decodeN_conts l.length (l.getD 0 0).toNat (l.getD 1 0).toNat (l.getD 2 0).toNat (l.getD 3 0).toNat
  have hk := Lib.decodeN_cases l.length (l.getD 0 0).toNat (l.getD 1 0).toNat (l.getD 2 0).toNat (l.getD 3 0).toNat
  rw [← Lib.decodeL_N] at hc hk
  have hw := Lib.decodeL_width l
  have h0 : (l.getD 0 0).toNat = b.toNat := by rw [hl]; rfl
  have hlen : 0 < l.length := by rw [hl]; simp
  obtain ⟨c2, c3, c4, c5⟩ := hc
  have h1 : 128 ≤ (Lib.decodeL l).1 := by
    rcases hk with ⟨h, _⟩ | ⟨_, _, _, h, e⟩ | ⟨_, _, _, _, h, e⟩ | ⟨h, _⟩ | e
    · omega
    · rw [e]; exact h
    · rw [e]; simp only; omega
    · omega
    · rw [e]; simp only; omega
  refine ⟨h1, by omega, ?_⟩
  intro c hcm
  obtain ⟨i, hi, rfl⟩ := List.getElem_of_mem hcm
  simp only [List.length_take] at hi
  rw [List.getElem_take]
  have e : l[i]'(by omega) = l.getD i 0 := by rw [List.getD_eq_getElem?_getD, List.getElem?_eq_getElem (by omega)]; rfl
  rw [e]
  have : i = 0 ∨ i = 1 ∨ i = 2 ∨ i = 3 := by omega
  rcases this with rfl | rfl | rfl | rfl <;> omega
theorem any_high {p : Nat → Bool} (hp : ∀ x, 128 ≤ x → p x = p 128) : ∀ (l : T), (∀ c ∈ l, 128 ≤ c.toNat) → l ≠ [] → l.any (fun b => p b.toNat) = p 128
  | [], _, h => absurd rfl h
  | [b], hl, _ => by simp [hp b.toNat (hl b (by simp))]
  | b :: c :: t, hl, _ => by
    have := any_high hp (c :: t) (fun x hx => hl x (by simp at hx ⊢; exact .inr hx)) (by simp)
    rw [List.any_cons, this, hp b.toNat (hl b (by simp)), Bool.or_self]
theorem idx_any (p : Nat → Bool) (hp : ∀ x, 128 ≤ x → p x = p 128) (s : ByteArray) : ∀ (f pos : Nat), s.size ≤ pos + f →
    decide (0 ≤ Lib.idxFuncFrom p true s f pos) = (s.data.toList.drop pos).any (fun b => p b.toNat)
  | 0, pos, h => by
    rw [List.drop_of_length_le (by rw [← Lib.size_eq]; omega)]
    rfl
  | f + 1, pos, h => by
    by_cases hlt : pos < s.size
    · have hdr : s.data.toList.drop pos = (s.data.toList)[pos]'(by rw [← Lib.size_eq]; exact hlt) :: s.data.toList.drop (pos + 1) := List.drop_eq_getElem_cons _
      obtain ⟨b, hb⟩ : ∃ b, (s.data.toList)[pos]'(by rw [← Lib.size_eq]; exact hlt) = b := ⟨_, rfl⟩
      rw [hb] at hdr
      have hd := Lib.decodeL_drop s pos
      simp only [Lib.idxFuncFrom, hlt, if_true]
      by_cases ha : b.toNat < 128
      · have e : Utf8.decode s pos = (b.toNat, 1) := by rw [← hd, hdr]; exact Lib.decodeL_ascii b _ ha
        rw [e, hdr, List.any_cons]
        simp only
        by_cases hpb : p b.toNat = true
        · rw [if_pos hpb, hpb]; simp
        · rw [if_neg hpb, idx_any p hp s f (pos + 1) (by omega)]
          simp [hpb]
      · have hh := dec_hi _ b _ hdr (by omega)
        rw [hd] at hh
        obtain ⟨h1, h2, h3⟩ := hh
        have hw := Lib.width_pos s pos
        have hsp : s.data.toList.drop pos = (s.data.toList.drop pos).take (Utf8.decode s pos).2 ++ s.data.toList.drop (pos + (Utf8.decode s pos).2) := by
          rw [← List.drop_drop, List.take_append_drop]
        rw [hsp, List.any_append, any_high hp _ h3 (by intro h0; have := congrArg List.length h0; simp only [List.length_take, List.length_nil] at this; have : 0 < (s.data.toList.drop pos).length := by rw [hdr]; simp
                                                       omega)]
        rw [hp _ h1]
        by_cases hpb : p 128 = true
        · rw [if_pos hpb, hpb]; simp
        · rw [if_neg hpb, idx_any p hp s f _ (by omega)]
          simp [hpb]
    · rw [Lib.idxFuncFrom_end p true s _ pos hlt, List.drop_of_length_le (by rw [← Lib.size_eq]; omega)]
      rfl
theorem isOf_eq (s : T) (p : Nat → Bool) (hp : ∀ x, 128 ≤ x → p x = p 128) : isOfR s p = isOf s p := by
  unfold isOfR isOf Lib.idxFunc
  rw [idx_any (fun x => !p x) (fun x hx => by simp [hp x hx]) ⟨s.toArray⟩ _ 0 (by omega), List.drop_zero]
  show (!s.isEmpty && !s.any _) = _
  rw [← List.all_eq_not_any_not]
theorem tok_hi : ∀ x, 128 ≤ x → tok x = tok 128 := by
  intro x hx
  have h1 : small x = x := by unfold small; rw [if_neg (by omega)]
  have : tok x = false := by
    simp only [tok, letter, digit, h1, Bool.or_eq_false_iff, Bool.and_eq_false_imp, decide_eq_true_eq, decide_eq_false_iff_not]
    exact ⟨⟨fun _ => by omega, fun _ => by omega⟩, fun h => by omega⟩
  rw [this]; rfl
theorem tgt_hi : ∀ x, 128 ≤ x → tgt x = tgt 128 := by
  intro x hx
  have : tgt x = false := by simp only [tgt, Bool.and_eq_false_imp, decide_eq_true_eq, decide_eq_false_iff_not]; exact fun _ => by omega
  rw [this]; rfl
theorem val_hi : ∀ x, 128 ≤ x → val x = val 129 := by
  intro x hx
  have : val x = true := by simp only [val, Bool.or_eq_true, Bool.and_eq_true, decide_eq_true_eq]; exact .inr ⟨by omega, by omega⟩
  rw [this]; rfl

/- what is read -/
abbrev R (α : Type) := Except Int (α × T)
def version : T := [72, 84, 84, 80, 47, 49, 46, 49]
def lengthN : T := [67, 111, 110, 116, 101, 110, 116, 45, 76, 101, 110, 103, 116, 104]
def codingN : T := [84, 114, 97, 110, 115, 102, 101, 114, 45, 69, 110, 99, 111, 100, 105, 110, 103]
def chunkedN : T := [99, 104, 117, 110, 107, 101, 100]
/-- letters of either case -/
def alike : T → T → Bool
  | [], [] => true
  | a :: s, b :: t => small a.toNat == small b.toNat && alike s t
  | _, _ => false
def line (l : T) : R T :=
  let i := Lib.indexByte (l.take 4098) 10
  if ¬ 0 ≤ i ∧ ¬ l.length < 4098 then .error 4
  else if ¬ 0 ≤ i then .error 14
  else if Lib.hasSuffix (l.take (i.toNat + 1)) [13, 10] then .ok (Lib.trimSuffix (l.take (i.toNat + 1)) [13, 10], l.drop (i.toNat + 1))
  else .error 13
def isValue (s : T) : Bool := s.isEmpty || (isOf s val && decide (s = Lib.trimS s [32, 9]))
structure Hd where
  name : T
  value : T
  deriving DecidableEq
def head (s : T) : Except Int Hd :=
  let c := Lib.cut s [58]
  let v := Lib.trimS c.2.1 [32, 9]
  if c.2.2 && isOf c.1 tok && isValue v then .ok ⟨c.1, v⟩ else .error 13
structure Fr where
  hs : List Hd
  lens : List T
  cods : List T
/-- one head more -/
def addHead (f : Fr) (h : Hd) : Except Int Fr :=
  if alike h.name lengthN then .ok { f with lens := f.lens ++ [h.value] }
  else if alike h.name codingN then .ok { f with cods := f.cods ++ [h.value] }
  else if f.hs.length < 64 then .ok { f with hs := f.hs ++ [h] }
  else .error 4
def headsF : Nat → Fr → T → R Fr
  | 0, _, _ => .error 0
  | n + 1, f, l =>
    match line l with
    | .error e => .error e
    | .ok (t, r) =>
      if t = [] then .ok (f, r)
      else match head t with
        | .error e => .error e
        | .ok h => match addHead f h with
          | .error e => .error e
          | .ok f' => headsF n f' r
def heads (l : T) : R Fr := headsF (l.length + 1) ⟨[], [], []⟩ l
end H
end Go.Proofs.YtomicdkmbgckkaaGreatDoor
