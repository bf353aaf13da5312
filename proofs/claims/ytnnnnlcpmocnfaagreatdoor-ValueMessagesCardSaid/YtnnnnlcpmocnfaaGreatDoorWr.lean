/-
  PLAIN MATHEMATICS OF LAYER 1 (wire): varints, zigzags, fields, messages, as functions on lists of bytes; no program is imported.
-/
import Derived.WalkKit
import Derived.Maps.AppendAt
import Derived.Lib.Hide
import Derived.Lib.AppendStr
import Derived.Laws.IdiomStrings
import Derived.Test.YtnnnnlcpmocnfaaGreatDoorChecked
import Derived.WalkSpells
import Derived.WalkLawsBesides
import Derived.Outline
import Derived.Shelf.Strconv.Itoa0
import Derived.Test.YtnnnnlcpmocnfaaGreatDoorProg
import Derived.BigQuiet
import Derived.Deep.QuietTactic
namespace Go.Proofs.YtnnnnlcpmocnfaaGreatDoor.M

/-- a byte of a number -/
def by8 (n : Nat) : UInt8 := UInt8.ofNat n
theorem by8_toNat (n : Nat) (h : n < 256) : (by8 n).toNat = n := by
  unfold by8
  rw [UInt8.toNat_ofNat']
  exact Nat.mod_eq_of_lt h

/-- the shortest varint -/
def vnum (n : Nat) : List UInt8 :=
  if n < 128 then [by8 n] else by8 (n % 128 + 128) :: vnum (n / 128)
termination_by n
decreasing_by omega

theorem vnum_lt {n : Nat} (h : n < 128) : vnum n = [by8 n] := by rw [vnum, if_pos h]
theorem vnum_ge {n : Nat} (h : ¬ n < 128) : vnum n = by8 (n % 128 + 128) :: vnum (n / 128) := by rw [vnum, if_neg h]

theorem vnum_pos (n : Nat) : 0 < (vnum n).length := by
  by_cases h : n < 128
  · rw [vnum_lt h]; simp
  · rw [vnum_ge h]; simp

theorem vnum_len_le (k : Nat) : ∀ n, n < 128 ^ (k + 1) → (vnum n).length ≤ k + 1 := by
  induction k with
  | zero => intro n h; rw [vnum_lt (by simpa using h)]; simp
  | succ k ih =>
    intro n h
    by_cases h1 : n < 128
    · rw [vnum_lt h1]; simp
    · rw [vnum_ge h1]
      have := ih (n / 128) (by rw [Nat.pow_succ] at h; omega)
      simp only [List.length_cons]; omega

theorem vnum_len10 (n : Nat) (h : n < 18446744073709551616) : (vnum n).length ≤ 10 :=
  vnum_len_le 9 n (Nat.lt_of_lt_of_le h (by decide))

theorem vnum_len1 (n : Nat) : (vnum n).length = 1 ↔ n < 128 := by
  by_cases h : n < 128
  · rw [vnum_lt h]; simp [h]
  · rw [vnum_ge h]; have := vnum_pos (n / 128); simp only [List.length_cons]; omega

theorem vnum_half (n : Nat) : ∀ m, m ≤ n → (vnum m).length ≤ (vnum n).length := by
  induction n using Nat.strongRecOn with
  | ind n ih =>
    intro m hm
    by_cases h : m < 128
    · rw [vnum_lt h]; exact vnum_pos n
    · rw [vnum_ge h, vnum_ge (show ¬ n < 128 by omega)]
      have := ih (n / 128) (by omega) (m / 128) (by omega)
      simp only [List.length_cons]; omega

/-- a varint is read, with i bytes ahead of it -/
def rdAt : Nat → List UInt8 → Option (Nat × Nat)
  | _, [] => none
  | i, b :: t => if 10 ≤ i then none else if i = 9 ∧ 1 < b.toNat then none else if b.toNat < 128 then some (b.toNat, 1)
      else (rdAt (i + 1) t).map fun x => (b.toNat % 128 + 128 * x.1, x.2 + 1)
def rd (l : List UInt8) : Option (Nat × Nat) := rdAt 0 l

theorem rdAt_ten (i : Nat) (h : 10 ≤ i) (l : List UInt8) : rdAt i l = none := by
  cases l with
  | nil => rfl
  | cons b t => rw [rdAt, if_pos h]

theorem rdAt_bound : ∀ (l : List UInt8) (i : Nat) (n k : Nat), rdAt i l = some (n, k) → 0 < k ∧ k ≤ l.length ∧ i + k ≤ 10 ∧ n * 128 ^ i < 18446744073709551616 := by
  intro l
  induction l with
  | nil => intro i n k h; cases h
  | cons b t ih =>
    intro i n k h
    rw [rdAt] at h
    by_cases h1 : 10 ≤ i
    · rw [if_pos h1] at h; cases h
    · rw [if_neg h1] at h
      by_cases h2 : i = 9 ∧ 1 < b.toNat
      · rw [if_pos h2] at h; cases h
      · rw [if_neg h2] at h
        by_cases h3 : b.toNat < 128
        · rw [if_pos h3] at h
          injection h with h
          injection h with ha hb
          subst ha hb
          refine ⟨by omega, by simp, by omega, ?_⟩
          by_cases h9 : i = 9
          · subst h9
            have hb1 : b.toNat ≤ 1 := by omega
            calc b.toNat * 128 ^ 9 ≤ 1 * 128 ^ 9 := Nat.mul_le_mul_right _ hb1
              _ < _ := by decide
          · have hp : 128 ^ i ≤ 128 ^ 8 := Nat.pow_le_pow_right (by decide) (by omega)
            calc b.toNat * 128 ^ i ≤ 127 * 128 ^ 8 := Nat.mul_le_mul (by omega) hp
              _ < _ := by decide
        · rw [if_neg h3] at h
          cases hr : rdAt (i + 1) t with
          | none => rw [hr] at h; cases h
          | some x =>
            obtain ⟨n', k'⟩ := x
            rw [hr] at h
            simp only [Option.map_some] at h
            injection h with h
            injection h with ha hb
            subst ha hb
            obtain ⟨g1, g2, g3, g4⟩ := ih (i + 1) n' k' hr
            refine ⟨by omega, by simp; omega, by omega, ?_⟩
            have hi8 : i ≤ 8 := by omega
            -- n' * 128^(i+1) is a multiple of 128^(i+1) below 2^64
            have hm : b.toNat % 128 < 128 := Nat.mod_lt _ (by decide)
            have hc : 18446744073709551616 = (2 * 128 ^ (8 - i)) * 128 ^ (i + 1) := by
              rw [Nat.mul_assoc, ← Nat.pow_add, show 8 - i + (i + 1) = 9 by omega]
            generalize 2 * 128 ^ (8 - i) = c at hc
            rw [hc] at g4 ⊢
            have hlt : n' < c := Nat.lt_of_mul_lt_mul_right g4
            have hQ : 0 < 128 ^ i := Nat.pow_pos (by decide)
            calc (b.toNat % 128 + 128 * n') * 128 ^ i < (128 * c) * 128 ^ i := Nat.mul_lt_mul_of_pos_right (by omega) hQ
              _ = c * 128 ^ (i + 1) := by rw [Nat.pow_succ, Nat.mul_comm (128 ^ i) 128, Nat.mul_comm 128 c, Nat.mul_assoc]

theorem rd_bound {l : List UInt8} {n k : Nat} (h : rd l = some (n, k)) : 0 < k ∧ k ≤ l.length ∧ k ≤ 10 ∧ n < 18446744073709551616 := by
  obtain ⟨a, b, c, d⟩ := rdAt_bound l 0 n k h
  exact ⟨a, b, by omega, by simpa using d⟩

theorem rdAt_vnum : ∀ (n : Nat) (i : Nat) (rest : List UInt8), i ≤ 9 → n * 128 ^ i < 18446744073709551616 → rdAt i (vnum n ++ rest) = some (n, (vnum n).length) := by
  intro n
  induction n using Nat.strongRecOn with
  | ind n ih =>
    intro i rest hi hn
    by_cases h : n < 128
    · rw [vnum_lt h]
      have hb := by8_toNat n (by omega)
      have h9 : ¬ (i = 9 ∧ 1 < n) := by
        rintro ⟨rfl, h1⟩
        have : 2 * 128 ^ 9 ≤ n * 128 ^ 9 := Nat.mul_le_mul_right _ h1
        omega
      simp only [List.cons_append, List.nil_append, rdAt, hb]
      rw [if_neg (by omega), if_neg h9, if_pos h]
      rfl
    · rw [vnum_ge h]
      have hb := by8_toNat (n % 128 + 128) (by omega)
      have hi9 : i ≤ 8 := by
        rcases Nat.lt_or_ge i 9 with h9 | h9
        · omega
        · have : i = 9 := by omega
          subst this
          have : 128 * 128 ^ 9 ≤ n * 128 ^ 9 := Nat.mul_le_mul_right _ (by omega)
          omega
      have hrec := ih (n / 128) (by omega) (i + 1) rest (by omega) (by
        rw [Nat.pow_succ]
        have h1 : n / 128 * 128 ≤ n := Nat.div_mul_le_self n 128
        calc n / 128 * (128 ^ i * 128) = n / 128 * 128 * 128 ^ i := by rw [Nat.mul_comm (128 ^ i) 128, Nat.mul_assoc]
          _ ≤ n * 128 ^ i := Nat.mul_le_mul_right _ h1
          _ < _ := hn)
      simp only [List.cons_append, rdAt, hb]
      rw [if_neg (by omega), if_neg (by omega), if_neg (by omega), hrec]
      simp only [Option.map_some, List.length_cons]
      congr 2
      omega

theorem rd_vnum (n : Nat) (rest : List UInt8) (h : n < 18446744073709551616) : rd (vnum n ++ rest) = some (n, (vnum n).length) :=
  rdAt_vnum n 0 rest (by omega) (by simpa using h)

/-- what more bytes behind do not turn -/
theorem rdAt_more : ∀ (l : List UInt8) (i n k : Nat) (x : List UInt8), rdAt i l = some (n, k) → rdAt i (l ++ x) = some (n, k) := by
  intro l
  induction l with
  | nil => intro i n k x h; cases h
  | cons b t ih =>
    intro i n k x h
    rw [rdAt] at h
    simp only [List.cons_append, rdAt]
    by_cases h1 : 10 ≤ i
    · rw [if_pos h1] at h; cases h
    · rw [if_neg h1] at h ⊢
      by_cases h2 : i = 9 ∧ 1 < b.toNat
      · rw [if_pos h2] at h; cases h
      · rw [if_neg h2] at h ⊢
        by_cases h3 : b.toNat < 128
        · rw [if_pos h3] at h ⊢; exact h
        · rw [if_neg h3] at h ⊢
          cases hr : rdAt (i + 1) t with
          | none => rw [hr] at h; cases h
          | some y => rw [ih (i + 1) y.1 y.2 x hr, ← hr]; exact h
theorem rd_more {l : List UInt8} {n k : Nat} (x : List UInt8) (h : rd l = some (n, k)) : rd (l ++ x) = some (n, k) := rdAt_more l 0 n k x h

/-- a number's bytes, the lowest first -/
def le : Nat → Nat → List UInt8
  | 0, _ => []
  | k + 1, n => by8 (n % 256) :: le k (n / 256)
/-- the number of bytes -/
def unle : List UInt8 → Nat
  | [] => 0
  | b :: t => b.toNat + 256 * unle t
theorem le_len : ∀ k n, (le k n).length = k
  | 0, _ => rfl
  | k + 1, n => by simp [le, le_len k]
theorem le_snoc : ∀ k n, le (k + 1) n = le k n ++ [by8 (n / 256 ^ k % 256)]
  | 0, n => by simp [le]
  | k + 1, n => by
    rw [le, le_snoc k (n / 256), le, Nat.div_div_eq_div_mul, Nat.pow_succ, Nat.mul_comm 256]
    rfl
theorem unle_le : ∀ k n, n < 256 ^ k → unle (le k n) = n
  | 0, n, h => by simp at h; subst h; rfl
  | k + 1, n, h => by
    have := unle_le k (n / 256) (by rw [Nat.pow_succ] at h; omega)
    simp only [le, unle, this, by8_toNat (n % 256) (by omega)]
    omega
theorem unle_lt : ∀ l : List UInt8, unle l < 256 ^ l.length
  | [] => by simp [unle]
  | b :: t => by
    have := unle_lt t
    have hb := b.toNat_lt
    simp only [unle, List.length_cons, Nat.pow_succ]
    omega

/-- a field -/
structure Fd where
  num : Int
  wire : Nat
  n : Nat
  s : List UInt8
deriving DecidableEq

def Fd.zero : Fd := ⟨0, 0, 0, []⟩

/-- may it be -/
def may (f : Fd) : Bool :=
  decide (1 ≤ f.num) && decide (f.num ≤ 536870911) &&
  (if f.wire = 0 ∨ f.wire = 1 then f.s.isEmpty else if f.wire = 5 then f.s.isEmpty && decide (f.n < 4294967296) else if f.wire = 2 then decide (f.n = 0) && decide (f.s.length ≤ 65536) else false)

def key (f : Fd) : Nat := 8 * f.num.toNat + f.wire
def body (f : Fd) : List UInt8 :=
  if f.wire = 0 then vnum f.n else if f.wire = 1 then le 8 f.n else if f.wire = 5 then le 4 f.n else if f.wire = 2 then vnum f.s.length ++ f.s else []
def enc1 (f : Fd) : List UInt8 := vnum (key f) ++ body f
def size1 (f : Fd) : Nat := if may f then (enc1 f).length else 0
def enc (l : List Fd) : List UInt8 := l.flatMap enc1
theorem enc_nil : enc [] = [] := rfl
theorem enc_cons (f : Fd) (l : List Fd) : enc (f :: l) = enc1 f ++ enc l := rfl
theorem enc_append (a b : List Fd) : enc (a ++ b) = enc a ++ enc b := by simp [enc]

/-- a message written: the error's number, the bytes -/
def wr (l : List Fd) : Nat × List UInt8 :=
  if 4096 < l.length then (3, []) else if l.all may = false then (2, []) else if 65536 < (enc l).length then (4, []) else (0, enc l)

/-- the first field of a text -/
def parse1 (l : List UInt8) : Except Nat (Fd × List UInt8) :=
  match rd l with
  | none => .error 9
  | some (k, a) =>
    if k / 8 < 1 ∨ 536870911 < k / 8 then .error 10
    else if k % 8 = 0 then match rd (l.drop a) with
      | none => .error 9
      | some (n, b) => .ok (⟨(k / 8 : Nat), 0, n, []⟩, (l.drop a).drop b)
    else if k % 8 = 1 then if (l.drop a).length < 8 then .error 10 else .ok (⟨(k / 8 : Nat), 1, unle ((l.drop a).take 8), []⟩, (l.drop a).drop 8)
    else if k % 8 = 5 then if (l.drop a).length < 4 then .error 10 else .ok (⟨(k / 8 : Nat), 5, unle ((l.drop a).take 4), []⟩, (l.drop a).drop 4)
    else if k % 8 = 2 then match rd (l.drop a) with
      | none => .error 9
      | some (m, b) => if ((l.drop a).drop b).length < m then .error 10 else .ok (⟨(k / 8 : Nat), 2, 0, ((l.drop a).drop b).take m⟩, ((l.drop a).drop b).drop m)
    else .error 10


theorem parse1_len {l : List UInt8} {f : Fd} {r : List UInt8} (h : parse1 l = .ok (f, r)) : r.length < l.length := by
  unfold parse1 at h
  cases hr : rd l with
  | none => rw [hr] at h; cases h
  | some x =>
    obtain ⟨k, a⟩ := x
    rw [hr] at h
    have hb := rd_bound hr
    simp only at h
    by_cases h0 : k / 8 < 1 ∨ 536870911 < k / 8
    · rw [if_pos h0] at h; cases h
    · rw [if_neg h0] at h
      by_cases h1 : k % 8 = 0
      · rw [if_pos h1] at h
        cases hr2 : rd (l.drop a) with
        | none => rw [hr2] at h; cases h
        | some y => rw [hr2] at h; injection h with h; injection h with _ h; rw [← h]; simp only [List.length_drop]; omega
      · rw [if_neg h1] at h
        by_cases h2 : k % 8 = 1
        · rw [if_pos h2] at h
          by_cases h3 : (l.drop a).length < 8
          · rw [if_pos h3] at h; cases h
          · rw [if_neg h3] at h; injection h with h; injection h with _ h; rw [← h]; simp only [List.length_drop] at *; omega
        · rw [if_neg h2] at h
          by_cases h3 : k % 8 = 5
          · rw [if_pos h3] at h
            by_cases h4 : (l.drop a).length < 4
            · rw [if_pos h4] at h; cases h
            · rw [if_neg h4] at h; injection h with h; injection h with _ h; rw [← h]; simp only [List.length_drop] at *; omega
          · rw [if_neg h3] at h
            by_cases h4 : k % 8 = 2
            · rw [if_pos h4] at h
              cases hr2 : rd (l.drop a) with
              | none => rw [hr2] at h; cases h
              | some y =>
                obtain ⟨m, b⟩ := y
                rw [hr2] at h
                simp only at h
                by_cases h5 : ((l.drop a).drop b).length < m
                · rw [if_pos h5] at h; cases h
                · rw [if_neg h5] at h; injection h with h; injection h with _ h; rw [← h]; simp only [List.length_drop] at *; omega
            · rw [if_neg h4] at h; cases h

/-- all fields of a text -/
def parse (l : List UInt8) : Except Nat (List Fd) :=
  if _h0 : l = [] then .ok [] else
  match _h : parse1 l with
  | .error e => .error e
  | .ok (f, r) => if _hl : r.length < l.length then (match parse r with | .error e => .error e | .ok fs => .ok (f :: fs)) else .error 0
termination_by l.length
decreasing_by exact _hl
theorem parse_nil : parse [] = .ok [] := by rw [parse, dif_pos rfl]
theorem parse_err {l : List UInt8} {e : Nat} (h0 : l ≠ []) (h : parse1 l = .error e) : parse l = .error e := by
  rw [parse, dif_neg h0]
  split
  · rename_i e' h'; rw [h] at h'; injection h' with h'; rw [h']
  · rename_i h'; rw [h] at h'; cases h'
theorem parse_ok {l : List UInt8} {f : Fd} {r : List UInt8} (h0 : l ≠ []) (h : parse1 l = .ok (f, r)) : parse l = (match parse r with | .error e => .error e | .ok fs => .ok (f :: fs)) := by
  rw [parse, dif_neg h0]
  split
  · rename_i e' h'; rw [h] at h'; cases h'
  · rename_i f' r' h'
    rw [h] at h'
    injection h' with h'
    injection h' with h1 h2
    subst h1 h2
    rw [dif_pos (parse1_len h)]
/-- fields ahead of what is still to be parsed -/
def ahead (acc : List Fd) : Except Nat (List Fd) → Except Nat (List Fd)
  | .error e => .error e
  | .ok fs => .ok (acc ++ fs)
theorem ahead_nil (x : Except Nat (List Fd)) : ahead [] x = x := by cases x <;> rfl
theorem ahead_ok {l : List UInt8} {f : Fd} {r : List UInt8} (acc : List Fd) (h0 : l ≠ []) (h : parse1 l = .ok (f, r)) : ahead acc (parse l) = ahead (acc ++ [f]) (parse r) := by
  rw [parse_ok h0 h]
  cases parse r <;> simp [ahead]
theorem ahead_err {l : List UInt8} {e : Nat} (acc : List Fd) (h0 : l ≠ []) (h : parse1 l = .error e) : ahead acc (parse l) = .error e := by rw [parse_err h0 h]; rfl
theorem ahead_end (acc : List Fd) : ahead acc (parse []) = .ok acc := by rw [parse_nil]; simp [ahead]
end Go.Proofs.YtnnnnlcpmocnfaaGreatDoor.M

/- SMALL LEMMAS ON WORLDS AND VALUES, over any program: rows of the call's own that grow; bytes as cells. -/
namespace Go.Proofs.YtnnnnlcpmocnfaaGreatDoor
open Go.RowKit

theorem grownBy_step {a b c : World} {r s : Option Nat} (h : a.grownBy b r) (k : b.grownBy c s) (hs : s = r ∨ s = none ∨ ∃ n, s = some n ∧ a.heap.size ≤ n) : a.grownBy c r :=
  ⟨k.os.trans h.os, k.tape.trans h.tape, k.output.trans h.output, Nat.le_trans h.size k.size, fun i hi hne =>
    (k.block i (Nat.lt_of_lt_of_le hi h.size) (fun e => by
      rcases hs with hs | hs | ⟨n, hs, hn⟩
      · exact hne (e.trans hs)
      · rw [hs] at e; cases e
      · rw [hs] at e; injection e with e; omega)).trans (h.block i hi hne)⟩

/-- from world w0 with the slice v0 of the call's own to world w with the slice v: only v0's row, and what is new, has turned -/
structure Grew (w0 : World) (v0 : Value) (w : World) (v : Value) : Prop where
  g : w0.grownBy w v0.ownBlock
  o : v.ownBlock = v0.ownBlock ∨ ∃ b, v.ownBlock = some b ∧ w0.heap.size ≤ b

theorem Grew.refl (w : World) (v : Value) : Grew w v w v := ⟨World.grownBy.refl w _, .inl rfl⟩
theorem Grew.trans {w0 w1 w2 : World} {v0 v1 v2 : Value} (h : Grew w0 v0 w1 v1) (k : Grew w1 v1 w2 v2) : Grew w0 v0 w2 v2 := by
  refine ⟨grownBy_step h.g k.g ?_, ?_⟩
  · rcases h.o with e | ⟨b, e, hb⟩
    · exact .inl e
    · exact .inr (.inr ⟨b, e, hb⟩)
  · rcases k.o with e | ⟨b, e, hb⟩
    · rw [e]; exact h.o
    · exact .inr ⟨b, e, Nat.le_trans h.g.size hb⟩
theorem Grew.step {w0 w w' : World} {v0 v v' : Value} (h : Grew w0 v0 w v) (k : w.grownBy w' v.ownBlock) (o : v'.ownBlock = v.ownBlock ∨ v'.ownBlock = some w.heap.size) : Grew w0 v0 w' v' :=
  h.trans ⟨k, by rcases o with o | o; exact .inl o; exact .inr ⟨_, o, Nat.le_refl _⟩⟩
theorem Grew.alloc {w0 w : World} {v0 v : Value} (h : Grew w0 v0 w v) (o : Obj) : Grew w0 v0 (w.alloc o) v := h.trans ⟨World.grownBy_alloc w o _, .inl rfl⟩
theorem Grew.drew {w0 w : World} {v0 v : Value} (h : Grew w0 v0 w v) : Grew w0 v0 w.drew v := ⟨⟨h.g.os, h.g.tape, h.g.output, h.g.size, h.g.block⟩, h.o⟩
theorem Grew.below {B : Nat} {w0 w : World} {v0 v : Value} (h : Grew w0 v0 w v) (hB : B ≤ w0.heap.size) (hr : ∀ k, v0.ownBlock = some k → B ≤ k) : Below B w0 w :=
  (Below.refl _ _).grown h.g hB hr

/-- a byte as a value -/
abbrev B (b : UInt8) : Value := .int .u8 (b.toNat : Int)
theorem B_one (l : List UInt8) : ∀ u ∈ l.map B, u.oneCell' = true := by
  intro u hu
  obtain ⟨b, _, rfl⟩ := List.mem_map.1 hu
  rfl
theorem one_cells {w : World} {t : TypeId} {x : Value} : ∀ (j : Nat) (u : Value), [x][j]? = some u → (w.alloc (.cells #[x] t)).cell? ((⟨w.heap.size, 0, none⟩ : Addr).add j) = some u := by
  intro j u hj
  match j, hj with
  | 0, hj => simp at hj; subst hj; simp [Addr.add]
theorem by8_int (n : Nat) (h : n < 256) : B (M.by8 n) = .int .u8 (n : Int) := by rw [B, M.by8_toNat n h]
theorem B_of {k : Int} {n : Nat} (h : n < 256) (e : (n : Int) = k) : Value.int .u8 k = B (M.by8 n) := by rw [by8_int n h, e]

/-- the slice v of the call's own (blocks from 'base' on) has the bytes xs; E: the element type's number -/
def Bytes (E : TypeId) (w : World) (base : Nat) (v : Value) (xs : List UInt8) : Prop := w.ownsRow base E 1 v xs.length (xs.map B)
section
variable {E : TypeId} {w w' : World} {base : Nat} {v : Value} {xs : List UInt8}
theorem Bytes.nil (w : World) (base : Nat) : Bytes E w base (.slice none 0 0) [] := World.ownsRow_nil _ _ _ _
theorem Bytes.alloc (h : Bytes E w base v xs) (o : Obj) : Bytes E (w.alloc o) base v xs := World.ownsRow.alloc h o
theorem Bytes.kept {row : Option Nat} (h : Bytes E w base v xs) (hg : w.grownBy w' row) (hne : v.ownBlock = none ∨ v.ownBlock ≠ row) : Bytes E w' base v xs := World.ownsRow.kept h hg hne
theorem Bytes.drew (h : Bytes E w base v xs) : Bytes E w.drew base v xs := h
theorem Bytes.form (h : Bytes E w base v xs) : ∃ ad cap, v = .slice ad xs.length cap := by
  rcases h.2 with ⟨hv, hn⟩ | ⟨g, cap, cur, hv, _⟩
  · exact ⟨none, 0, by rw [hv, hn]⟩
  · exact ⟨_, cap, hv⟩
end

/-- append of one byte -/
theorem wp_app_byte {P : Program} {E T : TypeId} {w : World} {ops : Array Oper} {rest : List Oper} {o : Oper} {a : Act} {Q : Exit → Act → World → Prop}
    (hE : (P.info? E).map (fun i => (i.zero, i.size, i.bytes)) = some (some (.int .u8 0), 1, 1)) (hT : P.underlying T = some (.slice E)) (hgd : o.guard = none) (s x : Operand)
    (ho : o.op = .call { callee := .builtin .append, args := #[s, x], argTypes := #[T, T] }) (base : Nat) (v : Value) (xs : List UInt8) (hs : a.eval s = v) (hown : Bytes E w base v xs)
    (c : UInt8) (z : Value) (hz : z = B c) (hx : a.eval x = .slice (some ⟨w.heap.size, 0, none⟩) 1 1) (hlen : xs.length ≤ 140737488355000) (hbase : base ≤ w.heap.size)
    (h : ∀ v' w', Bytes E w' base v' (xs ++ [c]) → Grew w v w' v' → wpList P ops Q rest (a.put o.dst v') w') : wpList P ops Q (o :: rest) a (w.alloc (.cells #[z] E)) := by
  obtain ⟨i0, hi, hz0, hz1, hz2⟩ := info_parts hE
  subst hz
  refine wpList_append_own_at _ hgd s x T ho base E i0 (.int .u8 0) 1 1 hT hi hz0 hz1 hz2 rfl (by decide) v xs.length (xs.map B) hs (World.ownsRow.alloc hown _) ⟨w.heap.size, 0, none⟩ 1 1 [B c] hx rfl one_cells
    (by intro u hu; simp at hu; subst hu; rfl) (by unfold maxLen; omega) (by omega) (by simp; omega) ?_
  intro v' w' h1 h2 _ h4
  refine h v' w' ?_ (((Grew.refl w v).alloc _).step h2 h4)
  unfold Bytes
  rw [List.length_append, List.map_append]
  exact h1

/-- where the slice lies behind append of a string -/
theorem run_app_str {P : Program} {E T U : TypeId} (w : World) (ty : TypeId) (hE : (P.info? E).map (fun i => (i.zero, i.size, i.bytes)) = some (some (.int .u8 0), 1, 1))
    (hT : P.underlying T = some (.slice E)) (hU : P.underlying U = some .string) (base : Nat) (v : Value) (xs : List UInt8) (hown : Bytes E w base v xs) (l : List UInt8)
    (hlen : xs.length + l.length ≤ 140737488355000) (hbase : base ≤ w.heap.size) :
    ∃ v' w', (Builtin.append_ #[T, U] ty #[v, .string ⟨l.toArray⟩]).run P w = .ok v' w' ∧ Bytes E w' base v' (xs ++ l) ∧ Grew w v w' v' := by
  obtain ⟨i0, hi, hz0, hz1, hz2⟩ := info_parts hE
  have hs : (ByteArray.mk l.toArray).size = l.length := by simp [ByteArray.size]
  have hc : Lib.strCells ⟨l.toArray⟩ = l.map B := by simp [Lib.strCells]
  obtain ⟨v', w', hr, h1, h2, _⟩ := Lib.run_append_own_string (P := P) w base T U ty E i0 hT hU hi hz0 hz1 hz2 v xs.length (xs.map B) hown ⟨l.toArray⟩ (by rw [hs]; unfold maxLen; omega) (by rw [hs]; omega) hbase
  refine ⟨v', w', hr, by unfold Bytes; rw [List.length_append, List.map_append]; rw [hs, hc] at h1; exact h1, (Grew.refl w v).step h2 ?_⟩
  rcases hown.2 with ⟨rfl, hn⟩ | ⟨g, cap, cur, rfl, hbg, hg, hnc, hcm, hcs, htake⟩
  · by_cases hl : l.length = 0
    · have hn' : l = [] := List.eq_nil_of_length_eq_zero hl
      subst hn'
      left
      have hf := Lib.run_firstCells_string (P := P) w 1 ⟨([] : List UInt8).toArray⟩
      have e : (Builtin.append_ #[T, U] ty #[.slice none 0 0, .string ⟨([] : List UInt8).toArray⟩]).run P w = .ok (.slice none 0 0) w := by
        rw [hs] at hf
        simp [Builtin.append_, run_underlying hT, run_underlying hU, sizeOf, typeInfo, hi, hz1, Builtin.lenOf, hs] at hf ⊢
        simp [hf]
      rw [e] at hr
      injection hr with ha hb
      rw [← ha]
    · right
      have e := run_append_nil_string (P := P) w T U ty E i0 (.int .u8 0) hT hU hi hz0 ⟨l.toArray⟩ (by rw [hs]; omega) (by rw [hs]; omega) (by rw [hz2, hs]; omega)
      rw [e] at hr
      injection hr with ha hb
      rw [← ha]; rfl
  · by_cases hroom : xs.length + l.length ≤ cap
    · left
      have e := Lib.run_append_room_string (P := P) w T U ty E i0 hT hU hi hz1 g xs.length cap cur hg ⟨l.toArray⟩ (by rw [hs]; exact hroom) (by rw [hs, hcs]; omega)
      rw [e] at hr
      injection hr with ha hb
      rw [← ha]; rfl
    · right
      have holds : ∀ j u, (xs.map B)[j]? = some u → w.cell? ((⟨g, 0, none⟩ : Addr).add j) = some u := World.ownsRow.cells hown (g := g) rfl
      have e := Lib.run_append_grow_string (P := P) w T U ty E i0 (.int .u8 0) hT hU hi hz0 ⟨g, 0, none⟩ xs.length cap (xs.map B) (by rw [hz1]; simp) holds ⟨l.toArray⟩ (by rw [hs]; omega) (by rw [hs]; omega)
        (by rw [hz2, hs]; exact growslice_fits (by omega) (by omega))
      rw [e] at hr
      injection hr with ha hb
      rw [← ha]; rfl

theorem wp_app_str {P : Program} {E T U : TypeId} {w : World} {ops : Array Oper} {rest : List Oper} {o : Oper} {a : Act} {Q : Exit → Act → World → Prop}
    (hE : (P.info? E).map (fun i => (i.zero, i.size, i.bytes)) = some (some (.int .u8 0), 1, 1)) (hT : P.underlying T = some (.slice E)) (hU : P.underlying U = some .string) (hgd : o.guard = none) (s x : Operand)
    (ho : o.op = .call { callee := .builtin .append, args := #[s, x], argTypes := #[T, U] }) (base : Nat) (v : Value) (xs : List UInt8) (hs : a.eval s = v) (hown : Bytes E w base v xs)
    (l : List UInt8) (hx : a.eval x = .string ⟨l.toArray⟩) (hlen : xs.length + l.length ≤ 140737488355000) (hbase : base ≤ w.heap.size)
    (h : ∀ v' w', Bytes E w' base v' (xs ++ l) → Grew w v w' v' → wpList P ops Q rest (a.put o.dst v') w') : wpList P ops Q (o :: rest) a w := by
  refine wpList_plain hgd fun K hK => ?_
  obtain ⟨v', w', hr, h2, h3⟩ := run_app_str (P := P) w o.type hE hT hU base v xs hown l hlen hbase
  unfold Oper.wp execOp
  simp only [ho, resolve, invoke, builtin, Sem.run_bind, Sem.run_pure, Result.andThen_ok, List.map_toArray, List.map_cons, List.map_nil, hs, hx, hr]
  exact hK _ _ (h v' w' h2 h3)

/-- the string of a slice of bytes -/
theorem Bytes.conv {P : Program} {E T U : TypeId} {w : World} {base : Nat} {v : Value} {xs : List UInt8} (h : Bytes E w base v xs) (hT : P.underlying T = some (.slice E)) (hE : P.underlying E = some (.int .u8)) (hU : P.underlying U = some .string) :
    (convert T U v).run P w = .ok (.string ⟨xs.toArray⟩) w := by
  rcases h.2 with ⟨rfl, hn⟩ | ⟨g, cap, cur, rfl, hbg, hg, hnc, hcm, hcs, htake⟩
  · have hx : xs = [] := List.eq_nil_of_length_eq_zero hn
    subst hx
    rw [run_convert_bytes_string w T U E none 0 0 hT hE hU]
    rfl
  · refine run_convert_bytes_back w T U E ⟨g, 0, none⟩ cap xs hT hE hU fun j hj => ?_
    exact World.ownsRow.cells h (g := g) rfl j _ (by simp [hj])

theorem Grew.blk {W W1 : World} {v0 v1 : Value} (h : Grew W v0 W1 v1) {g : Nat} {o : Obj} (hg : W.heap[g]? = some o) (hne : ∀ k, v0.ownBlock = some k → k ≠ g) : W1.heap[g]? = some o :=
  (h.g.block g (Array.getElem?_eq_some_iff.1 hg).1 (fun e => hne g e.symm rfl)).trans hg
theorem Bytes.lt {E : TypeId} {w : World} {base : Nat} {v : Value} {xs : List UInt8} (h : Bytes E w base v xs) : ∀ k, v.ownBlock = some k → base ≤ k ∧ k < w.heap.size := World.ownsRow.lt h
theorem blk_new (w : World) (o : Obj) : (w.alloc o).heap[w.heap.size]? = some o := heap_alloc_new w o
theorem blk_alloc {w : World} {g : Nat} {o : Obj} (h : w.heap[g]? = some o) (o' : Obj) : (w.alloc o').heap[g]? = some o := (Below.heap_alloc w o' g (Array.getElem?_eq_some_iff.1 h).1).trans h
theorem box4 {w : World} {g : Nat} {x0 x1 x2 x3 : Value} {t : TypeId} (h : w.heap[g]? = some (.cells #[x0, x1, x2, x3] t (0, 0))) :
    w.cell? ⟨g, 0, none⟩ = some x0 ∧ w.cell? ⟨g, 1, none⟩ = some x1 ∧ w.cell? ⟨g, 2, none⟩ = some x2 ∧ w.cell? ⟨g, 3, none⟩ = some x3 :=
  ⟨cell_of_row w g 0 _ t (0, 0) h, cell_of_row w g 1 _ t (0, 0) h, cell_of_row w g 2 _ t (0, 0) h, cell_of_row w g 3 _ t (0, 0) h⟩
end Go.Proofs.YtnnnnlcpmocnfaaGreatDoor

/- THE WALKS OVER LAYER 1's NUMBERS: Zig, Zag, appendNum, Num, ReadNum. -/
namespace Go.Proofs.YtnnnnlcpmocnfaaGreatDoor
open Go.RowKit

def zigI (n : Int) : Int := if n < 0 then 2 * -(n + 1) + 1 else 2 * n
def zagI (n : Int) : Int := if n % 2 = 1 then -(n / 2) - 1 else n / 2
theorem ret_int {k : IntKind} {a b : Int} (h : a = b) : Ending.returned (.int k a) = .returned (.int k b) := by rw [h]

theorem Tryz.info5 : (Tryz.prog.info? 5).map (fun i => (i.zero, i.size, i.bytes)) = some (some (.int .u8 0), 1, 1) := by kernel_rfl


theorem appendNum_any (base : Nat) (v0 : Value) (xs : List UInt8) (m : Int) (w : World) (hown : Bytes 5 w base v0 xs) (hm0 : 0 ≤ m) (hm : m ≤ 18446744073709551615)
    (hlen : xs.length ≤ 140737488351000) (hb : base ≤ w.heap.size) :
    Calls Tryz.prog 100 #[v0, .int .u64 m] w fun e w' => ∃ v', e = .returned v' ∧ Bytes 5 w' base v' (xs ++ M.vnum m.toNat) ∧ Grew w v0 w' v' := by
  have hvl := M.vnum_len10 m.toNat (by omega)
  go_enter Tryz.func100, Tryz.ntmps100
  go_wp2
  go_loopw [0, 1] (fun v n wr => ∃ (k : Int) (ys : List UInt8), n = .int .u64 k ∧ 0 ≤ k ∧ k ≤ m ∧ M.vnum m.toNat = ys ++ M.vnum k.toNat ∧ Bytes 5 wr base v (xs ++ ys) ∧ Grew w v0 wr v) (fun _ n _ => (intOf n).toNat)
  case atStart => exact ⟨m, [], rfl, hm0, by omega, rfl, by simpa using hown, Grew.refl _ _⟩
  case round =>
    obtain ⟨k, ys, rfl, hk0, hk, hys, hown1, hg⟩ := hrel
    have hle : (xs ++ ys).length ≤ 140737488355000 := by
      have := congrArg List.length hys
      simp only [List.length_append] at this ⊢
      omega
    have hsz : base ≤ wr.heap.size := Nat.le_trans hb hg.g.size
    have Hys := Lib.hid hys; clear hys
    have Hle := Lib.hid hle; clear hle
    have Hsz := Lib.hid hsz; clear hsz
    have hkm : k ≤ 18446744073709551615 := by omega
    have hmk : k ≤ m := hk
    clear hm hk hlen hvl hb
    by_cases hlt : k < 128
    · go_wp2_with (at_builtin; refine wp_app_byte Tryz.info5 Tryz.underlying110 rfl _ _ rfl base _ _ rfl hown1 (M.by8 k.toNat) _ (B_of (by omega) (by omega)) rfl Hle.out Hsz.out ?_)
      · intro v' w1 hown' hg'
        go_wp2
        go_ret
        have e := Hys.out
        rw [M.vnum_lt (n := k.toNat) (by omega)] at e
        exact ⟨v', rfl, by rw [e]; simpa using hown', hg.trans hg'⟩
    · go_wp2_with (at_builtin; refine wp_app_byte Tryz.info5 Tryz.underlying110 rfl _ _ rfl base _ _ rfl hown1 (M.by8 (k.toNat % 128 + 128)) _ (B_of (by omega) (by omega)) rfl Hle.out Hsz.out ?_)
      · intro v' w1 hown' hg'
        go_wp2
        go_roundw
        case rel =>
          have e := Hys.out
          rw [M.vnum_ge (n := k.toNat) (by omega)] at e
          refine ⟨k / 128, ys ++ [M.by8 (k.toNat % 128 + 128)], by go_num, by omega, by omega, ?_, ?_, hg.trans hg'⟩
          · rw [e, List.append_assoc, show (k / 128).toNat = k.toNat / 128 by omega]; rfl
          · simpa using hown'
        case measure => simp [intOf]; omega

end Go.Proofs.YtnnnnlcpmocnfaaGreatDoor

/-
  DERIVED: THE SHELF's CONTRACTS AT THIS DUMP, IN PLAIN WORDS (tools/lay-plain.mjs out of 'TrydShelf.lean', which tools/lay-shelf.mjs wrote): THE SAME DECLARATIONS UNDER THE SAME NAMES: 'import', 'namespace', 'open', 'def', 'theorem' AND NOTHING ELSE: no command of the shelf's: FOR A HAND-IN. Each laying: the table of numbers ('.._ren') and one theorem, a field a fact of the dump's own or the kernel's comparison; each contract: ONE APPLICATION.
-/
namespace Go.Proofs
open Go.Shelf
def Tryz.lays129_ren : Go.Shelf.Ren := ⟨fun | 129 => 104 | n => n, fun | 53 => 60 | 3 => 3 | 4 => 4 | 46 => 106 | 5 => 5 | 9 => 9 | n => n, fun | n => n⟩
theorem Tryz.lays129 : Go.Proofs.Lays.n129 Tryz.prog Tryz.lays129_ren := {
  mixed := by kernel_rfl
  f129 := Tryz.func104.trans (congrArg some (by kernel_rfl))
  t3 := Tryz.underlying3
  a3 := Tryz.isAgg3
  z3 := Tryz.sizeOf3
  v3 := Tryz.zeroValue3
  t4 := Tryz.underlying4
  a4 := Tryz.isAgg4
  z4 := Tryz.sizeOf4
  v4 := Tryz.zeroValue4
  t5 := Tryz.underlying5
  a5 := Tryz.isAgg5
  z5 := Tryz.sizeOf5
  v5 := Tryz.zeroValue5
  t9 := Tryz.underlying9
  a9 := Tryz.isAgg9
  z9 := Tryz.sizeOf9
  v9 := Tryz.zeroValue9
  t46 := Tryz.underlying106
  a46 := Tryz.isAgg106
  z46 := Tryz.sizeOf106
  v46 := Tryz.zeroValue106
  t53 := Tryz.underlying60
  a53 := Tryz.isAgg60
  z53 := Tryz.sizeOf60
  v53 := Tryz.zeroValue60 }
/-- bits.Len64: "Len64 returns the minimum number of bits required to represent x; the result is 0 for x == 0.": IT RETURNS 'Lib.bitLen x'; the world is as it was. ('h0', 'h1': x is a uint64.) (LAID: no walk: one application.) -/
theorem Tryz.bits_Len64 (x : Int) (w : World) (h0 : 0 ≤ x) (h1 : x ≤ 18446744073709551615) :
    Calls Tryz.prog 104 #[.int .u64 x] w fun e w' => e = .returned (.int .i64 (Lib.bitLen x.toNat)) ∧ w' = w := Any.bits_Len64 Tryz.lays129 x w h0 h1
end Go.Proofs

/- THE WALKS OVER mayBe, key, numSize, Size. -/
namespace Go.Proofs.YtnnnnlcpmocnfaaGreatDoor
open Go.RowKit

/-- a field's cells -/
abbrev fcells (a b c : Int) (l : List UInt8) : Array Value := #[.int .i64 a, .int .u8 b, .int .u64 c, .string ⟨l.toArray⟩]

theorem ret_bool {a b : Bool} (h : a = b) : Ending.returned (.bool a) = .returned (.bool b) := by rw [h]

theorem may_of {a b c : Int} {l : List UInt8} (h1 : 1 ≤ a) (h2 : a ≤ 536870911) : M.may ⟨a, b.toNat, c.toNat, l⟩ = (if b.toNat = 0 ∨ b.toNat = 1 then l.isEmpty else if b.toNat = 5 then l.isEmpty && decide (c.toNat < 4294967296) else if b.toNat = 2 then decide (c.toNat = 0) && decide (l.length ≤ 65536) else false) := by
  simp [M.may, h1, h2]

set_option maxHeartbeats 1000000 in
theorem mayBe_any (a b c : Int) (l : List UInt8) (w : World) (hb0 : 0 ≤ b) (hb1 : b ≤ 255) (hc0 : 0 ≤ c) (hl : l.length ≤ 9223372036854775807) :
    Calls Tryz.prog 90 #[.agg (fcells a b c l)] w fun e w' => e = .returned (.bool (M.may ⟨a, b.toNat, c.toNat, l⟩)) ∧ w.alloc (.cells (fcells a b c l) 73) = w' := by
  obtain ⟨r, hr⟩ : ∃ r, M.may ⟨a, b.toNat, c.toNat, l⟩ = r := ⟨_, rfl⟩
  rw [hr]
  have Hr := Lib.hid hr; clear hr
  by_cases h1 : a < 1
  · go_enter Tryz.func90, Tryz.ntmps90
    go_wp2
    go_ret
    exact ⟨ret_bool (by rw [← Hr.out]; simp [M.may]; omega), rfl⟩
  · by_cases h2 : 536870911 < a
    · go_enter Tryz.func90, Tryz.ntmps90
      go_wp2
      go_ret
      exact ⟨ret_bool (by rw [← Hr.out]; simp [M.may]; omega), rfl⟩
    · have g1 : 1 ≤ a := by omega
      have g2 : a ≤ 536870911 := by omega
      clear h1 h2
      by_cases b0 : b = 0
      · subst b0
        go_enter Tryz.func90, Tryz.ntmps90
        go_wp2
        go_ret
        exact ⟨ret_bool (by rw [← Hr.out, may_of g1 g2]; simp), rfl⟩
      · by_cases b1 : b = 1
        · subst b1
          go_enter Tryz.func90, Tryz.ntmps90
          go_wp2
          go_ret
          exact ⟨ret_bool (by rw [← Hr.out, may_of g1 g2]; simp), rfl⟩
        · by_cases b5 : b = 5
          · subst b5
            cases l with
            | nil =>
              go_enter Tryz.func90, Tryz.ntmps90
              go_wp2
              go_ret
              exact ⟨ret_bool (by rw [← Hr.out, may_of g1 g2]; simp), rfl⟩
            | cons x t =>
              go_enter Tryz.func90, Tryz.ntmps90
              go_wp2
              go_ret
              exact ⟨ret_bool (by rw [← Hr.out, may_of g1 g2]; simp), rfl⟩
          · by_cases b2 : b = 2
            · subst b2
              by_cases c0 : c = 0
              · subst c0
                go_enter Tryz.func90, Tryz.ntmps90
                go_wp2
                go_ret
                exact ⟨ret_bool (by rw [← Hr.out, may_of g1 g2]; simp; omega), rfl⟩
              · have hc : (c == 0) = false := by simp [c0]
                go_enter Tryz.func90, Tryz.ntmps90
                go_wp2
                go_ret
                exact ⟨ret_bool (by rw [← Hr.out, may_of g1 g2]; simp; omega), rfl⟩
            · have e0 : (b == 0) = false := by simp [b0]
              have e1 : (b == 1) = false := by simp [b1]
              have e5 : (b == 5) = false := by simp [b5]
              have e2 : (b == 2) = false := by simp [b2]
              go_enter Tryz.func90, Tryz.ntmps90
              go_wp2
              go_ret
              exact ⟨ret_bool (by rw [← Hr.out, may_of g1 g2, if_neg (by omega), if_neg (by omega), if_neg (by omega)]), rfl⟩

theorem bitLen_le (x : Nat) : Lib.bitLen x ≤ 64 := by
  have aux : ∀ f x, Lib.bitLenAux f x ≤ f := by
    intro f
    induction f with
    | zero => intro x; simp [Lib.bitLenAux]
    | succ f ih => intro x; rw [Lib.bitLenAux]; split; omega; have := ih (x / 2); omega
  exact aux 64 x
theorem bitLen_pos (x : Nat) (h : x ≠ 0) (hx : x < 2 ^ 64) : 1 ≤ Lib.bitLen x := by rw [Lib.bitLen_half x h hx]; omega
theorem bitLen_lt (x : Nat) (h : x < 128) : Lib.bitLen x ≤ 7 := by
  have : ∀ n : Fin 128, Lib.bitLen n.val ≤ 7 := by decide +kernel
  exact this ⟨x, h⟩
theorem vnum_bits : ∀ (x : Nat), x < 2 ^ 64 → (M.vnum x).length = max 1 ((Lib.bitLen x + 6) / 7) := by
  intro x
  induction x using Nat.strongRecOn with
  | ind x ih =>
    intro hx
    by_cases h : x < 128
    · rw [M.vnum_lt h]
      have := bitLen_lt x h
      simp only [List.length_cons, List.length_nil]
      omega
    · rw [M.vnum_ge h, List.length_cons, ih (x / 128) (by omega) (by omega), Lib.bitLen_shift 7 x (by omega) hx]
      have := bitLen_pos (x / 128) (by omega) (by omega)
      simp only [Nat.reducePow]
      omega
theorem len64_any (x : Int) (w : World) (h0 : 0 ≤ x) (h1 : x ≤ 18446744073709551615) :
    Calls Tryz.prog 104 #[.int .u64 x] w fun e w' => e = .returned (.int .i64 (Lib.bitLen x.toNat)) ∧ w = w' := (Tryz.bits_Len64 x w h0 h1).mono fun _ _ ⟨a, b⟩ => ⟨a, b.symm⟩

theorem numSize_any (m : Int) (w : World) (h0 : 0 ≤ m) (h1 : m ≤ 18446744073709551615) :
    Calls Tryz.prog 98 #[.int .u64 m] w fun e w' => e = .returned (.int .i64 ((M.vnum m.toNat).length : Int)) ∧ w = w' := by
  obtain ⟨b, hb⟩ : ∃ b : Int, b = (Lib.bitLen m.toNat : Int) := ⟨_, rfl⟩
  have b0 : 0 ≤ b := by omega
  have b1 : b ≤ 64 := by have := bitLen_le m.toNat; omega
  have hv := vnum_bits m.toNat (by omega)
  have hc : ∀ w, Calls Tryz.prog 104 #[.int .u64 m] w fun e w' => e = .returned (.int .i64 b) ∧ w = w' := fun w => by rw [hb]; exact len64_any m w h0 h1
  obtain ⟨r, hr⟩ : ∃ r : Int, r = ((M.vnum m.toNat).length : Int) := ⟨_, rfl⟩
  have hrb : r = max 1 ((b + 6) / 7) := by rw [hr, hv, hb]; omega
  rw [← hr]
  have Hrb := Lib.hid hrb
  have Hc := Lib.hid hc
  clear hb hv hc hrb hr
  go_enter Tryz.func98, Tryz.ntmps98
  go_wp2_with fail
  refine (Hc.out _).mono ?_
  rintro e w' ⟨rfl, rfl⟩
  go_wp2
  all_goals
    go_ret
    exact ⟨ret_int (by rw [Hrb.out]; omega), rfl⟩
end Go.Proofs.YtnnnnlcpmocnfaaGreatDoor

/- THE WALKS OVER key, Size. -/
namespace Go.Proofs.YtnnnnlcpmocnfaaGreatDoor
open Go.RowKit

theorem key_any (a b c : Int) (l : List UInt8) (w : World) (h1 : 1 ≤ a) (h2 : a ≤ 536870911) (hb0 : 0 ≤ b) (hb1 : b ≤ 255) :
    Calls Tryz.prog 99 #[.agg (fcells a b c l)] w fun e w' => e = .returned (.int .u64 (8 * a + b)) ∧ w.alloc (.cells (fcells a b c l) 73) = w' := by
  go_enter Tryz.func99, Tryz.ntmps99
  go_wp2
  go_ret
  exact ⟨rfl, rfl⟩

theorem may_cases {a b c : Int} {l : List UInt8} (hb0 : 0 ≤ b) (hc0 : 0 ≤ c) (h : M.may ⟨a, b.toNat, c.toNat, l⟩ = true) :
    1 ≤ a ∧ a ≤ 536870911 ∧ ((b = 0 ∧ l = []) ∨ (b = 1 ∧ l = []) ∨ (b = 5 ∧ l = [] ∧ c < 4294967296) ∨ (b = 2 ∧ c = 0 ∧ l.length ≤ 65536)) := by
  simp only [M.may, Bool.and_eq_true, decide_eq_true_eq] at h
  obtain ⟨⟨h1, h2⟩, h3⟩ := h
  refine ⟨h1, h2, ?_⟩
  by_cases e01 : b.toNat = 0 ∨ b.toNat = 1
  · rw [if_pos e01] at h3
    have : l = [] := by simpa using h3
    rcases e01 with e | e
    · exact .inl ⟨by omega, this⟩
    · exact .inr (.inl ⟨by omega, this⟩)
  · rw [if_neg e01] at h3
    by_cases e5 : b.toNat = 5
    · rw [if_pos e5] at h3
      simp only [Bool.and_eq_true, decide_eq_true_eq, List.isEmpty_iff] at h3
      exact .inr (.inr (.inl ⟨by omega, h3.1, by omega⟩))
    · rw [if_neg e5] at h3
      by_cases e2 : b.toNat = 2
      · rw [if_pos e2] at h3
        simp only [Bool.and_eq_true, decide_eq_true_eq] at h3
        exact .inr (.inr (.inr ⟨by omega, by omega, h3.2⟩))
      · rw [if_neg e2] at h3; cases h3

theorem numSize_quiet (m : Int) (w : World) (h0 : 0 ≤ m) (h1 : m ≤ 18446744073709551615) :
    Calls Tryz.prog 98 #[.int .u64 m] w fun e w' => e = .returned (.int .i64 ((M.vnum m.toNat).length : Int)) ∧ w' = w := (numSize_any m w h0 h1).mono fun _ _ ⟨a, b⟩ => ⟨a, b.symm⟩

set_option maxHeartbeats 1000000 in
theorem size_no (a b c : Int) (l : List UInt8) (w : World) (hb0 : 0 ≤ b) (hb1 : b ≤ 255) (hc0 : 0 ≤ c) (hl : l.length ≤ 9223372036854775807) (hm : M.may ⟨a, b.toNat, c.toNat, l⟩ = false) :
    Calls Tryz.prog 91 #[.agg (fcells a b c l)] w fun e w' => e = .returned (.int .i64 0) ∧ Below w.heap.size w w' := by
  have hc : ∀ w, Calls Tryz.prog 90 #[.agg (fcells a b c l)] w fun e w' => e = .returned (.bool false) ∧ w.alloc (.cells (fcells a b c l) 73) = w' := fun w => by rw [← hm]; exact mayBe_any a b c l w hb0 hb1 hc0 hl
  have Hc := Lib.hid hc
  clear hc hm
  go_enter Tryz.func91, Tryz.ntmps91
  go_wp2_with fail
  refine (Hc.out _).mono ?_
  rintro e w' ⟨rfl, rfl⟩
  go_wp2
  go_ret
  exact ⟨rfl, ((Below.refl _ _).alloc (Nat.le_refl _) _).alloc (by simp) _⟩

set_option maxHeartbeats 2000000 in
theorem size_yes (a b c : Int) (l : List UInt8) (w : World) (hb0 : 0 ≤ b) (hb1 : b ≤ 255) (hc0 : 0 ≤ c) (hc1 : c ≤ 18446744073709551615) (hl : l.length ≤ 9223372036854775807) (hm : M.may ⟨a, b.toNat, c.toNat, l⟩ = true) :
    Calls Tryz.prog 91 #[.agg (fcells a b c l)] w fun e w' => e = .returned (.int .i64 ((M.enc1 ⟨a, b.toNat, c.toNat, l⟩).length : Int)) ∧ Below w.heap.size w w' := by
  have hc : ∀ w, Calls Tryz.prog 90 #[.agg (fcells a b c l)] w fun e w' => e = .returned (.bool true) ∧ w.alloc (.cells (fcells a b c l) 73) = w' := fun w => by rw [← hm]; exact mayBe_any a b c l w hb0 hb1 hc0 hl
  have Hc := Lib.hid hc
  clear hc
  obtain ⟨h1, h2, hcase⟩ := may_cases hb0 hc0 hm
  clear hm
  obtain ⟨r, hr⟩ : ∃ r : Int, r = ((M.enc1 ⟨a, b.toNat, c.toNat, l⟩).length : Int) := ⟨_, rfl⟩
  rw [← hr]
  have hr2 : r = (M.vnum (8 * a + b).toNat).length + (M.body ⟨a, b.toNat, c.toNat, l⟩).length := by
    rw [hr, M.enc1, List.length_append, M.key]
    simp only [Int.natCast_add]
    congr 4
    omega
  have Hr := Lib.hid hr2
  clear hr hr2
  obtain ⟨k, hk⟩ : ∃ k : Nat, k = (M.vnum (8 * a + b).toNat).length := ⟨_, rfl⟩
  have hkn : ∀ w, Calls Tryz.prog 98 #[.int .u64 (8 * a + b)] w fun e w' => e = .returned (.int .i64 (k : Int)) ∧ w = w' := fun w => by rw [hk]; exact numSize_any _ w (by omega) (by omega)
  have hk10 : k ≤ 10 := by rw [hk]; exact M.vnum_len10 _ (by omega)
  have Hkn := Lib.hid hkn
  have Hk := Lib.hid hk
  clear hkn hk
  rcases hcase with ⟨rfl, rfl⟩ | ⟨rfl, rfl⟩ | ⟨rfl, rfl, hcl⟩ | ⟨rfl, rfl, hll⟩
  · have g10 : (M.vnum c.toNat).length ≤ 10 := M.vnum_len10 _ (by omega)
    obtain ⟨g, hg⟩ : ∃ g : Nat, g = (M.vnum c.toNat).length := ⟨_, rfl⟩
    rw [← hg] at g10
    have hgn : ∀ w, Calls Tryz.prog 98 #[.int .u64 c] w fun e w' => e = .returned (.int .i64 (g : Int)) ∧ w = w' := fun w => by rw [hg]; exact numSize_any _ w (by omega) (by omega)
    have Hgn := Lib.hid hgn
    have Hg := Lib.hid hg
    clear hgn hg
    have hk0 := Hkn.out
    simp only [Int.add_zero] at hk0
    have Hk0 := Lib.hid hk0
    clear hk0
    go_enter Tryz.func91, Tryz.ntmps91
    go_wp2_with fail
    refine (Hc.out _).mono ?_
    rintro e w' ⟨rfl, rfl⟩
    go_wp2_with fail
    refine (key_any _ _ _ _ _ h1 h2 hb0 hb1).mono ?_
    rintro e w' ⟨rfl, rfl⟩
    go_wp2_with fail
    refine (Hk0.out _).mono ?_
    rintro e w' ⟨rfl, rfl⟩
    go_wp2_with fail
    refine (Hgn.out _).mono ?_
    rintro e w' ⟨rfl, rfl⟩
    go_wp2
    go_ret
    refine ⟨ret_int ?_, (((Below.refl _ _).alloc (Nat.le_refl _) _).alloc (by simp) _).alloc (by simp; omega) _⟩
    rw [Hr.out, ← Hk.out]
    simp [M.body, Hg.out]
  · go_enter Tryz.func91, Tryz.ntmps91
    go_wp2_with fail
    refine (Hc.out _).mono ?_
    rintro e w' ⟨rfl, rfl⟩
    go_wp2_with fail
    refine (key_any _ _ _ _ _ h1 h2 hb0 hb1).mono ?_
    rintro e w' ⟨rfl, rfl⟩
    go_wp2_with fail
    refine (Hkn.out _).mono ?_
    rintro e w' ⟨rfl, rfl⟩
    go_wp2
    go_ret
    refine ⟨ret_int ?_, (((Below.refl _ _).alloc (Nat.le_refl _) _).alloc (by simp) _).alloc (by simp; omega) _⟩
    rw [Hr.out, ← Hk.out]
    simp [M.body, M.le_len]
  · go_enter Tryz.func91, Tryz.ntmps91
    go_wp2_with fail
    refine (Hc.out _).mono ?_
    rintro e w' ⟨rfl, rfl⟩
    go_wp2_with fail
    refine (key_any _ _ _ _ _ h1 h2 hb0 hb1).mono ?_
    rintro e w' ⟨rfl, rfl⟩
    go_wp2_with fail
    refine (Hkn.out _).mono ?_
    rintro e w' ⟨rfl, rfl⟩
    go_wp2
    go_ret
    refine ⟨ret_int ?_, (((Below.refl _ _).alloc (Nat.le_refl _) _).alloc (by simp) _).alloc (by simp; omega) _⟩
    rw [Hr.out, ← Hk.out]
    simp [M.body, M.le_len]
  · have g10 : (M.vnum l.length).length ≤ 10 := M.vnum_len10 _ (by omega)
    obtain ⟨g, hg⟩ : ∃ g : Nat, g = (M.vnum l.length).length := ⟨_, rfl⟩
    rw [← hg] at g10
    have hgn : ∀ w, Calls Tryz.prog 98 #[.int .u64 (l.length : Int)] w fun e w' => e = .returned (.int .i64 (g : Int)) ∧ w' = w := fun w => by rw [hg]; exact (numSize_quiet _ w (by omega) (by omega))
    have Hgn := Lib.hid hgn
    have Hg := Lib.hid hg
    clear hgn hg
    go_enter Tryz.func91, Tryz.ntmps91
    go_wp2_with fail
    refine (Hc.out _).mono ?_
    rintro e w' ⟨rfl, rfl⟩
    go_wp2_with fail
    refine (key_any _ _ _ _ _ h1 h2 hb0 hb1).mono ?_
    rintro e w' ⟨rfl, rfl⟩
    go_wp2_with fail
    refine (Hkn.out _).mono ?_
    rintro e w' ⟨rfl, rfl⟩
    go_wp2
    go_quiet ((go_at_call 98; exact Calls.quiet_of_same (Hgn.out _)))
    go_wp2
    go_ret
    refine ⟨ret_int ?_, Below.trans ((((Below.refl _ _).alloc (Nat.le_refl _) _).alloc (by simp) _).alloc (by simp; omega) _) ⟨rfl, rfl, rfl, Nat.le_refl _, fun _ _ => rfl⟩⟩
    rw [Hr.out, ← Hk.out]
    simp [M.body, Hg.out]
end Go.Proofs.YtnnnnlcpmocnfaaGreatDoor

/- THE WALKS OVER appendFixed, appendField. -/
namespace Go.Proofs.YtnnnnlcpmocnfaaGreatDoor
open Go.RowKit
set_option linter.unusedVariables false

theorem fix_byte (n : Int) (h : 0 ≤ n) (k : Nat) : Value.int .u8 (n / 2 ^ (8 * k) % 256) = B (M.by8 (n.toNat / 256 ^ k % 256)) := by
  obtain ⟨m, rfl⟩ := Int.eq_ofNat_of_zero_le h
  rw [by8_int _ (Nat.mod_lt _ (by decide)), Int.toNat_natCast, show (256 : Nat) ^ k = 2 ^ (8 * k) from by rw [Nat.pow_mul]]
  simp

set_option maxHeartbeats 1000000 in
theorem appendFixed_any (base : Nat) (v0 : Value) (xs : List UInt8) (n : Int) (size : Nat) (w : World) (hown : Bytes 5 w base v0 xs) (hn0 : 0 ≤ n) (hn : n ≤ 18446744073709551615)
    (hs : size ≤ 8) (hlen : xs.length ≤ 140737488351000) (hb : base ≤ w.heap.size) :
    Calls Tryz.prog 101 #[v0, .int .u64 n, .int .i64 (size : Int)] w fun e w' => ∃ v', e = .returned v' ∧ Bytes 5 w' base v' (xs ++ M.le size n.toNat) ∧ Grew w v0 w' v' := by
  go_enter Tryz.func101, Tryz.ntmps101
  go_wp2
  go_loopw [0, 9] (fun v i wr => ∃ (k : Nat), i = .int .i64 (k : Int) ∧ k ≤ size ∧ Bytes 5 wr base v (xs ++ M.le k n.toNat) ∧ Grew w v0 wr v) (fun _ i _ => size - (intOf i).toNat)
  case atStart => exact ⟨0, rfl, by omega, by simpa [M.le] using hown, Grew.refl _ _⟩
  case round =>
    obtain ⟨k, rfl, hk, hown1, hg⟩ := hrel
    have hle : (xs ++ M.le k n.toNat).length ≤ 140737488355000 := by
      simp only [List.length_append, M.le_len]
      omega
    have hsz : base ≤ wr.heap.size := Nat.le_trans hb hg.g.size
    have Hle := Lib.hid hle; clear hle
    have Hsz := Lib.hid hsz; clear hsz
    by_cases hlt : k < size
    · have hsn := M.le_snoc k n.toNat
      have Hsn := Lib.hid hsn; clear hsn
      clear hlen hb
      go_wp2_with (at_builtin; refine wp_app_byte Tryz.info5 Tryz.underlying110 rfl _ _ rfl base _ _ rfl hown1 (M.by8 (n.toNat / 256 ^ k % 256)) _ (fix_byte n hn0 k) rfl Hle.out Hsz.out ?_)
      · intro v' w1 hown' hg'
        go_wp2
        go_roundw
        case rel => exact ⟨k + 1, by go_num, by omega, by rw [Hsn.out]; simpa using hown', hg.trans hg'⟩
        case measure => simp [intOf]; omega
    · have e : k = size := by omega
      have E := Lib.hid e; clear e
      go_wp2
      go_ret
      exact ⟨_, rfl, by rw [← E.out]; exact hown1, hg⟩

set_option maxHeartbeats 2000000 in
theorem appendField_any (base : Nat) (v0 : Value) (xs : List UInt8) (a b c : Int) (l : List UInt8) (w : World) (hown : Bytes 5 w base v0 xs) (hb0 : 0 ≤ b) (hb1 : b ≤ 255) (hc0 : 0 ≤ c) (hc1 : c ≤ 18446744073709551615)
    (hm : M.may ⟨a, b.toNat, c.toNat, l⟩ = true) (hlen : xs.length ≤ 140737488200000) (hb : base ≤ w.heap.size) :
    Calls Tryz.prog 92 #[v0, .agg (fcells a b c l)] w fun e w' => ∃ v', e = .returned v' ∧ Bytes 5 w' base v' (xs ++ M.enc1 ⟨a, b.toNat, c.toNat, l⟩) ∧ Grew w v0 w' v' := by
  obtain ⟨h1, h2, hcase⟩ := may_cases hb0 hc0 hm
  clear hm
  obtain ⟨en, hen⟩ : ∃ en, M.enc1 ⟨a, b.toNat, c.toNat, l⟩ = en := ⟨_, rfl⟩
  rw [hen]
  have hr2 : en = M.vnum (8 * a + b).toNat ++ M.body ⟨a, b.toNat, c.toNat, l⟩ := by
    rw [← hen, M.enc1, M.key]
    congr 2
    simp only
    omega
  have hk10 : (M.vnum (8 * a + b).toNat).length ≤ 10 := M.vnum_len10 _ (by omega)
  have Hr := Lib.hid hr2
  have Hk10 := Lib.hid hk10
  clear hr2 hen hk10
  rcases hcase with ⟨rfl, rfl⟩ | ⟨rfl, rfl⟩ | ⟨rfl, rfl, hcl⟩ | ⟨rfl, rfl, hll⟩
  · have hr0 := Hr.out
    have hk0 := Hk10.out
    simp only [Int.add_zero] at hr0 hk0
    clear Hr Hk10
    have Hr := Lib.hid hr0
    have Hk10 := Lib.hid hk0
    clear hr0 hk0
    go_enter Tryz.func92, Tryz.ntmps92
    go_wp2_with fail
    refine (key_any _ _ _ _ _ h1 h2 hb0 hb1).mono ?_
    rintro e w' ⟨rfl, rfl⟩
    go_wp2_with fail
    refine (appendNum_any base v0 xs _ _ ((hown.alloc _).alloc _) (by omega) (by omega) (by omega) (by simp; omega)).mono ?_
    rintro e w1 ⟨v1, rfl, hb1, hg1⟩
    have hlt1 := hown.lt
    have hx1 := hg1.blk (blk_alloc (blk_new w (.cells (fcells a 0 c []) 73)) _) (fun k hk => by have := hlt1 k hk; omega)
    obtain ⟨q0, q1, q2, q3⟩ := box4 hx1
    have hG := (((Grew.refl w v0).alloc _).alloc _).trans hg1
    have hsz1 : base ≤ w1.heap.size := Nat.le_trans hb hG.g.size
    have hl1 : (xs ++ M.vnum (8 * a).toNat).length ≤ 140737488200010 := by have := Hk10.out; simp only [List.length_append] at this ⊢; omega
    have HG := Lib.hid hG
    have Hl1 := Lib.hid hl1
    have Hb1 := Lib.hid hb1
    have Hs1 := Lib.hid hsz1
    have Hlt1 := Lib.hid hlt1
    have Hx1 := Lib.hid hx1
    clear hG hl1 hg1 hsz1 hlt1 hx1 q0 hb1
    go_wp2_with fail
    refine (appendNum_any base v1 _ _ _ Hb1.out (by omega) (by omega) (by have := Hl1.out; omega) Hs1.out).mono ?_
    rintro e w2 ⟨v2, rfl, hb2, hg2⟩
    go_wp2
    go_ret
    exact ⟨v2, rfl, by rw [Hr.out, ← List.append_assoc]; exact hb2, HG.out.trans hg2⟩
  · go_enter Tryz.func92, Tryz.ntmps92
    go_wp2_with fail
    refine (key_any _ _ _ _ _ h1 h2 hb0 hb1).mono ?_
    rintro e w' ⟨rfl, rfl⟩
    go_wp2_with fail
    refine (appendNum_any base v0 xs _ _ ((hown.alloc _).alloc _) (by omega) (by omega) (by omega) (by simp; omega)).mono ?_
    rintro e w1 ⟨v1, rfl, hb1, hg1⟩
    have hlt1 := hown.lt
    have hx1 := hg1.blk (blk_alloc (blk_new w (.cells (fcells a 1 c []) 73)) _) (fun k hk => by have := hlt1 k hk; omega)
    obtain ⟨q0, q1, q2, q3⟩ := box4 hx1
    have hG := (((Grew.refl w v0).alloc _).alloc _).trans hg1
    have hsz1 : base ≤ w1.heap.size := Nat.le_trans hb hG.g.size
    have hl1 : (xs ++ M.vnum (8 * a + 1).toNat).length ≤ 140737488200010 := by have := Hk10.out; simp only [List.length_append] at this ⊢; omega
    have HG := Lib.hid hG
    have Hl1 := Lib.hid hl1
    have Hb1 := Lib.hid hb1
    have Hs1 := Lib.hid hsz1
    have Hlt1 := Lib.hid hlt1
    have Hx1 := Lib.hid hx1
    clear hG hl1 hg1 hsz1 hlt1 hx1 q0 hb1
    go_wp2_with fail
    refine (appendFixed_any base v1 _ _ 8 _ Hb1.out (by omega) (by omega) (by omega) (by have := Hl1.out; omega) Hs1.out).mono ?_
    rintro e w2 ⟨v2, rfl, hb2, hg2⟩
    go_wp2
    go_ret
    exact ⟨v2, rfl, by rw [Hr.out, ← List.append_assoc]; exact hb2, HG.out.trans hg2⟩
  · go_enter Tryz.func92, Tryz.ntmps92
    go_wp2_with fail
    refine (key_any _ _ _ _ _ h1 h2 hb0 hb1).mono ?_
    rintro e w' ⟨rfl, rfl⟩
    go_wp2_with fail
    refine (appendNum_any base v0 xs _ _ ((hown.alloc _).alloc _) (by omega) (by omega) (by omega) (by simp; omega)).mono ?_
    rintro e w1 ⟨v1, rfl, hb1, hg1⟩
    have hlt1 := hown.lt
    have hx1 := hg1.blk (blk_alloc (blk_new w (.cells (fcells a 5 c []) 73)) _) (fun k hk => by have := hlt1 k hk; omega)
    obtain ⟨q0, q1, q2, q3⟩ := box4 hx1
    have hG := (((Grew.refl w v0).alloc _).alloc _).trans hg1
    have hsz1 : base ≤ w1.heap.size := Nat.le_trans hb hG.g.size
    have hl1 : (xs ++ M.vnum (8 * a + 5).toNat).length ≤ 140737488200010 := by have := Hk10.out; simp only [List.length_append] at this ⊢; omega
    have HG := Lib.hid hG
    have Hl1 := Lib.hid hl1
    have Hb1 := Lib.hid hb1
    have Hs1 := Lib.hid hsz1
    have Hlt1 := Lib.hid hlt1
    have Hx1 := Lib.hid hx1
    clear hG hl1 hg1 hsz1 hlt1 hx1 q0 hb1
    go_wp2_with fail
    refine (appendFixed_any base v1 _ _ 4 _ Hb1.out (by omega) (by omega) (by omega) (by have := Hl1.out; omega) Hs1.out).mono ?_
    rintro e w2 ⟨v2, rfl, hb2, hg2⟩
    go_wp2
    go_ret
    exact ⟨v2, rfl, by rw [Hr.out, ← List.append_assoc]; exact hb2, HG.out.trans hg2⟩
  · go_enter Tryz.func92, Tryz.ntmps92
    go_wp2_with fail
    refine (key_any _ _ _ _ _ h1 h2 hb0 hb1).mono ?_
    rintro e w' ⟨rfl, rfl⟩
    go_wp2_with fail
    refine (appendNum_any base v0 xs _ _ ((hown.alloc _).alloc _) (by omega) (by omega) (by omega) (by simp; omega)).mono ?_
    rintro e w1 ⟨v1, rfl, hb1, hg1⟩
    have hlt1 := hown.lt
    have hx1 := hg1.blk (blk_alloc (blk_new w (.cells (fcells a 2 0 l) 73)) _) (fun k hk => by have := hlt1 k hk; omega)
    obtain ⟨q0, q1, q2, q3⟩ := box4 hx1
    have hG := (((Grew.refl w v0).alloc _).alloc _).trans hg1
    have hsz1 : base ≤ w1.heap.size := Nat.le_trans hb hG.g.size
    have hl1 : (xs ++ M.vnum (8 * a + 2).toNat).length ≤ 140737488200010 := by have := Hk10.out; simp only [List.length_append] at this ⊢; omega
    have Hg1 := Lib.hid hg1
    have HG := Lib.hid hG
    have Hl1 := Lib.hid hl1
    have Hb1 := Lib.hid hb1
    have Hs1 := Lib.hid hsz1
    have Hlt1 := Lib.hid hlt1
    have Hx1 := Lib.hid hx1
    clear hG hl1 hg1 hsz1 hlt1 hx1 q0 hb1
    go_wp2_with fail
    refine (appendNum_any base v1 _ _ _ Hb1.out (by omega) (by omega) (by have := Hl1.out; omega) Hs1.out).mono ?_
    rintro e w2 ⟨v2, rfl, hb2, hg2⟩
    have hx2 := hg2.blk Hx1.out (fun k hk => by
      rcases Hg1.out.o with e | ⟨b, e, hb⟩
      · have := Hlt1.out k (e ▸ hk); omega
      · rw [e] at hk; injection hk with hk; simp at hb; omega)
    obtain ⟨r0, r1, r2, r3⟩ := box4 hx2
    have hl2 : (xs ++ M.vnum (8 * a + 2).toNat ++ M.vnum (l.length : Int).toNat).length + l.length ≤ 140737488355000 := by
      have := Hl1.out
      have := M.vnum_len10 (l.length : Int).toNat (by omega)
      simp only [List.length_append] at *
      omega
    have hs2 : base ≤ w2.heap.size := Nat.le_trans Hs1.out hg2.g.size
    have Hl2 := Lib.hid hl2
    have Hs2 := Lib.hid hs2
    have Hb2 := Lib.hid hb2
    have Hg2 := Lib.hid hg2
    clear hl2 hs2 hb2 hg2 hx2 q1 q2 q3 r0 r1 r2
    go_wp2_with (at_builtin; refine wp_app_str Tryz.info5 Tryz.underlying110 Tryz.underlying9 rfl _ _ rfl base v2 _ rfl Hb2.out l rfl Hl2.out Hs2.out ?_)
    intro v3 w3 hb3 hg3
    go_wp2
    go_ret
    exact ⟨v3, rfl, by rw [Hr.out]; simpa [M.body] using hb3, (HG.out.trans Hg2.out).trans hg3⟩
end Go.Proofs.YtnnnnlcpmocnfaaGreatDoor

/- THE WALK OVER Write. -/
namespace Go.Proofs.YtnnnnlcpmocnfaaGreatDoor
open Go.RowKit
set_option linter.unusedVariables false

/-- a field's numbers fit -/
structure Fit (f : M.Fd) (a b c : Int) (l : List UInt8) : Prop where
  e : f = ⟨a, b.toNat, c.toNat, l⟩
  b0 : 0 ≤ b
  b1 : b ≤ 255
  c0 : 0 ≤ c
  c1 : c ≤ 18446744073709551615
  a0 : -9223372036854775808 ≤ a
  a1 : a ≤ 9223372036854775807
  hl : l.length ≤ 9223372036854775807

/-- element i of a slice of fields -/
structure At4 (w : World) (g off i : Nat) (a b c : Int) (l : List UInt8) : Prop where
  q0 : w.cell? ⟨g, off + i * 4, none⟩ = some (.int .i64 a)
  q1 : w.cell? ⟨g, off + i * 4 + 1, none⟩ = some (.int .u8 b)
  q2 : w.cell? ⟨g, off + i * 4 + 2, none⟩ = some (.int .u64 c)
  q3 : w.cell? ⟨g, off + i * 4 + 3, none⟩ = some (.string ⟨l.toArray⟩)

/-- the slice (its address ad) has the fields fs, in blocks below B -/
def Flds (w : World) (B : Nat) (ad : Option Addr) (fs : List M.Fd) : Prop :=
  fs.length ≤ 9223372036854775807 ∧ (fs ≠ [] → ∃ g off, ad = some ⟨g, off, none⟩ ∧ g < B ∧ ∀ i f, fs[i]? = some f → ∃ a b c l, Fit f a b c l ∧ At4 w g off i a b c l)

theorem Flds.keep {w w' : World} {B : Nat} {ad : Option Addr} {fs : List M.Fd} (h : Flds w B ad fs) (hb : Below B w w') : Flds w' B ad fs := by
  refine ⟨h.1, fun hne => ?_⟩
  obtain ⟨g, off, e, hg, hi⟩ := h.2 hne
  refine ⟨g, off, e, hg, fun i f hf => ?_⟩
  obtain ⟨a, b, c, l, hfit, q⟩ := hi i f hf
  exact ⟨a, b, c, l, hfit, (hb.cell (p := ⟨g, _, none⟩) hg).trans q.q0, (hb.cell (p := ⟨g, _, none⟩) hg).trans q.q1, (hb.cell (p := ⟨g, _, none⟩) hg).trans q.q2, (hb.cell (p := ⟨g, _, none⟩) hg).trans q.q3⟩

theorem enc1_le {f : M.Fd} {a b c : Int} {l : List UInt8} (h : Fit f a b c l) (hm : M.may f = true) : (M.enc1 f).length ≤ 65556 := by
  obtain ⟨rfl, hb0, hb1, hc0, hc1, _, _, _⟩ := h
  obtain ⟨h1, h2, hcase⟩ := may_cases hb0 hc0 hm
  have hk := M.vnum_len10 (M.key ⟨a, b.toNat, c.toNat, l⟩) (by simp only [M.key]; omega)
  rw [M.enc1, List.length_append]
  rcases hcase with ⟨rfl, rfl⟩ | ⟨rfl, rfl⟩ | ⟨rfl, rfl, _⟩ | ⟨rfl, rfl, hll⟩
  · have := M.vnum_len10 c.toNat (by omega)
    simp [M.body] at hk ⊢; omega
  · simp [M.body, M.le_len] at hk ⊢; omega
  · simp [M.body, M.le_len] at hk ⊢; omega
  · have := M.vnum_len10 l.length (by omega)
    simp [M.body] at hk ⊢; omega

set_option maxHeartbeats 2000000 in
theorem write_long (w : World) (ad : Option Addr) (cap n : Nat) (hn : n ≤ 9223372036854775807) (hlen : 4096 < n) :
    Calls Tryz.prog 78 #[.slice ad n cap] w fun e w' => e = .returned (.tuple #[.string ⟨#[]⟩, .int .i64 3]) ∧ w = w' := by
  go_enter Tryz.func78, Tryz.ntmps78
  go_wp2
  go_ret2
  exact ⟨rfl, rfl⟩

set_option maxRecDepth 100000 in
set_option maxHeartbeats 2000000 in
theorem write_short (w : World) (ad : Option Addr) (cap n : Nat) (fs : List M.Fd) (hfn : n = fs.length) (hfs : Flds w w.heap.size ad fs) (hlen : n ≤ 4096) :
    Calls Tryz.prog 78 #[.slice ad n cap] w fun e w' => e = .returned (.tuple #[.string ⟨(M.wr fs).2.toArray⟩, .int .i64 (M.wr fs).1]) ∧ Below w.heap.size w w' := by
  obtain ⟨R, hR⟩ : ∃ R, R = M.wr fs := ⟨_, rfl⟩
  rw [← hR]
  have HR := Lib.hid hR
  have Hfn := Lib.hid hfn
  have Hfs := Lib.hid hfs
  clear hR hfn hfs
  go_enter Tryz.func78, Tryz.ntmps78
  go_wp2
  go_loopw [4, 15] (fun s i wr => ∃ (k : Nat) (t : Nat), i = .int .i64 (k : Int) ∧ k ≤ n ∧ s = .int .i64 (t : Int) ∧ t = (M.enc (fs.take k)).length ∧ t ≤ k * 65556 ∧ (fs.take k).all M.may = true ∧ Below w.heap.size w wr) (fun _ i _ => n - (intOf i).toNat)
  case atStart => exact ⟨0, 0, rfl, by omega, rfl, rfl, by omega, rfl, Below.refl _ _⟩
  case round =>
    obtain ⟨k, t, rfl, hk, rfl, ht, htb, hall, hbel⟩ := hrel
    have Ht := Lib.hid ht
    have Hall := Lib.hid hall
    have Hbel := Lib.hid hbel
    clear ht hall hbel
    by_cases hlt : k < n
    · have hne : fs ≠ [] := by rintro rfl; simp at Hfn; have := Hfn.out; omega
      obtain ⟨g, off, rfl, hg, hi⟩ := (Hfs.out.keep Hbel.out).2 hne
      obtain ⟨f, hf⟩ : ∃ f, fs[k]? = some f := ⟨fs[k]'(by have := Hfn.out; omega), by simp⟩
      obtain ⟨a, b, c, l, hfit, q⟩ := hi k f hf
      obtain ⟨q0, q1, q2, q3⟩ := q
      obtain ⟨hfe, hb0, hb1, hc0, hc1, ha0, ha1, hll⟩ := hfit
      have Hf := Lib.hid hf
      have Hfe := Lib.hid hfe
      clear hf hfe hi hne
      have hmay : ∀ W, Calls Tryz.prog 90 #[.agg (fcells a b c l)] W fun e w' => e = .returned (.bool (M.may f)) ∧ W.alloc (.cells (fcells a b c l) 73) = w' := fun W => by rw [Hfe.out]; exact mayBe_any a b c l W hb0 hb1 hc0 (by omega)
      cases hmb : M.may f with
      | false =>
        rw [hmb] at hmay
        have hret : R = (2, []) := by
          have hall : fs.all M.may = false := by
            cases h : fs.all M.may with
            | false => rfl
            | true => have := (List.all_eq_true.1 h) f (List.mem_of_getElem? Hf.out); rw [hmb] at this; cases this
          rw [HR.out, M.wr, if_neg (by have := Hfn.out; omega), if_pos hall]
        have Hret := Lib.hid hret
        have Hmay := Lib.hid hmay
        clear hret hmay hmb
        go_wp2_with fail
        refine (Hmay.out _).mono ?_
        rintro e w' ⟨rfl, rfl⟩
        go_wp2
        go_ret2
        exact ⟨by rw [Hret.out]; rfl, Hbel.out.trans (((Below.refl _ _).alloc Hbel.out.size _).alloc (by have := Hbel.out.size; simp; omega) _)⟩
      | true =>
        rw [hmb] at hmay
        have hsz : ∀ W, Calls Tryz.prog 91 #[.agg (fcells a b c l)] W fun e w' => e = .returned (.int .i64 ((M.enc1 f).length : Int)) ∧ Below W.heap.size W w' := fun W => by
          rw [Hfe.out] at hmb ⊢
          exact size_yes a b c l W hb0 hb1 hc0 hc1 (by omega) hmb
        obtain ⟨z, hz⟩ : ∃ z : Nat, z = (M.enc1 f).length := ⟨_, rfl⟩
        have hzb : z ≤ 65556 := by rw [hz]; exact enc1_le ⟨Hfe.out, hb0, hb1, hc0, hc1, ha0, ha1, hll⟩ hmb
        rw [← hz] at hsz
        have hnext : t + z = (M.enc (fs.take (k + 1))).length := by
          rw [List.take_add_one, Hf.out, Ht.out, hz]
          simp [M.enc]
        have hall : (fs.take (k + 1)).all M.may = true := by
          rw [List.take_add_one, Hf.out, List.all_append, Hall.out]
          simp [hmb]
        have Hmay := Lib.hid hmay
        have Hsz := Lib.hid hsz
        have Hnext := Lib.hid hnext
        have Hall' := Lib.hid hall
        clear hmay hsz hnext hall hz hmb
        go_wp2_with fail
        refine (Hmay.out _).mono ?_
        rintro e w' ⟨rfl, rfl⟩
        go_wp2_with fail
        refine (Hsz.out _).mono ?_
        rintro e w2 ⟨rfl, hb2⟩
        have Hb2 := Lib.hid hb2
        clear hb2
        go_wp2
        go_roundw
        case rel =>
          refine ⟨k + 1, t + z, by go_num, by omega, by go_num, Hnext.out, by omega, Hall'.out, Hbel.out.trans ?_⟩
          exact (((Below.refl _ _).alloc Hbel.out.size _).alloc (by have := Hbel.out.size; simp; omega) _).trans (Hb2.out.mono (by have := Hbel.out.size; simp; omega))
        case measure => simp [intOf]; omega
    · have hkn : k = n := by omega
      have htake : fs.take k = fs := List.take_of_length_le (by have := Hfn.out; omega)
      have htl := Ht.out
      have hal := Hall.out
      rw [htake] at htl hal
      have htk : t ≤ 268517376 := by omega
      have Htl := Lib.hid htl
      have Hal := Lib.hid hal
      clear htl hal Ht Hall htake htb
      by_cases hbig : 65536 < t
      · have hret : R = (4, []) := by
          rw [HR.out, M.wr, if_neg (by have := Hfn.out; omega), if_neg (by simp [Hal.out]), if_pos (by rw [← Htl.out]; exact hbig)]
        have Hret := Lib.hid hret
        clear hret
        clear hkn
        go_wp2
        go_ret2
        exact ⟨by rw [Hret.out]; rfl, Hbel.out⟩
      · have hret : R = (0, M.enc fs) := by
          rw [HR.out, M.wr, if_neg (by have := Hfn.out; omega), if_neg (by simp [Hal.out]), if_neg (by rw [← Htl.out]; exact hbig)]
        have Hret := Lib.hid hret
        clear hret
        clear hkn
        obtain ⟨i0, hi, hz0, hz1, hz2⟩ := info_parts Tryz.info5
        go_wp2_with (at_make; refine wpList_make_own _ rfl _ _ 110 rfl w.heap.size 5 i0 (.int .u8 0) 1 Tryz.underlying110 hi hz0 hz1 _ _ _ t rfl rfl (by omega) ?b2 ?b3 Hbel.out.size ?_)
        case b2 => rw [hz2]; omega
        case b3 => unfold maxLen; omega
        intro w1 hown hgr
        have hB0 : Bytes 5 w1 w.heap.size (.slice (some ⟨wr.heap.size, 0, none⟩) 0 t) [] := hown
        have hbel1 : Below w.heap.size w w1 := Hbel.out.grown hgr Hbel.out.size (by simp)
        have HB0 := Lib.hid hB0
        have Hbel1 := Lib.hid hbel1
        clear hown hgr hB0 hbel1 hi hz0 hz1 hz2
        go_wp2
        go_loopw [7, 33] (fun v i wq => ∃ (j : Nat), i = .int .i64 (j : Int) ∧ j ≤ n ∧ Bytes 5 wq w.heap.size v (M.enc (fs.take j)) ∧ Below w.heap.size w wq) (fun _ i _ => n - (intOf i).toNat)
        case atStart => exact ⟨0, rfl, by omega, HB0.out, Hbel1.out⟩
        case round =>
          obtain ⟨j, rfl, hj, hown, hbelj⟩ := hrel
          have Hown := Lib.hid hown
          have Hbj := Lib.hid hbelj
          clear hown hbelj
          by_cases hlt : j < n
          · have hne : fs ≠ [] := by rintro rfl; have := Hfn.out; simp at this; omega
            obtain ⟨g, off, rfl, hg, hi⟩ := (Hfs.out.keep Hbj.out).2 hne
            obtain ⟨f, hf⟩ : ∃ f, fs[j]? = some f := ⟨fs[j]'(by have := Hfn.out; omega), by simp⟩
            obtain ⟨a, b, c, l, hfit, q⟩ := hi j f hf
            obtain ⟨q0, q1, q2, q3⟩ := q
            obtain ⟨hfe, hb0, hb1, hc0, hc1, ha0, ha1, hll⟩ := hfit
            have hmb : M.may f = true := List.all_eq_true.1 Hal.out f (List.mem_of_getElem? hf)
            have hle : (M.enc (fs.take j)).length ≤ 140737488200000 := by
              have h1 : (M.enc (fs.take j)).length + (M.enc (fs.drop j)).length = (M.enc fs).length := by
                rw [← List.length_append, ← M.enc_append, List.take_append_drop]
              have := Htl.out
              omega
            have hnext : M.enc (fs.take (j + 1)) = M.enc (fs.take j) ++ M.enc1 f := by
              rw [List.take_add_one, hf]
              simp [M.enc]
            rw [hfe] at hmb hnext
            have Hmb := Lib.hid hmb
            have Hnext := Lib.hid hnext
            have Hle := Lib.hid hle
            clear hmb hnext hle hf hfe hi hne
            go_wp2_with fail
            refine (appendField_any w.heap.size _ (M.enc (fs.take j)) a b c l _ (Hown.out.alloc _) hb0 hb1 hc0 hc1 Hmb.out Hle.out (by have := Hbj.out.size; simp; omega)).mono ?_
            rintro e w2 ⟨v2, rfl, hb2, hg2⟩
            have hbel2 : Below w.heap.size w w2 := (Hbj.out.alloc Hbj.out.size _).trans (hg2.below (by have := Hbj.out.size; simp; omega) (fun k hk => (Hown.out.lt k hk).1))
            have Hb2 := Lib.hid hb2
            have Hbel2 := Lib.hid hbel2
            clear hb2 hg2 hbel2
            go_wp2
            go_roundw
            case rel => exact ⟨j + 1, by go_num, by omega, by rw [Hnext.out]; exact Hb2.out, Hbel2.out⟩
            case measure => simp [intOf]; omega
          · have hjn : j = n := by omega
            have htake : fs.take j = fs := List.take_of_length_le (by have := Hfn.out; omega)
            have ho := Hown.out
            rw [htake] at ho
            have hconv := ho.conv Tryz.underlying110 Tryz.underlying5 Tryz.underlying9
            clear hjn htake ho
            go_wp2
            go_ret2
            exact ⟨by rw [Hret.out]; rfl, Hbj.out⟩
end Go.Proofs.YtnnnnlcpmocnfaaGreatDoor
