/-
  PLAIN MATHEMATICS OF LAYER 1 (wire): varints, zigzags, fields, messages, as functions on lists of bytes; no program is imported.
-/
namespace Go.Proofs.Ytnnnnlcpmocnfaa.M

/-- a byte of a number -/
def by8 (n : Nat) : UInt8 := UInt8.ofNat n
theorem by8_toNat (n : Nat) (h : n < 256) : (by8 n).toNat = n := by
  unfold by8
  rw [UInt8.toNat_ofNat']
  exact Nat.mod_eq_of_lt h

/-- the shortest varint -/
def vnum (n : Nat) : List UInt8 :=
  if n < 128 then [by8 n] else by8 (n % 128 + 128) :: vnum (n / 128)
termination_by n
decreasing_by omega

theorem vnum_lt {n : Nat} (h : n < 128) : vnum n = [by8 n] := by rw [vnum, if_pos h]
theorem vnum_ge {n : Nat} (h : ¬ n < 128) : vnum n = by8 (n % 128 + 128) :: vnum (n / 128) := by rw [vnum, if_neg h]

theorem vnum_pos (n : Nat) : 0 < (vnum n).length := by
  by_cases h : n < 128
  · rw [vnum_lt h]; simp
  · rw [vnum_ge h]; simp

theorem vnum_len_le (k : Nat) : ∀ n, n < 128 ^ (k + 1) → (vnum n).length ≤ k + 1 := by
  induction k with
  | zero => intro n h; rw [vnum_lt (by simpa using h)]; simp
  | succ k ih =>
    intro n h
    by_cases h1 : n < 128
    · rw [vnum_lt h1]; simp
    · rw [vnum_ge h1]
      have := ih (n / 128) (by rw [Nat.pow_succ] at h; omega)
      simp only [List.length_cons]; omega

theorem vnum_len10 (n : Nat) (h : n < 18446744073709551616) : (vnum n).length ≤ 10 :=
  vnum_len_le 9 n (Nat.lt_of_lt_of_le h (by decide))

theorem vnum_len1 (n : Nat) : (vnum n).length = 1 ↔ n < 128 := by
  by_cases h : n < 128
  · rw [vnum_lt h]; simp [h]
  · rw [vnum_ge h]; have := vnum_pos (n / 128); simp only [List.length_cons]; omega

theorem vnum_half (n : Nat) : ∀ m, m ≤ n → (vnum m).length ≤ (vnum n).length := by
  induction n using Nat.strongRecOn with
  | ind n ih =>
    intro m hm
    by_cases h : m < 128
    · rw [vnum_lt h]; exact vnum_pos n
    · rw [vnum_ge h, vnum_ge (show ¬ n < 128 by omega)]
      have := ih (n / 128) (by omega) (m / 128) (by omega)
      simp only [List.length_cons]; omega

/-- a varint is read, with i bytes ahead of it -/
def rdAt : Nat → List UInt8 → Option (Nat × Nat)
  | _, [] => none
  | i, b :: t => if 10 ≤ i then none else if i = 9 ∧ 1 < b.toNat then none else if b.toNat < 128 then some (b.toNat, 1)
      else (rdAt (i + 1) t).map fun x => (b.toNat % 128 + 128 * x.1, x.2 + 1)
def rd (l : List UInt8) : Option (Nat × Nat) := rdAt 0 l

theorem rdAt_ten (i : Nat) (h : 10 ≤ i) (l : List UInt8) : rdAt i l = none := by
  cases l with
  | nil => rfl
  | cons b t => rw [rdAt, if_pos h]

theorem rdAt_bound : ∀ (l : List UInt8) (i : Nat) (n k : Nat), rdAt i l = some (n, k) → 0 < k ∧ k ≤ l.length ∧ i + k ≤ 10 ∧ n * 128 ^ i < 18446744073709551616 := by
  intro l
  induction l with
  | nil => intro i n k h; cases h
  | cons b t ih =>
    intro i n k h
    rw [rdAt] at h
    by_cases h1 : 10 ≤ i
    · rw [if_pos h1] at h; cases h
    · rw [if_neg h1] at h
      by_cases h2 : i = 9 ∧ 1 < b.toNat
      · rw [if_pos h2] at h; cases h
      · rw [if_neg h2] at h
        by_cases h3 : b.toNat < 128
        · rw [if_pos h3] at h
          injection h with h
          injection h with ha hb
          subst ha hb
          refine ⟨by omega, by simp, by omega, ?_⟩
          by_cases h9 : i = 9
          · subst h9
            have hb1 : b.toNat ≤ 1 := by omega
            calc b.toNat * 128 ^ 9 ≤ 1 * 128 ^ 9 := Nat.mul_le_mul_right _ hb1
              _ < _ := by decide
          · have hp : 128 ^ i ≤ 128 ^ 8 := Nat.pow_le_pow_right (by decide) (by omega)
            calc b.toNat * 128 ^ i ≤ 127 * 128 ^ 8 := Nat.mul_le_mul (by omega) hp
              _ < _ := by decide
        · rw [if_neg h3] at h
          cases hr : rdAt (i + 1) t with
          | none => rw [hr] at h; cases h
          | some x =>
            obtain ⟨n', k'⟩ := x
            rw [hr] at h
            simp only [Option.map_some] at h
            injection h with h
            injection h with ha hb
            subst ha hb
            obtain ⟨g1, g2, g3, g4⟩ := ih (i + 1) n' k' hr
            refine ⟨by omega, by simp; omega, by omega, ?_⟩
            have hi8 : i ≤ 8 := by omega
            -- n' * 128^(i+1) is a multiple of 128^(i+1) below 2^64
            have hm : b.toNat % 128 < 128 := Nat.mod_lt _ (by decide)
            have hc : 18446744073709551616 = (2 * 128 ^ (8 - i)) * 128 ^ (i + 1) := by
              rw [Nat.mul_assoc, ← Nat.pow_add, show 8 - i + (i + 1) = 9 by omega]
            generalize 2 * 128 ^ (8 - i) = c at hc
            rw [hc] at g4 ⊢
            have hlt : n' < c := Nat.lt_of_mul_lt_mul_right g4
            have hQ : 0 < 128 ^ i := Nat.pow_pos (by decide)
            calc (b.toNat % 128 + 128 * n') * 128 ^ i < (128 * c) * 128 ^ i := Nat.mul_lt_mul_of_pos_right (by omega) hQ
              _ = c * 128 ^ (i + 1) := by rw [Nat.pow_succ, Nat.mul_comm (128 ^ i) 128, Nat.mul_comm 128 c, Nat.mul_assoc]

theorem rd_bound {l : List UInt8} {n k : Nat} (h : rd l = some (n, k)) : 0 < k ∧ k ≤ l.length ∧ k ≤ 10 ∧ n < 18446744073709551616 := by
  obtain ⟨a, b, c, d⟩ := rdAt_bound l 0 n k h
  exact ⟨a, b, by omega, by simpa using d⟩

theorem rdAt_vnum : ∀ (n : Nat) (i : Nat) (rest : List UInt8), i ≤ 9 → n * 128 ^ i < 18446744073709551616 → rdAt i (vnum n ++ rest) = some (n, (vnum n).length) := by
  intro n
  induction n using Nat.strongRecOn with
  | ind n ih =>
    intro i rest hi hn
    by_cases h : n < 128
    · rw [vnum_lt h]
      have hb := by8_toNat n (by omega)
      have h9 : ¬ (i = 9 ∧ 1 < n) := by
        rintro ⟨rfl, h1⟩
        have : 2 * 128 ^ 9 ≤ n * 128 ^ 9 := Nat.mul_le_mul_right _ h1
        omega
      simp only [List.cons_append, List.nil_append, rdAt, hb]
      rw [if_neg (by omega), if_neg h9, if_pos h]
      rfl
    · rw [vnum_ge h]
      have hb := by8_toNat (n % 128 + 128) (by omega)
      have hi9 : i ≤ 8 := by
        rcases Nat.lt_or_ge i 9 with h9 | h9
        · omega
        · have : i = 9 := by omega
          subst this
          have : 128 * 128 ^ 9 ≤ n * 128 ^ 9 := Nat.mul_le_mul_right _ (by omega)
          omega
      have hrec := ih (n / 128) (by omega) (i + 1) rest (by omega) (by
        rw [Nat.pow_succ]
        have h1 : n / 128 * 128 ≤ n := Nat.div_mul_le_self n 128
        calc n / 128 * (128 ^ i * 128) = n / 128 * 128 * 128 ^ i := by rw [Nat.mul_comm (128 ^ i) 128, Nat.mul_assoc]
          _ ≤ n * 128 ^ i := Nat.mul_le_mul_right _ h1
          _ < _ := hn)
      simp only [List.cons_append, rdAt, hb]
      rw [if_neg (by omega), if_neg (by omega), if_neg (by omega), hrec]
      simp only [Option.map_some, List.length_cons]
      congr 2
      omega

theorem rd_vnum (n : Nat) (rest : List UInt8) (h : n < 18446744073709551616) : rd (vnum n ++ rest) = some (n, (vnum n).length) :=
  rdAt_vnum n 0 rest (by omega) (by simpa using h)

/-- what more bytes behind do not turn -/
theorem rdAt_more : ∀ (l : List UInt8) (i n k : Nat) (x : List UInt8), rdAt i l = some (n, k) → rdAt i (l ++ x) = some (n, k) := by
  intro l
  induction l with
  | nil => intro i n k x h; cases h
  | cons b t ih =>
    intro i n k x h
    rw [rdAt] at h
    simp only [List.cons_append, rdAt]
    by_cases h1 : 10 ≤ i
    · rw [if_pos h1] at h; cases h
    · rw [if_neg h1] at h ⊢
      by_cases h2 : i = 9 ∧ 1 < b.toNat
      · rw [if_pos h2] at h; cases h
      · rw [if_neg h2] at h ⊢
        by_cases h3 : b.toNat < 128
        · rw [if_pos h3] at h ⊢; exact h
        · rw [if_neg h3] at h ⊢
          cases hr : rdAt (i + 1) t with
          | none => rw [hr] at h; cases h
          | some y => rw [ih (i + 1) y.1 y.2 x hr, ← hr]; exact h
theorem rd_more {l : List UInt8} {n k : Nat} (x : List UInt8) (h : rd l = some (n, k)) : rd (l ++ x) = some (n, k) := rdAt_more l 0 n k x h

/-- a number's bytes, the lowest first -/
def le : Nat → Nat → List UInt8
  | 0, _ => []
  | k + 1, n => by8 (n % 256) :: le k (n / 256)
/-- the number of bytes -/
def unle : List UInt8 → Nat
  | [] => 0
  | b :: t => b.toNat + 256 * unle t
theorem le_len : ∀ k n, (le k n).length = k
  | 0, _ => rfl
  | k + 1, n => by simp [le, le_len k]
theorem le_snoc : ∀ k n, le (k + 1) n = le k n ++ [by8 (n / 256 ^ k % 256)]
  | 0, n => by simp [le]
  | k + 1, n => by
    rw [le, le_snoc k (n / 256), le, Nat.div_div_eq_div_mul, Nat.pow_succ, Nat.mul_comm 256]
    rfl
theorem unle_le : ∀ k n, n < 256 ^ k → unle (le k n) = n
  | 0, n, h => by simp at h; subst h; rfl
  | k + 1, n, h => by
    have := unle_le k (n / 256) (by rw [Nat.pow_succ] at h; omega)
    simp only [le, unle, this, by8_toNat (n % 256) (by omega)]
    omega
theorem unle_lt : ∀ l : List UInt8, unle l < 256 ^ l.length
  | [] => by simp [unle]
  | b :: t => by
    have := unle_lt t
    have hb := b.toNat_lt
    simp only [unle, List.length_cons, Nat.pow_succ]
    omega

/-- a field -/
structure Fd where
  num : Int
  wire : Nat
  n : Nat
  s : List UInt8
deriving DecidableEq

def Fd.zero : Fd := ⟨0, 0, 0, []⟩

/-- may it be -/
def may (f : Fd) : Bool :=
  decide (1 ≤ f.num) && decide (f.num ≤ 536870911) &&
  (if f.wire = 0 ∨ f.wire = 1 then f.s.isEmpty else if f.wire = 5 then f.s.isEmpty && decide (f.n < 4294967296) else if f.wire = 2 then decide (f.n = 0) && decide (f.s.length ≤ 65536) else false)

def key (f : Fd) : Nat := 8 * f.num.toNat + f.wire
def body (f : Fd) : List UInt8 :=
  if f.wire = 0 then vnum f.n else if f.wire = 1 then le 8 f.n else if f.wire = 5 then le 4 f.n else if f.wire = 2 then vnum f.s.length ++ f.s else []
def enc1 (f : Fd) : List UInt8 := vnum (key f) ++ body f
def size1 (f : Fd) : Nat := if may f then (enc1 f).length else 0
def enc (l : List Fd) : List UInt8 := l.flatMap enc1
theorem enc_nil : enc [] = [] := rfl
theorem enc_cons (f : Fd) (l : List Fd) : enc (f :: l) = enc1 f ++ enc l := rfl
theorem enc_append (a b : List Fd) : enc (a ++ b) = enc a ++ enc b := by simp [enc]

/-- a message written: the error's number, the bytes -/
def wr (l : List Fd) : Nat × List UInt8 :=
  if 4096 < l.length then (3, []) else if l.all may = false then (2, []) else if 65536 < (enc l).length then (4, []) else (0, enc l)

/-- the first field of a text -/
def parse1 (l : List UInt8) : Except Nat (Fd × List UInt8) :=
  match rd l with
  | none => .error 9
  | some (k, a) =>
    if k / 8 < 1 ∨ 536870911 < k / 8 then .error 10
    else if k % 8 = 0 then match rd (l.drop a) with
      | none => .error 9
      | some (n, b) => .ok (⟨(k / 8 : Nat), 0, n, []⟩, (l.drop a).drop b)
    else if k % 8 = 1 then if (l.drop a).length < 8 then .error 10 else .ok (⟨(k / 8 : Nat), 1, unle ((l.drop a).take 8), []⟩, (l.drop a).drop 8)
    else if k % 8 = 5 then if (l.drop a).length < 4 then .error 10 else .ok (⟨(k / 8 : Nat), 5, unle ((l.drop a).take 4), []⟩, (l.drop a).drop 4)
    else if k % 8 = 2 then match rd (l.drop a) with
      | none => .error 9
      | some (m, b) => if ((l.drop a).drop b).length < m then .error 10 else .ok (⟨(k / 8 : Nat), 2, 0, ((l.drop a).drop b).take m⟩, ((l.drop a).drop b).drop m)
    else .error 10


theorem parse1_len {l : List UInt8} {f : Fd} {r : List UInt8} (h : parse1 l = .ok (f, r)) : r.length < l.length := by
  unfold parse1 at h
  cases hr : rd l with
  | none => rw [hr] at h; cases h
  | some x =>
    obtain ⟨k, a⟩ := x
    rw [hr] at h
    have hb := rd_bound hr
    simp only at h
    by_cases h0 : k / 8 < 1 ∨ 536870911 < k / 8
    · rw [if_pos h0] at h; cases h
    · rw [if_neg h0] at h
      by_cases h1 : k % 8 = 0
      · rw [if_pos h1] at h
        cases hr2 : rd (l.drop a) with
        | none => rw [hr2] at h; cases h
        | some y => rw [hr2] at h; injection h with h; injection h with _ h; rw [← h]; simp only [List.length_drop]; omega
      · rw [if_neg h1] at h
        by_cases h2 : k % 8 = 1
        · rw [if_pos h2] at h
          by_cases h3 : (l.drop a).length < 8
          · rw [if_pos h3] at h; cases h
          · rw [if_neg h3] at h; injection h with h; injection h with _ h; rw [← h]; simp only [List.length_drop] at *; omega
        · rw [if_neg h2] at h
          by_cases h3 : k % 8 = 5
          · rw [if_pos h3] at h
            by_cases h4 : (l.drop a).length < 4
            · rw [if_pos h4] at h; cases h
            · rw [if_neg h4] at h; injection h with h; injection h with _ h; rw [← h]; simp only [List.length_drop] at *; omega
          · rw [if_neg h3] at h
            by_cases h4 : k % 8 = 2
            · rw [if_pos h4] at h
              cases hr2 : rd (l.drop a) with
              | none => rw [hr2] at h; cases h
              | some y =>
                obtain ⟨m, b⟩ := y
                rw [hr2] at h
                simp only at h
                by_cases h5 : ((l.drop a).drop b).length < m
                · rw [if_pos h5] at h; cases h
                · rw [if_neg h5] at h; injection h with h; injection h with _ h; rw [← h]; simp only [List.length_drop] at *; omega
            · rw [if_neg h4] at h; cases h

/-- all fields of a text -/
def parse (l : List UInt8) : Except Nat (List Fd) :=
  if _h0 : l = [] then .ok [] else
  match _h : parse1 l with
  | .error e => .error e
  | .ok (f, r) => if _hl : r.length < l.length then (match parse r with | .error e => .error e | .ok fs => .ok (f :: fs)) else .error 0
termination_by l.length
decreasing_by exact _hl
theorem parse_nil : parse [] = .ok [] := by rw [parse, dif_pos rfl]
theorem parse_err {l : List UInt8} {e : Nat} (h0 : l ≠ []) (h : parse1 l = .error e) : parse l = .error e := by
  rw [parse, dif_neg h0]
  split
  · rename_i e' h'; rw [h] at h'; injection h' with h'; rw [h']
  · rename_i h'; rw [h] at h'; cases h'
theorem parse_ok {l : List UInt8} {f : Fd} {r : List UInt8} (h0 : l ≠ []) (h : parse1 l = .ok (f, r)) : parse l = (match parse r with | .error e => .error e | .ok fs => .ok (f :: fs)) := by
  rw [parse, dif_neg h0]
  split
  · rename_i e' h'; rw [h] at h'; cases h'
  · rename_i f' r' h'
    rw [h] at h'
    injection h' with h'
    injection h' with h1 h2
    subst h1 h2
    rw [dif_pos (parse1_len h)]
/-- fields ahead of what is still to be parsed -/
def ahead (acc : List Fd) : Except Nat (List Fd) → Except Nat (List Fd)
  | .error e => .error e
  | .ok fs => .ok (acc ++ fs)
theorem ahead_nil (x : Except Nat (List Fd)) : ahead [] x = x := by cases x <;> rfl
theorem ahead_ok {l : List UInt8} {f : Fd} {r : List UInt8} (acc : List Fd) (h0 : l ≠ []) (h : parse1 l = .ok (f, r)) : ahead acc (parse l) = ahead (acc ++ [f]) (parse r) := by
  rw [parse_ok h0 h]
  cases parse r <;> simp [ahead]
theorem ahead_err {l : List UInt8} {e : Nat} (acc : List Fd) (h0 : l ≠ []) (h : parse1 l = .error e) : ahead acc (parse l) = .error e := by rw [parse_err h0 h]; rfl
theorem ahead_end (acc : List Fd) : ahead acc (parse []) = .ok acc := by rw [parse_nil]; simp [ahead]
end Go.Proofs.Ytnnnnlcpmocnfaa.M
