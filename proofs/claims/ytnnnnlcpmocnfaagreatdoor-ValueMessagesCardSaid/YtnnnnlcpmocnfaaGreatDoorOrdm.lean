/- PLAIN MATHEMATICS OF FLOATS: every datum that is no NaN is a whole number (its value times 2^1074), and the order is that of whole numbers; no program is imported. -/
import Ieee.Arith
namespace Go.Proofs.YtnnnnlcpmocnfaaGreatDoor.F
open Ieee

def E : Nat := 1074
def B : Nat := 3000
theorem E_eq : E = 1074 := rfl
theorem B_eq : B = 3000 := rfl
attribute [irreducible] E B
def up (i : Int) : Nat := (i + 1074).toNat
def big : Nat := 2 ^ B
def val : Datum → Int
  | .number s m i => if s then -((m * 2 ^ up i : Nat) : Int) else ((m * 2 ^ up i : Nat) : Int)
  | .infinity s => if s then -(big : Int) else (big : Int)
  | .nan _ _ => 0
theorem val_num (s : Bool) (m : Nat) (i : Int) : val (.number s m i) = if s then -((m * 2 ^ up i : Nat) : Int) else ((m * 2 ^ up i : Nat) : Int) := rfl
def Good : Datum → Prop
  | .number _ m i => -1074 ≤ i ∧ m * 2 ^ up i < big
  | _ => True
theorem big_pos : (0 : Int) < (big : Int) := by
  have : 0 < big := Nat.pow_pos (by decide)
  omega
theorem cmp_int (x y : Int) : compare x y = if x < y then .lt else if x = y then .eq else .gt := rfl
theorem cmp_lt {x y : Int} (h : x < y) : compare x y = .lt := by rw [cmp_int, if_pos h]
theorem cmp_gt {x y : Int} (h : y < x) : compare x y = .gt := by rw [cmp_int, if_neg (by omega), if_neg (by omega)]
theorem cmp_eq (x : Int) : compare x x = .eq := by rw [cmp_int, if_neg (by omega), if_pos rfl]
theorem cmp_mul {p : Int} (hp : 0 < p) (x y : Int) : compare (x * p) (y * p) = compare x y := by
  rcases Int.lt_trichotomy x y with h | h | h
  · rw [cmp_lt h, cmp_lt (Int.mul_lt_mul_of_pos_right h hp)]
  · subst h; rw [cmp_eq, cmp_eq]
  · rw [cmp_gt h, cmp_gt (Int.mul_lt_mul_of_pos_right h hp)]
theorem signed_val (s : Bool) (m : Nat) (i base : Int) (hb : -1074 ≤ base) (hi : base ≤ i) : val (.number s m i) = signed s m (i - base).toNat * ((2 ^ up base : Nat) : Int) := by
  have hu : up i = (i - base).toNat + up base := by unfold up; omega
  unfold signed
  rw [val_num, hu, Nat.pow_add, ← Nat.mul_assoc, Nat.shiftLeft_eq]
  cases s <;> simp [Int.neg_mul]
theorem pow_pos' (k : Nat) : (0 : Int) < ((2 ^ k : Nat) : Int) := by
  have : 0 < 2 ^ k := Nat.pow_pos (by decide)
  omega
theorem val_bd {d : Datum} (h : Good d) : ∀ s m i, d = .number s m i → -(big : Int) < val d ∧ val d < (big : Int) := by
  rintro s m i rfl
  obtain ⟨_, h⟩ := h
  have h2 : ((m * 2 ^ up i : Nat) : Int) < (big : Int) := by exact Int.ofNat_lt.2 h
  have h3 : (0 : Int) ≤ ((m * 2 ^ up i : Nat) : Int) := Int.natCast_nonneg _
  rw [val_num]
  cases s <;> simp only [Bool.false_eq_true, if_true, if_false] <;> omega
theorem order_val {d e : Datum} (hd : Good d) (he : Good e) (nd : d.isNaN = false) (ne : e.isNaN = false) : d.order e = some (compare (val d) (val e)) := by
  have hB := big_pos
  cases d with
  | nan s f => cases nd
  | infinity s =>
    cases e with
    | nan => cases ne
    | infinity t =>
      cases s <;> cases t <;> simp only [Datum.order, val, Bool.false_eq_true, if_true, if_false]
      · rw [cmp_eq]; rfl
      · rw [cmp_gt (by omega)]; rfl
      · rw [cmp_lt (by omega)]; rfl
      · rw [cmp_eq]; rfl
    | number t n j =>
      have hb := val_bd he t n j rfl
      cases s
      · rw [show val (.infinity false) = (big : Int) from rfl, cmp_gt hb.2]; rfl
      · rw [show val (.infinity true) = -(big : Int) from rfl, cmp_lt hb.1]; rfl
  | number s m i =>
    cases e with
    | nan => cases ne
    | infinity t =>
      have hb := val_bd hd s m i rfl
      cases t
      · rw [show val (.infinity false) = (big : Int) from rfl, cmp_lt hb.2]; rfl
      · rw [show val (.infinity true) = -(big : Int) from rfl, cmp_gt hb.1]; rfl
    | number t n j =>
      have hm : -1074 ≤ min i j := by have := hd.1; have := he.1; omega
      rw [signed_val s m i (min i j) hm (by omega), signed_val t n j (min i j) hm (by omega), cmp_mul (pow_pos' _)]
      rfl

/-- what a double reads as -/
def Rd : Datum → Prop
  | .number _ m i => (m < 2 ^ 52 ∧ i = -1074) ∨ (2 ^ 52 ≤ m ∧ m < 2 ^ 53 ∧ -1074 ≤ i ∧ i ≤ 971)
  | _ => True
theorem read_rd (w : Nat) : Rd (double.read w) := by
  have hb : double.binade = 4503599627370496 := rfl
  have hl : double.leastPlace = -1074 := rfl
  have hi : double.infRung = 2047 * 4503599627370496 := rfl
  unfold Format.read
  rw [hb, hl, hi]
  simp only
  generalize w % double.signWeight = rung
  generalize (w / double.signWeight % 2 == 1) = neg
  by_cases h1 : rung < 4503599627370496
  · rw [if_pos h1]; exact .inl ⟨by simpa using h1, rfl⟩
  · rw [if_neg h1]
    by_cases h2 : rung < 2047 * 4503599627370496
    · rw [if_pos h2]
      refine .inr ⟨?_, ?_, ?_, ?_⟩ <;> first | omega | (simp only [Nat.reducePow]; omega)
    · rw [if_neg h2]
      by_cases h3 : rung = 2047 * 4503599627370496
      · rw [if_pos h3]; trivial
      · rw [if_neg h3]; trivial
theorem rd_good {d : Datum} (h : Rd d) : Good d := by
  cases d with
  | nan => trivial
  | infinity => trivial
  | number s m i =>
    have key : ∀ u, m < 2 ^ 53 → u ≤ 2045 → m * 2 ^ u < big := fun u hm hu => by
      calc m * 2 ^ u < 2 ^ 53 * 2 ^ u := Nat.mul_lt_mul_of_pos_right hm (Nat.pow_pos (by decide))
        _ = 2 ^ (53 + u) := (Nat.pow_add 2 53 u).symm
        _ ≤ 2 ^ B := Nat.pow_le_pow_right (by decide) (by rw [B_eq]; omega)
    rcases h with ⟨h1, h2⟩ | ⟨h1, h2, h3, h4⟩
    · refine ⟨by omega, key _ ?_ (by unfold up; omega)⟩
      have : 2 ^ 52 < 2 ^ 53 := Nat.pow_lt_pow_right (by decide) (by decide)
      omega
    · exact ⟨h3, key _ h2 (by unfold up; omega)⟩

/-- a whole number as a datum -/
def D (n : Int) : Datum := .number (n < 0) n.natAbs 0
def P : Nat := 2 ^ E
theorem up0 : up 0 = E := by rw [E_eq]; rfl
theorem val_D (n : Int) : val (D n) = n * (P : Int) := by
  unfold D P
  rw [val_num, up0]
  by_cases h : n < 0
  · simp only [decide_eq_true h, if_true]
    rw [Int.natCast_mul]
    have : ((n.natAbs : Nat) : Int) = -n := by omega
    rw [this, Int.neg_mul, Int.neg_neg]
  · simp only [decide_eq_false h, Bool.false_eq_true, if_false]
    rw [Int.natCast_mul]
    have : ((n.natAbs : Nat) : Int) = n := by omega
    rw [this]

/-- cut towards zero: the sign, and the size whole -/
def tsize : Datum → Nat
  | .number _ m i => (m <<< i.toNat) / 2 ^ ((-i).toNat)
  | _ => 0
theorem P_pos : (0 : Int) < (P : Int) := pow_pos' E
theorem cut_zero (s : Bool) (n drop : Nat) : Toward.zero.cut s n drop = n / 2 ^ drop := by
  unfold Toward.cut
  simp only [Bool.toNat_false, Nat.add_zero, Nat.one_shiftLeft]
  by_cases h : drop ≤ n.log2 + 2
  · rw [Nat.min_eq_left h]
  · rw [Nat.min_eq_right (by omega)]
    have h1 : n < 2 ^ (n.log2 + 2) := by
      have := Nat.lt_log2_self (n := n)
      exact Nat.lt_of_lt_of_le this (Nat.pow_le_pow_right (by decide) (by omega))
    have h2 : n < 2 ^ drop := Nat.lt_of_lt_of_le h1 (Nat.pow_le_pow_right (by decide) (by omega))
    rw [Nat.div_eq_of_lt h1, Nat.div_eq_of_lt h2]
def whole (d : Datum) : Int := if d.neg then -(tsize d : Int) else (tsize d : Int)
theorem toInt_some {d : Datum} (s : Bool) (m : Nat) (i : Int) (e : d = .number s m i) : d.toInt .zero = some (whole d) := by
  subst e
  unfold Datum.toInt Datum.integral whole tsize Datum.neg signed
  simp only [cut_zero, Nat.shiftLeft_zero]
/-- what is cut off is less than one -/
theorem whole_near {s : Bool} {m : Nat} {i : Int} (hi : -1074 ≤ i) : ∃ z r : Nat, tsize (.number s m i) = z ∧ m * 2 ^ up i = z * P + r ∧ r < P := by
  refine ⟨_, (m * 2 ^ up i) % P, rfl, ?_, Nat.mod_lt _ (Nat.pow_pos (by decide))⟩
  have key : (m <<< i.toNat) / 2 ^ ((-i).toNat) = m * 2 ^ up i / P := by
    rw [Nat.shiftLeft_eq]
    unfold P up
    by_cases h : 0 ≤ i
    · have h1 : (-i).toNat = 0 := by omega
      have h2 : (i + 1074).toNat = i.toNat + E := by rw [E_eq]; omega
      rw [h1, h2, Nat.pow_add, ← Nat.mul_assoc, Nat.pow_zero, Nat.div_one, Nat.mul_div_cancel _ (Nat.pow_pos (by decide))]
    · have h1 : i.toNat = 0 := by omega
      have h2 : E = (i + 1074).toNat + (-i).toNat := by rw [E_eq]; omega
      rw [h1, Nat.pow_zero, Nat.mul_one]
      conv => rhs; arg 2; rw [h2, Nat.pow_add]
      rw [Nat.mul_comm (2 ^ (i + 1074).toNat), Nat.mul_div_mul_right _ _ (Nat.pow_pos (by decide))]
  show m * 2 ^ up i = (m <<< i.toNat) / 2 ^ ((-i).toNat) * P + _
  rw [key, Nat.mul_comm _ P]
  exact (Nat.div_add_mod _ _).symm
/-- an int against what a float is cut to -/
theorem cmp_whole {s : Bool} {m : Nat} {i : Int} (hi : -1074 ≤ i) (n : Int) (hn : n ≠ whole (.number s m i)) :
    compare n (whole (.number s m i)) = compare (n * (P : Int)) (val (.number s m i)) := by
  obtain ⟨z, r, h1, h2, h3⟩ := whole_near (s := s) (m := m) hi
  have hw : whole (.number s m i) = if s then -(z : Int) else (z : Int) := by unfold whole; rw [h1]; rfl
  have hv : val (.number s m i) = if s then -((z : Int) * P + r) else ((z : Int) * P + r) := by
    rw [val_num, h2]; simp only [Int.natCast_add, Int.natCast_mul]
  rw [hw] at hn
  rw [hw, hv]
  have hP := P_pos
  have hr : (r : Int) < (P : Int) := by exact Int.ofNat_lt.2 h3
  have hr0 : (0 : Int) ≤ (r : Int) := Int.natCast_nonneg _
  generalize (P : Int) = p at *
  have hz0 : (0 : Int) ≤ (z : Int) := Int.natCast_nonneg _
  generalize (z : Int) = y at *
  generalize (r : Int) = t at *
  have mono : ∀ a b : Int, a + 1 ≤ b → a * p + p ≤ b * p := fun a b h => by
    have := Int.mul_le_mul_of_nonneg_right h (Int.le_of_lt hP)
    rw [Int.add_mul, Int.one_mul] at this
    exact this
  cases s
  · simp only [Bool.false_eq_true, if_false] at hn ⊢
    rcases Int.lt_trichotomy n y with h | h | h
    · have := mono n y h
      rw [cmp_lt h, cmp_lt (by omega)]
    · exact absurd h hn
    · have := mono y n h
      rw [cmp_gt h, cmp_gt (by omega)]
  · simp only [if_true] at hn ⊢
    have hneg : -(y * p + t) = (-y) * p - t := by rw [Int.neg_mul]; omega
    rw [hneg]
    generalize -y = x at *
    rcases Int.lt_trichotomy n x with h | h | h
    · have := mono n x h
      rw [cmp_lt h, cmp_lt (by omega)]
    · exact absurd h hn
    · have := mono x n h
      rw [cmp_gt h, cmp_gt (by omega)]

/-- a word whose rung lies in a binade -/
theorem read_word (s : Bool) (k kept : Nat) (h1 : 2 ^ 52 ≤ kept) (h2 : kept < 2 ^ 53) (hk : k ≤ 2045) :
    double.read (double.word s (k * 2 ^ 52 + kept)) = .number s kept ((k : Int) - 1074) := by
  have hb : double.binade = 4503599627370496 := rfl
  have hl : double.leastPlace = -1074 := rfl
  have hi : double.infRung = 2047 * 4503599627370496 := rfl
  have hs : double.signWeight = 9223372036854775808 := rfl
  have hw : double.word s (k * 2 ^ 52 + kept) = (if s then 9223372036854775808 else 0) + (k * 2 ^ 52 + kept) := by
    unfold Format.word; rw [hs]; cases s <;> simp
  simp only [Nat.reducePow] at h1 h2 hw ⊢
  unfold Format.read
  rw [hb, hl, hi, hs, hw]
  simp only
  have e1 : ((if s then 9223372036854775808 else 0) + (k * 4503599627370496 + kept)) % 9223372036854775808 = k * 4503599627370496 + kept := by
    cases s <;> simp only [Bool.false_eq_true, if_true, if_false] <;> omega
  have e2 : (((if s then 9223372036854775808 else 0) + (k * 4503599627370496 + kept)) / 9223372036854775808 % 2 == 1) = s := by
    cases s
    · have : (0 + (k * 4503599627370496 + kept)) / 9223372036854775808 % 2 = 0 := by omega
      simp only [Bool.false_eq_true, if_false, this]; rfl
    · have : (9223372036854775808 + (k * 4503599627370496 + kept)) / 9223372036854775808 % 2 = 1 := by omega
      simp only [if_true, this]; rfl
  rw [e1, e2, if_neg (by omega), if_pos (by omega)]
  have e3 : (k * 4503599627370496 + kept) % 4503599627370496 = kept - 4503599627370496 := by omega
  have e4 : (k * 4503599627370496 + kept) / 4503599627370496 - 1 = k := by omega
  rw [e3, e4]
  have e5 : 4503599627370496 + (kept - 4503599627370496) = kept := by omega
  have e6 : (-1074 : Int) + ((k : Nat) : Int) = (k : Int) - 1074 := by omega
  rw [e5, e6]
theorem cut_even0 (s : Bool) (n : Nat) : Toward.even.cut s n 0 = n := by
  unfold Toward.cut
  simp [Nat.mod_one]
theorem cut_even (s : Bool) (m i : Nat) (hm : 2 ^ 52 ≤ m) : Toward.even.cut s (m * 2 ^ i) i = m := by
  unfold Toward.cut
  have hl : i ≤ (m * 2 ^ i).log2 + 2 := by
    have h : 2 ^ i ≤ m * 2 ^ i := Nat.le_mul_of_pos_left _ (by omega)
    have h0 : m * 2 ^ i ≠ 0 := by have : 0 < 2 ^ i := Nat.pow_pos (by decide); omega
    have := (Nat.le_log2 h0).2 h
    omega
  rw [Nat.min_eq_left hl, Nat.one_shiftLeft]
  have hp : 0 < 2 ^ i := Nat.pow_pos (by decide)
  simp only [Nat.mul_mod_left, Nat.mul_div_cancel _ hp, Nat.mul_zero, Nat.not_lt_zero, decide_false, Bool.false_or]
  have : (2 ^ i == 0) = false := beq_false_of_ne (by omega)
  simp [this]
/-- an int that a float can be is that float, exactly -/
theorem exact (s : Bool) (mag : Nat) (h : mag < 2 ^ 53 ∨ ∃ m i, mag = m * 2 ^ i ∧ 2 ^ 52 ≤ m ∧ m < 2 ^ 53 ∧ i ≤ 11) :
    ∃ t m i, double.read (double.nearest s mag 0) = .number t m i ∧ -1074 ≤ i ∧ val (.number t m i) = val (.number s mag 0) ∧ Rd (.number t m i) := by
  by_cases h0 : mag = 0
  · subst h0
    refine ⟨s, 0, -1074, ?_, by omega, ?_, .inl ⟨by decide, rfl⟩⟩
    · unfold Format.nearest; rw [if_pos rfl]; cases s <;> rfl
    · rw [val_num, val_num]; simp
  · have hf : ((double.fractionBits : Nat) : Int) = 52 := rfl
    have hl : double.leastPlace = -1074 := rfl
    have hb : double.binade = 2 ^ 52 := rfl
    have hi : double.infRung = 2047 * 2 ^ 52 := rfl
    have hu : up 0 = E := up0
    have fin : ∀ (k kept : Nat), 2 ^ 52 ≤ kept → kept < 2 ^ 53 → k ≤ 2045 → kept * 2 ^ k = mag * 2 ^ E →
        double.nearest s mag 0 = double.word s (k * 2 ^ 52 + kept) →
        ∃ t m i, double.read (double.nearest s mag 0) = .number t m i ∧ -1074 ≤ i ∧ val (.number t m i) = val (.number s mag 0) ∧ Rd (.number t m i) := fun k kept a1 a2 a3 a4 a5 => by
      have hup : up ((k : Int) - 1074) = k := by unfold up; omega
      refine ⟨s, kept, (k : Int) - 1074, ?_, by omega, ?_, .inr ⟨a1, a2, by omega, by omega⟩⟩
      · rw [a5, read_word s k kept a1 a2 a3]
      · rw [val_num, val_num, hup, hu, a4]
    rcases h with h | ⟨m, i, h1, h2, h3, h4⟩
    · have hL : mag.log2 ≤ 52 := by
        have := (Nat.log2_lt h0).2 h
        omega
      have hlo := Nat.log2_self_le h0
      have hhi := Nat.lt_log2_self (n := mag)
      have ek : 2 ^ (52 - mag.log2) * 2 ^ mag.log2 = 2 ^ 52 := by rw [← Nat.pow_add]; congr 1; omega
      refine fin (1022 + mag.log2) (mag * 2 ^ (52 - mag.log2)) ?_ ?_ (by omega) ?_ ?_
      · rw [← ek, Nat.mul_comm (2 ^ (52 - mag.log2))]
        exact Nat.mul_le_mul_right _ hlo
      · have : 2 ^ 53 = 2 ^ (mag.log2 + 1) * 2 ^ (52 - mag.log2) := by rw [← Nat.pow_add]; congr 1; omega
        rw [this]
        exact Nat.mul_lt_mul_of_pos_right hhi (Nat.pow_pos (by decide))
      · have he : 52 - mag.log2 + (1022 + mag.log2) = E := by rw [E_eq]; omega
        rw [Nat.mul_assoc, ← Nat.pow_add, he]
      · unfold Format.nearest
        rw [if_neg h0, hf, hl, hb, hi]
        simp only
        have hlast : max ((0 : Int) + (mag.log2 : Int) - 52) (-1074) = (mag.log2 : Int) - 52 := by omega
        rw [hlast]
        have d1 : ((0 : Int) - ((mag.log2 : Int) - 52)).toNat = 52 - mag.log2 := by omega
        have d2 : ((mag.log2 : Int) - 52 - 0).toNat = 0 := by omega
        have d3 : ((mag.log2 : Int) - 52 - -1074).toNat = 1022 + mag.log2 := by omega
        rw [d1, d2, d3, cut_even0, Nat.shiftLeft_eq]
        have hk : mag * 2 ^ (52 - mag.log2) < 2 ^ 53 := by
          have : 2 ^ 53 = 2 ^ (mag.log2 + 1) * 2 ^ (52 - mag.log2) := by rw [← Nat.pow_add]; congr 1; omega
          rw [this]
          exact Nat.mul_lt_mul_of_pos_right hhi (Nat.pow_pos (by decide))
        generalize mag * 2 ^ (52 - mag.log2) = q at *
        rw [Nat.min_eq_left (by simp only [Nat.reducePow] at hk ⊢; omega)]
    · have hp : 0 < 2 ^ i := Nat.pow_pos (by decide)
      have hL : mag.log2 = 52 + i := by
        have a : 52 + i ≤ mag.log2 := (Nat.le_log2 h0).2 (by rw [h1, Nat.pow_add]; exact Nat.mul_le_mul_right _ h2)
        have b : mag.log2 < 53 + i := (Nat.log2_lt h0).2 (by rw [h1, Nat.pow_add]; exact Nat.mul_lt_mul_of_pos_right h3 hp)
        omega
      refine fin (1074 + i) m h2 h3 (by omega) ?_ ?_
      · have he : 1074 + i = i + E := by rw [E_eq]; omega
        rw [h1, he, Nat.pow_add, Nat.mul_assoc]
      · unfold Format.nearest
        rw [if_neg h0, hf, hl, hb, hi, hL]
        simp only
        have hlast : max ((0 : Int) + ((52 + i : Nat) : Int) - 52) (-1074) = (i : Int) := by omega
        rw [hlast]
        have d1 : ((0 : Int) - (i : Int)).toNat = 0 := by omega
        have d2 : ((i : Int) - 0).toNat = i := by omega
        have d3 : ((i : Int) - -1074).toNat = 1074 + i := by omega
        rw [d1, d2, d3, Nat.shiftLeft_zero, h1, cut_even s m i h2]
        rw [Nat.min_eq_left (by simp only [Nat.reducePow] at h3 ⊢; omega)]
/-- what a float is cut to is a float again -/
theorem exact_whole (s : Bool) (m : Nat) (i : Int) (h : Rd (.number s m i)) (hi : i ≤ 11) (neg : Bool) :
    ∃ t m' i', double.read (double.nearest neg (tsize (.number s m i)) 0) = .number t m' i' ∧ -1074 ≤ i' ∧ val (.number t m' i') = val (.number neg (tsize (.number s m i)) 0) ∧ Rd (.number t m' i') := by
  apply exact
  have ht : tsize (.number s m i) = (m <<< i.toNat) / 2 ^ ((-i).toNat) := rfl
  rw [ht, Nat.shiftLeft_eq]
  have hm : m < 2 ^ 53 := by
    rcases h with ⟨h1, _⟩ | ⟨_, h2, _⟩
    · have : 2 ^ 52 < 2 ^ 53 := Nat.pow_lt_pow_right (by decide) (by decide)
      omega
    · exact h2
  by_cases hz : i ≤ 0
  · left
    have : i.toNat = 0 := by omega
    rw [this, Nat.pow_zero, Nat.mul_one]
    exact Nat.lt_of_le_of_lt (Nat.div_le_self _ _) hm
  · right
    rcases h with ⟨_, h2⟩ | ⟨h1, h2, h3, h4⟩
    · omega
    · refine ⟨m, i.toNat, ?_, h1, h2, by omega⟩
      have : (-i).toNat = 0 := by omega
      rw [this, Nat.pow_zero, Nat.div_one]

def T63 : Int := 9223372036854775808
def hiD : Datum := .number false 4503599627370496 11
def loD : Datum := .number true 4503599627370496 11
theorem p63 : 4503599627370496 * 2 ^ up 11 = 9223372036854775808 * P := by
  have : up 11 = 11 + E := by rw [E_eq]; rfl
  have h2 : 4503599627370496 * 2 ^ 11 = 9223372036854775808 := by decide
  rw [this, Nat.pow_add, ← Nat.mul_assoc, h2]
  rfl
theorem val_hi : val hiD = T63 * (P : Int) := by
  unfold hiD
  rw [val_num, p63, Int.natCast_mul]
  rfl
theorem val_lo : val loD = -T63 * (P : Int) := by
  unfold loD
  rw [val_num, p63, Int.natCast_mul, if_pos rfl, Int.neg_mul]
  rfl
theorem rd_hi : Rd hiD := .inr ⟨by decide, by decide, by decide, by decide⟩
theorem rd_lo : Rd loD := .inr ⟨by decide, by decide, by decide, by decide⟩
theorem order_rd {d e : Datum} (hd : Rd d) (he : Rd e) (nd : d.isNaN = false) (ne : e.isNaN = false) : d.order e = some (compare (val d) (val e)) := order_val (rd_good hd) (rd_good he) nd ne
theorem T63_big : T63 * (P : Int) < (big : Int) := by
  have : (9223372036854775808 * P : Nat) < big := by
    unfold P big
    have h63 : 9223372036854775808 = 2 ^ 63 := by decide
    calc 9223372036854775808 * 2 ^ E = 2 ^ 63 * 2 ^ E := by rw [h63]
      _ = 2 ^ (63 + E) := (Nat.pow_add 2 63 E).symm
      _ < 2 ^ B := Nat.pow_lt_pow_right (by decide) (by rw [E_eq, B_eq]; decide)
  have h := Int.ofNat_lt.2 this
  rw [Int.natCast_mul] at h
  exact h
/-- a float between the two ends is a number, and cuts to an int64 -/
theorem between {d : Datum} (hd : Rd d) (nn : d.isNaN = false) (h1 : val d < T63 * (P : Int)) (h2 : -T63 * (P : Int) ≤ val d) :
    ∃ s m i, d = .number s m i ∧ i ≤ 11 ∧ -1074 ≤ i ∧ -9223372036854775808 ≤ whole d ∧ whole d ≤ 9223372036854775807 := by
  have hB := T63_big
  have hP := P_pos
  cases d with
  | nan => cases nn
  | infinity s =>
    exfalso
    rw [Int.neg_mul] at h2
    cases s
    · have : val (.infinity false) = (big : Int) := rfl
      rw [this] at h1
      omega
    · have : val (.infinity true) = -(big : Int) := rfl
      rw [this] at h2
      omega
  | number s m i =>
    have hi : -1074 ≤ i := by rcases hd with ⟨_, h⟩ | ⟨_, _, h, _⟩ <;> omega
    obtain ⟨z, r, e1, e2, e3⟩ := whole_near (s := s) (m := m) hi
    have hw : whole (.number s m i) = if s then -(z : Int) else (z : Int) := by unfold whole; rw [e1]; rfl
    have hv : val (.number s m i) = if s then -((z : Int) * P + r) else ((z : Int) * P + r) := by
      rw [val_num, e2]; simp only [Int.natCast_add, Int.natCast_mul]
    have hr0 : (0 : Int) ≤ (r : Int) := Int.natCast_nonneg _
    refine ⟨s, m, i, rfl, ?_, hi, ?_⟩
    · rcases hd with ⟨_, h⟩ | ⟨a1, a2, a3, a4⟩
      · omega
      · refine Int.not_lt.1 fun hgt => ?_
        have hup : up i = 12 + E + (i - 12).toNat := by unfold up; rw [E_eq]; omega
        have big1 : 2 * (9223372036854775808 * P) ≤ m * 2 ^ up i := by
          rw [hup, Nat.pow_add, Nat.pow_add]
          have q : 2 * (9223372036854775808 * P) = 2 ^ 52 * (2 ^ 12 * 2 ^ E * 1) := by
            have h64 : 2 * 9223372036854775808 = 2 ^ 52 * 2 ^ 12 := by decide
            unfold P
            rw [Nat.mul_one, ← Nat.mul_assoc, ← Nat.mul_assoc, h64]
          rw [q]
          exact Nat.mul_le_mul a1 (Nat.mul_le_mul_left _ (Nat.pow_pos (by decide)))
        have big2 : 2 * (T63 * (P : Int)) ≤ ((m * 2 ^ up i : Nat) : Int) := by
          have h := Int.ofNat_le.2 big1
          rw [Int.natCast_mul 2, Int.natCast_mul] at h
          exact h
        rw [val_num] at h1 h2
        rw [Int.neg_mul] at h2
        have hT : 0 < T63 * (P : Int) := Int.mul_pos (by decide) hP
        cases s
        · simp only [Bool.false_eq_true, if_false] at h1
          omega
        · simp only [if_true] at h2
          omega
    · rw [hw]
      rw [hv] at h1 h2
      have lt_of : ∀ a b : Int, a * (P : Int) < b * (P : Int) → a < b := fun a b h => Int.lt_of_mul_lt_mul_right h (Int.le_of_lt hP)
      have le_of : ∀ a b : Int, a * (P : Int) ≤ b * (P : Int) → a ≤ b := fun a b h => Int.le_of_mul_le_mul_right h hP
      unfold T63 at *
      cases s
      · simp only [Bool.false_eq_true, if_false] at h1 h2 ⊢
        have := lt_of z 9223372036854775808 (by omega)
        omega
      · simp only [if_true] at h1 h2 ⊢
        have := le_of z 9223372036854775808 (by rw [Int.neg_mul] at h2; omega)
        omega
/-- the same int as a float: its value is the int's -/
theorem same_whole {s : Bool} {m : Nat} {i : Int} (h : Rd (.number s m i)) (hi : i ≤ 11) :
    ∃ e, double.read (double.write (.number (decide (whole (.number s m i) < 0)) (whole (.number s m i)).natAbs 0)) = e ∧ Rd e ∧ e.isNaN = false ∧ val e = whole (.number s m i) * (P : Int) := by
  have hn : (whole (.number s m i)).natAbs = tsize (.number s m i) := by
    unfold whole; split <;> omega
  obtain ⟨t, m', i', e1, _, e3, e4⟩ := exact_whole s m i h hi (decide (whole (.number s m i) < 0))
  refine ⟨.number t m' i', ?_, e4, rfl, ?_⟩
  · rw [← e1, ← hn]
    rfl
  · rw [e3, ← hn]
    exact val_D _
end Go.Proofs.YtnnnnlcpmocnfaaGreatDoor.F
