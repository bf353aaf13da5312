/- THE ORDER'S LAWS: cmpV TURNS ROUND, IS REFLEXIVE AT NUMBERS AND TEXTS, AND IS TRANSITIVE. -/
import Derived.Test.YtnnnnlcpmocnfaaDoorVal8
namespace Go.Proofs.YtnnnnlcpmocnfaaDoor
open Go.RowKit
set_option linter.unusedVariables false
set_option linter.unusedSimpArgs false

theorem bl_cons (a b : UInt8) (x y : List UInt8) : Op.bytesLess (a :: x) (b :: y) = true ↔ a.toNat < b.toNat ∨ (a.toNat = b.toNat ∧ Op.bytesLess x y = true) := by
  simp only [Op.bytesLess, Bool.or_eq_true, Bool.and_eq_true, decide_eq_true_eq, beq_iff_eq, UInt8.lt_iff_toNat_lt, ← UInt8.toNat_inj]
theorem bl_nil (x : List UInt8) : ¬ Op.bytesLess x [] = true := by cases x <;> simp [Op.bytesLess]
theorem bl_nil_cons (b : UInt8) (y : List UInt8) : Op.bytesLess [] (b :: y) = true := rfl
theorem bl_irrefl : ∀ x, ¬ Op.bytesLess x x = true
  | [] => bl_nil []
  | a :: x => fun h => by
    rcases (bl_cons a a x x).1 h with h | ⟨_, h⟩
    · omega
    · exact bl_irrefl x h
theorem bl_trans : ∀ x y z, Op.bytesLess x y = true → Op.bytesLess y z = true → Op.bytesLess x z = true
  | x, y, [], _, h => absurd h (bl_nil y)
  | x, [], c :: z, h, _ => absurd h (bl_nil x)
  | [], b :: y, c :: z, _, _ => rfl
  | a :: x, b :: y, c :: z, h, h' => by
    rw [bl_cons] at h h' ⊢
    rcases h with h | ⟨e, h⟩ <;> rcases h' with h' | ⟨e', h'⟩
    · exact .inl (by omega)
    · exact .inl (by omega)
    · exact .inl (by omega)
    · exact .inr ⟨by omega, bl_trans x y z h h'⟩
theorem bl_tri : ∀ x y, ¬ Op.bytesLess x y = true → x ≠ y → Op.bytesLess y x = true
  | [], [], _, h => absurd rfl h
  | [], b :: y, h, _ => absurd rfl h
  | a :: x, [], _, _ => rfl
  | a :: x, b :: y, h, h' => by
    rw [bl_cons] at h ⊢
    by_cases e : a.toNat = b.toNat
    · have e' : a = b := UInt8.toNat_inj.1 e
      subst e'
      exact .inr ⟨rfl, bl_tri x y (fun q => h (.inr ⟨rfl, q⟩)) (fun q => h' (by rw [q]))⟩
    · exact .inl (by have : ¬ a.toNat < b.toNat := fun q => h (.inl q)
                     omega)
theorem ordS_cases (x y : ByteArray) : (ordS x y = -1 ∧ Op.bytesLess x.toList y.toList = true) ∨ (ordS x y = 0 ∧ x.toList = y.toList) ∨ (ordS x y = 1 ∧ Op.bytesLess y.toList x.toList = true) := by
  unfold ordS
  by_cases h : Op.bytesLess x.toList y.toList = true
  · rw [if_pos h]; exact .inl ⟨rfl, h⟩
  · rw [if_neg h]
    by_cases h' : x.toList = y.toList
    · rw [if_pos (beq_iff_eq.2 h')]; exact .inr (.inl ⟨rfl, h'⟩)
    · rw [if_neg (fun q => h' (beq_iff_eq.1 q))]; exact .inr (.inr ⟨rfl, bl_tri _ _ h h'⟩)

/-- where a value stands: a text, or a number -/
inductive Key | text (l : List UInt8) | numb (x : Int)
def keyOf (k : Int) (s : ByteArray) (n : Int) (f : Nat) : Option Key := if k == 1 then some (.text s.toList) else (num k n f).map .numb
/-- how two stand to each other -/
inductive Rel : Int → Key → Key → Prop
  | tl {x y} : Op.bytesLess x y = true → Rel (-1) (.text x) (.text y)
  | te {x} : Rel 0 (.text x) (.text x)
  | tg {x y} : Op.bytesLess y x = true → Rel 1 (.text x) (.text y)
  | nl {x y : Int} : x < y → Rel (-1) (.numb x) (.numb y)
  | ne {x : Int} : Rel 0 (.numb x) (.numb x)
  | ng {x y : Int} : y < x → Rel 1 (.numb x) (.numb y)
theorem num_one (n : Int) (f : Nat) : num 1 n f = none := by unfold num; rw [if_neg (by decide), if_neg (by decide)]
theorem cmpV_cases (ka : Int) (sa : ByteArray) (na : Int) (fa : Nat) (kb : Int) (sb : ByteArray) (nb : Int) (fb : Nat) :
    (∃ i A B, keyOf ka sa na fa = some A ∧ keyOf kb sb nb fb = some B ∧ Rel i A B ∧ cmpV ka sa na fa kb sb nb fb = (i, true)) ∨
    (cmpV ka sa na fa kb sb nb fb = (0, false) ∧ ∀ A B i, keyOf ka sa na fa = some A → keyOf kb sb nb fb = some B → ¬ Rel i A B) := by
  unfold cmpV keyOf
  by_cases h1 : (ka == 1) = true
  · by_cases h2 : (kb == 1) = true
    · rw [if_pos h1, if_pos h2, if_pos (by rw [h1, h2]; rfl)]
      refine .inl ⟨_, _, _, rfl, rfl, ?_, rfl⟩
      rcases ordS_cases sa sb with ⟨e, h⟩ | ⟨e, h⟩ | ⟨e, h⟩ <;> rw [e]
      · exact .tl h
      · rw [h]; exact .te
      · exact .tg h
    · have hne : ¬ (ka == 1 && kb == 1) = true := fun q => h2 (Bool.and_eq_true_iff.1 q).2
      rw [if_pos h1, if_neg h2, if_neg hne]
      obtain rfl := eq_of_beq h1
      rw [num_one]
      refine .inr ⟨rfl, fun A B i hA hB hR => ?_⟩
      cases hA
      cases e : num kb nb fb with
      | none => rw [e] at hB; cases hB
      | some y => rw [e] at hB; cases hB; cases hR
  · have hne : ¬ (ka == 1 && kb == 1) = true := fun q => h1 (Bool.and_eq_true_iff.1 q).1
    rw [if_neg h1, if_neg hne]
    cases xa : num ka na fa with
    | none => exact .inr ⟨rfl, fun A B i hA hB hR => by cases hA⟩
    | some x =>
      by_cases h2 : (kb == 1) = true
      · rw [if_pos h2]
        obtain rfl := eq_of_beq h2
        rw [num_one]
        refine .inr ⟨rfl, fun A B i hA hB hR => ?_⟩
        cases hA; cases hB; cases hR
      · rw [if_neg h2]
        cases xb : num kb nb fb with
        | none => exact .inr ⟨rfl, fun A B i hA hB hR => by cases hB⟩
        | some y =>
          refine .inl ⟨_, _, _, rfl, rfl, ?_, rfl⟩
          rcases Int.lt_trichotomy x y with h | h | h
          · rw [F.cmp_lt h]; exact .nl h
          · subst h; rw [F.cmp_eq]; exact .ne
          · rw [F.cmp_gt h]; exact .ng h
theorem Rel.fn {i j : Int} {A B : Key} (h : Rel i A B) (h' : Rel j A B) : i = j := by
  cases h <;> cases h' <;> first | rfl | omega | (exfalso; first | omega | (rename_i p q; first | exact bl_irrefl _ (bl_trans _ _ _ p q) | exact bl_irrefl _ p | exact bl_irrefl _ q)) | (rename_i p; exact absurd p (bl_irrefl _))
theorem Rel.flip {i : Int} {A B : Key} (h : Rel i A B) : Rel (-i) B A := by
  cases h with
  | tl h => exact .tg h
  | te => exact .te
  | tg h => exact .tl h
  | nl h => exact .ng h
  | ne => exact .ne
  | ng h => exact .nl h
theorem Rel.same (A : Key) : Rel 0 A A := by cases A <;> constructor
theorem Rel.trans {i j : Int} {A B C : Key} (h : Rel i A B) (h' : Rel j B C) (hi : i ≤ 0) (hj : j ≤ 0) : ∃ k, Rel k A C ∧ k ≤ 0 ∧ (k < 0 ∨ i = 0 ∧ j = 0) := by
  cases h with
  | tl h =>
    cases h' with
    | tl h' => exact ⟨-1, .tl (bl_trans _ _ _ h h'), by decide, .inl (by decide)⟩
    | te => exact ⟨-1, .tl h, by decide, .inl (by decide)⟩
    | tg h' => omega
  | te =>
    cases h' with
    | tl h' => exact ⟨-1, .tl h', by decide, .inl (by decide)⟩
    | te => exact ⟨0, .te, by decide, .inr ⟨rfl, rfl⟩⟩
    | tg h' => omega
  | tg h => omega
  | nl h =>
    cases h' with
    | nl h' => exact ⟨-1, .nl (by omega), by decide, .inl (by decide)⟩
    | ne => exact ⟨-1, .nl h, by decide, .inl (by decide)⟩
    | ng h' => omega
  | ne =>
    cases h' with
    | nl h' => exact ⟨-1, .nl h', by decide, .inl (by decide)⟩
    | ne => exact ⟨0, .ne, by decide, .inr ⟨rfl, rfl⟩⟩
    | ng h' => omega
  | ng h => omega
theorem Rel.one {i : Int} {A B : Key} (h : Rel i A B) : i = -1 ∨ i = 0 ∨ i = 1 := by
  cases h <;> simp

/-- which values are numbers or texts -/
def isNum (k : Int) (f : Nat) : Bool := k == 3 || (k == 4 && FloatKind.f64.format.order f f == some .eq) || k == 1
theorem key_isNum (k : Int) (s : ByteArray) (n : Int) (f : Nat) : (keyOf k s n f).isSome = isNum k f := by
  unfold keyOf isNum num
  by_cases h1 : (k == 1) = true
  · rw [if_pos h1, h1]; simp
  · rw [if_neg h1, Bool.eq_false_iff.2 h1]
    by_cases h3 : (k == 3) = true
    · rw [if_pos h3, h3]; simp
    · rw [if_neg h3, Bool.eq_false_iff.2 h3]
      by_cases h4 : (k == 4) = true
      · rw [if_pos h4, h4]
        cases hn : (dec f).isNaN
        · rw [fo_refl f hn]; simp
        · rw [fo_nan f hn]; simp
      · rw [if_neg h4, Bool.eq_false_iff.2 h4]; simp
/-- what the law asks of the five answers -/
def lawful (x : Int) (ab : Bool) (y : Int) (ba : Bool) (z : Int) (aa num : Bool) (v : Int) (bc : Bool) (w : Int) (ac : Bool) : Prop :=
  ab = ba ∧ x = -y ∧ aa = num ∧ z = 0 ∧
    (ab = false ∨ (ab = true ∧ bc = false) ∨ (ab = true ∧ bc = true ∧ x = 1) ∨ (ab = true ∧ bc = true ∧ (x = -1 ∨ x = 0) ∧ v = 1) ∨
      (ab = true ∧ bc = true ∧ ac = true ∧ ((x = -1 ∧ (v = -1 ∨ v = 0) ∧ w = -1) ∨ (x = 0 ∧ v = -1 ∧ w = -1) ∨ (x = 0 ∧ v = 0 ∧ w = 0)))) ∧
    (x = -1 ∨ x = 0 ∨ x = 1)
theorem cmpV_some {ka : Int} {sa : ByteArray} {na : Int} {fa : Nat} {kb : Int} {sb : ByteArray} {nb : Int} {fb : Nat} {A B : Key} {i : Int} (hA : keyOf ka sa na fa = some A) (hB : keyOf kb sb nb fb = some B) (hR : Rel i A B) :
    cmpV ka sa na fa kb sb nb fb = (i, true) := by
  rcases cmpV_cases ka sa na fa kb sb nb fb with ⟨j, A', B', h1, h2, h3, h4⟩ | ⟨_, h⟩
  · rw [hA] at h1; rw [hB] at h2
    cases h1; cases h2
    rw [h4, hR.fn h3]
  · exact absurd hR (h A B i hA hB)
theorem cmpV_lawful (ka : Int) (sa : ByteArray) (na : Int) (fa : Nat) (kb : Int) (sb : ByteArray) (nb : Int) (fb : Nat) (kc : Int) (sc : ByteArray) (nc : Int) (fc : Nat) :
    lawful (cmpV ka sa na fa kb sb nb fb).1 (cmpV ka sa na fa kb sb nb fb).2 (cmpV kb sb nb fb ka sa na fa).1 (cmpV kb sb nb fb ka sa na fa).2 (cmpV ka sa na fa ka sa na fa).1 (cmpV ka sa na fa ka sa na fa).2 (isNum ka fa)
      (cmpV kb sb nb fb kc sc nc fc).1 (cmpV kb sb nb fb kc sc nc fc).2 (cmpV ka sa na fa kc sc nc fc).1 (cmpV ka sa na fa kc sc nc fc).2 := by
  have hself : cmpV ka sa na fa ka sa na fa = (0, isNum ka fa) := by
    rw [← key_isNum ka sa na fa]
    cases hk : keyOf ka sa na fa with
    | some A => exact cmpV_some hk hk (.same A)
    | none =>
      rcases cmpV_cases ka sa na fa ka sa na fa with ⟨j, A', B', h1, _⟩ | ⟨h, _⟩
      · rw [hk] at h1; cases h1
      · exact h
  rw [hself]
  rcases cmpV_cases ka sa na fa kb sb nb fb with ⟨i, A, B, hA, hB, hR, e⟩ | ⟨e, hn⟩
  · have e' := cmpV_some hB hA hR.flip
    rw [e, e']
    refine ⟨rfl, (Int.neg_neg i).symm, rfl, rfl, ?_, hR.one⟩
    rcases cmpV_cases kb sb nb fb kc sc nc fc with ⟨j, B', C, hB', hC, hR', e2⟩ | ⟨e2, _⟩
    · rw [hB] at hB'
      cases hB'
      rw [e2]
      have hi := hR.one
      have hj := hR'.one
      by_cases hi1 : i = 1
      · exact .inr (.inr (.inl ⟨rfl, rfl, hi1⟩))
      · by_cases hj1 : j = 1
        · exact .inr (.inr (.inr (.inl ⟨rfl, rfl, by omega, hj1⟩)))
        · obtain ⟨k, hk, k0, hk'⟩ := hR.trans hR' (by omega) (by omega)
          rw [cmpV_some hA hC hk]
          have hk1 := hk.one
          refine .inr (.inr (.inr (.inr ⟨rfl, rfl, rfl, ?_⟩)))
          show (i = -1 ∧ (j = -1 ∨ j = 0) ∧ k = -1) ∨ (i = 0 ∧ j = -1 ∧ k = -1) ∨ (i = 0 ∧ j = 0 ∧ k = 0)
          by_cases hij : i = 0 ∧ j = 0
          · obtain ⟨rfl, rfl⟩ := hij
            -- both equal: the third is equal too
            obtain rfl : k = 0 := by
              cases hR <;> cases hR' <;> cases hk <;> first | rfl | omega | (rename_i p; exact absurd p (bl_irrefl _))
            exact .inr (.inr ⟨rfl, rfl, rfl⟩)
          · omega
    · rw [e2]; exact .inr (.inl ⟨rfl, rfl⟩)
  · have e' : cmpV kb sb nb fb ka sa na fa = (0, false) := by
      rcases cmpV_cases kb sb nb fb ka sa na fa with ⟨j, B, A, hB, hA, hR, _⟩ | ⟨h, _⟩
      · exact absurd hR.flip (hn A B _ hA hB)
      · exact h
    rw [e, e']
    exact ⟨rfl, rfl, rfl, rfl, .inl rfl, .inr (.inl rfl)⟩
end Go.Proofs.YtnnnnlcpmocnfaaDoor
