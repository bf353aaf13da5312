/- PLAIN MATHEMATICS OF LAYER 1, MORE: what is written is read as the fields that it was. -/
import Derived.Test.YtnnnnlcpmocnfaaMath2
namespace Go.Proofs.Ytnnnnlcpmocnfaa.M
theorem may_is {f : Fd} (h : may f = true) : 1 ≤ f.num ∧ f.num ≤ 536870911 ∧ ((f.wire = 0 ∧ f.s = []) ∨ (f.wire = 1 ∧ f.s = []) ∨ (f.wire = 5 ∧ f.s = [] ∧ f.n < 4294967296) ∨ (f.wire = 2 ∧ f.n = 0 ∧ f.s.length ≤ 65536)) := by
  simp only [may, Bool.and_eq_true, decide_eq_true_eq] at h
  obtain ⟨⟨h1, h2⟩, h3⟩ := h
  refine ⟨h1, h2, ?_⟩
  by_cases e01 : f.wire = 0 ∨ f.wire = 1
  · rw [if_pos e01] at h3
    have : f.s = [] := by simpa using h3
    rcases e01 with e | e
    · exact .inl ⟨e, this⟩
    · exact .inr (.inl ⟨e, this⟩)
  · rw [if_neg e01] at h3
    by_cases e5 : f.wire = 5
    · rw [if_pos e5] at h3
      simp only [Bool.and_eq_true, decide_eq_true_eq, List.isEmpty_iff] at h3
      exact .inr (.inr (.inl ⟨e5, h3.1, h3.2⟩))
    · rw [if_neg e5] at h3
      by_cases e2 : f.wire = 2
      · rw [if_pos e2] at h3
        simp only [Bool.and_eq_true, decide_eq_true_eq] at h3
        exact .inr (.inr (.inr ⟨e2, h3.1, h3.2⟩))
      · rw [if_neg e2] at h3; cases h3
theorem parse1_enc1 {f : Fd} (hm : may f = true) (hn : f.n < 18446744073709551616) (rest : List UInt8) : parse1 (enc1 f ++ rest) = .ok (f, rest) := by
  obtain ⟨h1, h2, hc⟩ := may_is hm
  obtain ⟨num, wire, n, s⟩ := f
  simp only at h1 h2 hc hn
  have hw : wire ≤ 5 := by omega
  have hk : key ⟨num, wire, n, s⟩ = 8 * num.toNat + wire := rfl
  have hr := rd_vnum (key ⟨num, wire, n, s⟩) (body ⟨num, wire, n, s⟩ ++ rest) (by rw [hk]; omega)
  unfold parse1
  rw [enc1, List.append_assoc, hr]
  simp only [List.drop_left]
  have e8 : key ⟨num, wire, n, s⟩ / 8 = num.toNat := by rw [hk]; omega
  have m8 : key ⟨num, wire, n, s⟩ % 8 = wire := by rw [hk]; omega
  rw [e8, m8, if_neg (by omega)]
  have en : ((num.toNat : Nat) : Int) = num := by omega
  rw [en]
  rcases hc with ⟨rfl, rfl⟩ | ⟨rfl, rfl⟩ | ⟨rfl, rfl, h4⟩ | ⟨rfl, rfl, hl⟩
  · rw [if_pos rfl]
    have hb : body ⟨num, 0, n, []⟩ = vnum n := rfl
    rw [hb, rd_vnum n rest hn]
    simp only [List.drop_left]
  · rw [if_neg (by decide), if_pos rfl]
    have hb : body ⟨num, 1, n, []⟩ = le 8 n := rfl
    have hl := le_len 8 n
    rw [hb, if_neg (by rw [List.length_append, hl]; omega), List.take_left' hl, List.drop_left' hl, unle_le 8 n (by simpa using hn)]
  · rw [if_neg (by decide), if_neg (by decide), if_pos rfl]
    have hb : body ⟨num, 5, n, []⟩ = le 4 n := rfl
    have hl := le_len 4 n
    rw [hb, if_neg (by rw [List.length_append, hl]; omega), List.take_left' hl, List.drop_left' hl, unle_le 4 n (by simpa using h4)]
  · rw [if_neg (by decide), if_neg (by decide), if_neg (by decide), if_pos rfl]
    have hb : body ⟨num, 2, 0, s⟩ = vnum s.length ++ s := rfl
    rw [hb, List.append_assoc, rd_vnum s.length (s ++ rest) (by omega)]
    simp only [List.drop_left]
    rw [if_neg (by rw [List.length_append]; omega), List.take_left]
theorem enc1_two (f : Fd) (hm : may f = true) : 2 ≤ (enc1 f).length := by
  obtain ⟨h1, h2, hc⟩ := may_is hm
  obtain ⟨num, wire, n, s⟩ := f
  have h := vnum_pos (key ⟨num, wire, n, s⟩)
  rw [enc1, List.length_append]
  simp only at hc
  rcases hc with ⟨rfl, rfl⟩ | ⟨rfl, rfl⟩ | ⟨rfl, rfl, h4⟩ | ⟨rfl, rfl, hl⟩
  · have hb : body ⟨num, 0, n, []⟩ = vnum n := rfl
    have := vnum_pos n
    rw [hb]; omega
  · have hb : body ⟨num, 1, n, []⟩ = le 8 n := rfl
    rw [hb, le_len]; omega
  · have hb : body ⟨num, 5, n, []⟩ = le 4 n := rfl
    rw [hb, le_len]; omega
  · have hb : body ⟨num, 2, 0, s⟩ = vnum s.length ++ s := rfl
    have := vnum_pos s.length
    rw [hb, List.length_append]; omega
theorem parse_enc : ∀ (l : List Fd), l.all may = true → (∀ f ∈ l, f.n < 18446744073709551616) → parse (enc l) = .ok l := by
  intro l
  induction l with
  | nil => intro _ _; rw [enc_nil, parse_nil]
  | cons f l ih =>
    intro hm hn
    rw [List.all_cons, Bool.and_eq_true] at hm
    have h1 := parse1_enc1 hm.1 (hn f (by simp)) (enc l)
    rw [enc_cons]
    have h0 : enc1 f ++ enc l ≠ [] := by
      intro e
      have := enc1_two f hm.1
      have e2 := congrArg List.length e
      rw [List.length_append] at e2
      simp only [List.length_nil] at e2
      omega
    rw [parse_ok h0 h1, ih hm.2 (fun g hg => hn g (by simp [hg]))]
theorem read_enc {l : List Fd} (hm : l.all may = true) (hn : ∀ f ∈ l, f.n < 18446744073709551616) (h1 : (enc l).length ≤ 65536) (h2 : l.length ≤ 4096) : read (enc l) = .ok l := by
  rw [read, if_neg (by omega), parse_enc l hm hn]
  simp only
  rw [if_neg (by omega)]
end Go.Proofs.Ytnnnnlcpmocnfaa.M
