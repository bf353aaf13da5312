/- PLAIN MATHEMATICS OF LAYER 1, MORE: a message that is cut. -/
import Derived.Test.YtjbadjkgffamlaaMath3
namespace Go.Proofs.Ytjbadjkgffamlaa.M
theorem drop_more {l x : List UInt8} {k : Nat} (h : k ≤ l.length) : (l ++ x).drop k = l.drop k ++ x := by rw [List.drop_append_of_le_length h]
theorem take_more {l x : List UInt8} {k : Nat} (h : k ≤ l.length) : (l ++ x).take k = l.take k := by rw [List.take_append_of_le_length h]
/-- what is behind a whole field is no matter -/
theorem parse1_more {l : List UInt8} {f : Fd} {r : List UInt8} (x : List UInt8) (h : parse1 l = .ok (f, r)) : parse1 (l ++ x) = .ok (f, r ++ x) := by
  unfold parse1 at h ⊢
  cases hr : rd l with
  | none => rw [hr] at h; cases h
  | some y =>
    obtain ⟨k, a⟩ := y
    have hb := rd_bound hr
    rw [rd_more x hr]
    rw [hr] at h
    simp only at h ⊢
    rw [drop_more hb.2.1]
    by_cases h0 : k / 8 < 1 ∨ 536870911 < k / 8
    · rw [if_pos h0] at h; cases h
    · rw [if_neg h0] at h ⊢
      by_cases h1 : k % 8 = 0
      · rw [if_pos h1] at h ⊢
        cases hr2 : rd (l.drop a) with
        | none => rw [hr2] at h; cases h
        | some z =>
          obtain ⟨n, b⟩ := z
          have hb2 := rd_bound hr2
          rw [rd_more x hr2]
          rw [hr2] at h
          simp only at h ⊢
          injection h with h
          injection h with e1 e2
          rw [drop_more hb2.2.1, e1, e2]
      · rw [if_neg h1] at h ⊢
        by_cases h2 : k % 8 = 1
        · rw [if_pos h2] at h ⊢
          by_cases h3 : (l.drop a).length < 8
          · rw [if_pos h3] at h; cases h
          · rw [if_neg h3] at h
            rw [if_neg (by rw [List.length_append]; omega)]
            injection h with h
            injection h with e1 e2
            rw [drop_more (by omega), take_more (by omega), e1, e2]
        · rw [if_neg h2] at h ⊢
          by_cases h3 : k % 8 = 5
          · rw [if_pos h3] at h ⊢
            by_cases h4 : (l.drop a).length < 4
            · rw [if_pos h4] at h; cases h
            · rw [if_neg h4] at h
              rw [if_neg (by rw [List.length_append]; omega)]
              injection h with h
              injection h with e1 e2
              rw [drop_more (by omega), take_more (by omega), e1, e2]
          · rw [if_neg h3] at h ⊢
            by_cases h4 : k % 8 = 2
            · rw [if_pos h4] at h ⊢
              cases hr2 : rd (l.drop a) with
              | none => rw [hr2] at h; cases h
              | some z =>
                obtain ⟨m, b⟩ := z
                have hb2 := rd_bound hr2
                rw [rd_more x hr2]
                rw [hr2] at h
                simp only at h ⊢
                rw [drop_more hb2.2.1]
                by_cases h5 : ((l.drop a).drop b).length < m
                · rw [if_pos h5] at h; cases h
                · rw [if_neg h5] at h
                  rw [if_neg (by rw [List.length_append]; omega)]
                  injection h with h
                  injection h with e1 e2
                  rw [drop_more (by omega), take_more (by omega), e1, e2]
            · rw [if_neg h4] at h; cases h

theorem parse_cut : ∀ (a : List Fd), a.all may = true → (∀ f ∈ a, f.n < 18446744073709551616) → ∀ (p q : List UInt8) (ks : List Fd), enc a = p ++ q → parse p = .ok ks → ks = a.take ks.length ∧ p = enc ks := by
  intro a
  induction a with
  | nil =>
    intro _ _ p q ks h hp
    have h0 : p = [] := by
      have := congrArg List.length h
      rw [enc_nil, List.length_append, List.length_nil] at this
      exact List.eq_nil_of_length_eq_zero (by omega)
    subst h0
    rw [parse_nil] at hp
    injection hp with hp
    subst hp
    exact ⟨rfl, rfl⟩
  | cons f a ih =>
    intro hm hn p q ks h hp
    rw [List.all_cons, Bool.and_eq_true] at hm
    by_cases h0 : p = []
    · subst h0
      rw [parse_nil] at hp
      injection hp with hp
      subst hp
      exact ⟨rfl, rfl⟩
    · have h1 := parse1_enc1 hm.1 (hn f (by simp)) (enc a)
      rw [← enc_cons, h] at h1
      cases hp1 : parse1 p with
      | error e => rw [parse_err h0 hp1] at hp; cases hp
      | ok y =>
        obtain ⟨f', r⟩ := y
        have h2 := parse1_more q hp1
        rw [h1] at h2
        injection h2 with h2
        injection h2 with e1 e2
        subst e1
        rw [parse_ok h0 hp1] at hp
        cases hpr : parse r with
        | error e => rw [hpr] at hp; cases hp
        | ok ks' =>
          rw [hpr] at hp
          injection hp with hp
          subst hp
          obtain ⟨g1, g2⟩ := ih hm.2 (fun g hg => hn g (by simp [hg])) r q ks' e2 hpr
          refine ⟨by rw [List.length_cons, List.take_succ_cons, ← g1], ?_⟩
          have h3 : p ++ q = enc (f :: ks') ++ q := by rw [← h, enc_cons, enc_cons, ← g2, e2, List.append_assoc]
          exact List.append_cancel_right h3
end Go.Proofs.Ytjbadjkgffamlaa.M
