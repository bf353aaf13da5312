/- THE reader's field, IN ONE CONTRACT EACH WAY. -/
import Derived.Test.YtnnnnlcpmocnfaaFld
namespace Go.Proofs.Ytnnnnlcpmocnfaa
open Go.RowKit
set_option linter.unusedVariables false
set_option linter.unusedSimpArgs false

theorem field_err (g : Nat) (l : List UInt8) (w : World) (hl : l.length ≤ 65536) (hx : Rdr w g l) (e : Nat) (h : M.parse1 l = .error e) :
    Calls Try.prog 43 #[.pointer (some ⟨g, 0, none⟩)] w fun en w' => en = pan e ∧ w.grownBy w' (some g) := by
  have hl' : l.length ≤ 9223372036854775807 := by omega
  unfold M.parse1 at h
  cases hr : M.rd l with
  | none =>
    rw [hr] at h
    injection h with h
    subst h
    exact field_e9 g l w hl' hx hr
  | some x =>
    obtain ⟨k, a⟩ := x
    rw [hr] at h
    simp only at h
    by_cases h0 : k / 8 < 1 ∨ 536870911 < k / 8
    · rw [if_pos h0] at h
      injection h with h
      subst h
      exact field_bad g l w hl' hx k a k rfl hr (by omega)
    · rw [if_neg h0] at h
      have g1 : 1 ≤ (k : Int) / 8 := by omega
      have g2 : (k : Int) / 8 ≤ 536870911 := by omega
      by_cases h1 : k % 8 = 0
      · rw [if_pos h1] at h
        cases hr2 : M.rd (l.drop a) with
        | none =>
          rw [hr2] at h
          injection h with h
          subst h
          exact field_no0 g l w hl' hx k a k rfl hr g1 g2 (by omega) hr2
        | some y => rw [hr2] at h; cases h
      · rw [if_neg h1] at h
        by_cases h2 : k % 8 = 1
        · rw [if_pos h2] at h
          by_cases h3 : (l.drop a).length < 8
          · rw [if_pos h3] at h
            injection h with h
            subst h
            exact field_no1 g l w hl' hx k a k rfl hr g1 g2 (by omega) h3
          · rw [if_neg h3] at h; cases h
        · rw [if_neg h2] at h
          by_cases h3 : k % 8 = 5
          · rw [if_pos h3] at h
            by_cases h4 : (l.drop a).length < 4
            · rw [if_pos h4] at h
              injection h with h
              subst h
              exact field_no5 g l w hl' hx k a k rfl hr g1 g2 (by omega) h4
            · rw [if_neg h4] at h; cases h
          · rw [if_neg h3] at h
            by_cases h4 : k % 8 = 2
            · rw [if_pos h4] at h
              cases hr2 : M.rd (l.drop a) with
              | none =>
                rw [hr2] at h
                injection h with h
                subst h
                exact field_no2 g l w hl' hx k a k rfl hr g1 g2 (by omega) hr2
              | some y =>
                obtain ⟨m, b⟩ := y
                rw [hr2] at h
                simp only at h
                by_cases h5 : ((l.drop a).drop b).length < m
                · rw [if_pos h5] at h
                  injection h with h
                  subst h
                  exact field_long2 g l w hl' hx k a k rfl hr g1 g2 (by omega) m b hr2 h5
                · rw [if_neg h5] at h; cases h
            · rw [if_neg h4] at h
              injection h with h
              subst h
              exact field_wire g l w hl' hx k a k rfl hr g1 g2 (by omega)

theorem field_good (g : Nat) (l : List UInt8) (w : World) (hl : l.length ≤ 65536) (hx : Rdr w g l) (f : M.Fd) (r : List UInt8) (h : M.parse1 l = .ok (f, r)) :
    ∃ a b c s, Fit f a b c s ∧ Calls Try.prog 43 #[.pointer (some ⟨g, 0, none⟩)] w fun en w' => en = .returned (.agg (fcells a b c s)) ∧ Rdr w' g r ∧ w.grownBy w' (some g) := by
  have hl' : l.length ≤ 9223372036854775807 := by omega
  unfold M.parse1 at h
  cases hr : M.rd l with
  | none => rw [hr] at h; cases h
  | some x =>
    obtain ⟨k, a⟩ := x
    rw [hr] at h
    simp only at h
    by_cases h0 : k / 8 < 1 ∨ 536870911 < k / 8
    · rw [if_pos h0] at h; cases h
    · rw [if_neg h0] at h
      have g1 : 1 ≤ (k : Int) / 8 := by omega
      have g2 : (k : Int) / 8 ≤ 536870911 := by omega
      have ek : ((k / 8 : Nat) : Int) = (k : Int) / 8 := by omega
      rw [ek] at h
      by_cases h1 : k % 8 = 0
      · rw [if_pos h1] at h
        cases hr2 : M.rd (l.drop a) with
        | none => rw [hr2] at h; cases h
        | some y =>
          obtain ⟨n, b⟩ := y
          rw [hr2] at h
          injection h with h
          injection h with e1 e2
          subst e1 e2
          have hb := (M.rd_bound hr2).2.2.2
          exact ⟨(k : Int) / 8, 0, n, [], ⟨by simp, by omega, by omega, by omega, by omega, by omega, by omega, by simp⟩, field_ok0 g l w hl' hx k a k rfl hr g1 g2 (by omega) n b hr2⟩
      · rw [if_neg h1] at h
        by_cases h2 : k % 8 = 1
        · rw [if_pos h2] at h
          by_cases h3 : (l.drop a).length < 8
          · rw [if_pos h3] at h; cases h
          · rw [if_neg h3] at h
            injection h with h
            injection h with e1 e2
            subst e1 e2
            have hb := M.unle_lt ((l.drop a).take 8)
            have hl8 : ((l.drop a).take 8).length = 8 := by rw [List.length_take]; omega
            rw [hl8] at hb
            simp only [Nat.reducePow] at hb
            exact ⟨(k : Int) / 8, 1, _, [], ⟨by simp, by omega, by omega, by omega, by omega, by omega, by omega, by simp⟩, field_ok1 g l w hl' hx k a k rfl hr g1 g2 (by omega) (by omega)⟩
        · rw [if_neg h2] at h
          by_cases h3 : k % 8 = 5
          · rw [if_pos h3] at h
            by_cases h4 : (l.drop a).length < 4
            · rw [if_pos h4] at h; cases h
            · rw [if_neg h4] at h
              injection h with h
              injection h with e1 e2
              subst e1 e2
              have hb := M.unle_lt ((l.drop a).take 4)
              have hl8 : ((l.drop a).take 4).length = 4 := by rw [List.length_take]; omega
              rw [hl8] at hb
              simp only [Nat.reducePow] at hb
              exact ⟨(k : Int) / 8, 5, _, [], ⟨by simp, by omega, by omega, by omega, by omega, by omega, by omega, by simp⟩, field_ok5 g l w hl' hx k a k rfl hr g1 g2 (by omega) (by omega)⟩
          · rw [if_neg h3] at h
            by_cases h4 : k % 8 = 2
            · rw [if_pos h4] at h
              cases hr2 : M.rd (l.drop a) with
              | none => rw [hr2] at h; cases h
              | some y =>
                obtain ⟨m, b⟩ := y
                rw [hr2] at h
                simp only at h
                by_cases h5 : ((l.drop a).drop b).length < m
                · rw [if_pos h5] at h; cases h
                · rw [if_neg h5] at h
                  injection h with h
                  injection h with e1 e2
                  subst e1 e2
                  exact ⟨(k : Int) / 8, 2, 0, _, ⟨by simp, by omega, by omega, by omega, by omega, by omega, by omega, by simp only [List.length_take, List.length_drop]; omega⟩, field_ok2 g l w hl' hx k a k rfl hr g1 g2 (by omega) m b hr2 (by omega)⟩
            · rw [if_neg h4] at h; cases h
end Go.Proofs.Ytnnnnlcpmocnfaa
