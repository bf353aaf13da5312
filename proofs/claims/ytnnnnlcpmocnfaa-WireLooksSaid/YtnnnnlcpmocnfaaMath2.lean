/- PLAIN MATHEMATICS OF LAYER 1, MORE: what Read answers. -/
import Derived.Test.YtnnnnlcpmocnfaaMath
namespace Go.Proofs.Ytnnnnlcpmocnfaa.M
theorem parse1_err {l : List UInt8} {e : Nat} (h : parse1 l = .error e) : e = 9 ∨ e = 10 := by
  unfold parse1 at h
  split at h
  · injection h with h; omega
  · rename_i k a _
    split at h
    · injection h with h; omega
    · split at h
      · split at h
        · injection h with h; omega
        · cases h
      · split at h
        · split at h
          · injection h with h; omega
          · cases h
        · split at h
          · split at h
            · injection h with h; omega
            · cases h
          · split at h
            · split at h
              · injection h with h; omega
              · split at h
                · injection h with h; omega
                · cases h
            · injection h with h; omega
theorem parse_err_is : ∀ (n : Nat) (l : List UInt8), l.length ≤ n → ∀ e, parse l = .error e → e = 9 ∨ e = 10 := by
  intro n
  induction n with
  | zero =>
    intro l hl e h
    have : l = [] := List.eq_nil_of_length_eq_zero (by omega)
    subst this
    rw [parse_nil] at h; cases h
  | succ n ih =>
    intro l hl e h
    by_cases h0 : l = []
    · subst h0; rw [parse_nil] at h; cases h
    · cases hp : parse1 l with
      | error x => rw [parse_err h0 hp] at h; injection h with h; subst h; exact parse1_err hp
      | ok p =>
        obtain ⟨f, r⟩ := p
        rw [parse_ok h0 hp] at h
        have hlt := parse1_len hp
        cases hr : parse r with
        | error x => rw [hr] at h; injection h with h; subst h; exact ih r (by omega) x hr
        | ok fs => rw [hr] at h; cases h

/-- a message read -/
def read (s : List UInt8) : Except Nat (List Fd) :=
  if 65536 < s.length then .error 4 else match parse s with
  | .error e => .error e
  | .ok fs => if 4096 < fs.length then .error 3 else .ok fs
end Go.Proofs.Ytnnnnlcpmocnfaa.M
