/- WHAT THE LOOP OF the document's done APPENDS, AS MATHEMATICS. -/
import Derived.Test.YtcefhcailhediaaDrf
import Derived.Test.YtcefhcailhediaaMth2
namespace Go.Proofs.Ytcefhcailhediaa
open Go.RowKit
set_option linter.unusedVariables false

/-- what becomes of the file of that name -/
def chg (s : S) (f : F) : List F :=
  if s.kind = 2 then [⟨f.name, f.data ++ s.data, f.syn⟩]
  else if s.kind = 3 then [⟨f.name, f.data, f.data.size⟩]
  else if s.kind = 4 then [⟨f.name, f.data.extract 0 s.size.toNat, s.size⟩]
  else if s.kind = 5 then []
  else [f]
def one (s : S) (f : F) : List F := if f.name = s.name then chg s f else [f]
/-- what is still appended: the new file's turn has come or not -/
def dnL (s : S) : Bool → List F → List F
  | true, [] => []
  | false, [] => [⟨s.name, ⟨#[]⟩, 0⟩]
  | put, f :: t => (if put = false ∧ lt s.name f.name = true then [⟨s.name, ⟨#[]⟩, 0⟩] else []) ++ (one s f ++ dnL s (put || lt s.name f.name) t)
theorem dnL_true_none {s : S} : ∀ fs : List F, (∀ f ∈ fs, f.name ≠ s.name) → dnL s true fs = fs
  | [], _ => rfl
  | f :: t, h => by
    have h1 := h f (by simp)
    simp only [dnL, one, if_neg h1, Bool.true_or]
    rw [dnL_true_none t (fun g hg => h g (by simp [hg]))]
    simp
theorem dnL_true_at {s : S} : ∀ (fs : List F) (i : Nat) (f : F), fs[i]? = some f → f.name = s.name → (∀ (j : Nat) (g : F), j ≠ i → fs[j]? = some g → g.name ≠ s.name) → dnL s true fs = fs.take i ++ (chg s f ++ fs.drop (i + 1))
  | [], i, f, h, _, _ => by simp at h
  | x :: t, 0, f, h, hn, ho => by
    simp at h; subst h
    simp only [dnL, one, if_pos hn, Bool.true_or]
    rw [dnL_true_none t (fun g hg => by
      obtain ⟨j, hj⟩ := List.getElem?_of_mem hg
      exact ho (j + 1) g (by omega) (by simpa using hj))]
    simp
  | x :: t, i + 1, f, h, hn, ho => by
    have h1 := ho 0 x (by omega) rfl
    simp only [dnL, one, if_neg h1, Bool.true_or]
    rw [dnL_true_at t i f (by simpa using h) hn (fun j g hj hg => ho (j + 1) g (by omega) (by simpa using hg))]
    simp
theorem dnL_false {s : S} : ∀ (fs : List F), (∀ f ∈ fs, f.name ≠ s.name) → (∀ (i j : Nat) (p f : F), i < j → fs[i]? = some p → fs[j]? = some f → lt p.name f.name = true) → dnL s false fs = fs.take (pos fs s.name) ++ ⟨s.name, ⟨#[]⟩, 0⟩ :: fs.drop (pos fs s.name)
  | [], _, _ => by simp [dnL, pos]
  | x :: t, h, hr => by
    have h1 := h x (by simp)
    by_cases hl : lt s.name x.name = true
    · have hp : pos (x :: t) s.name = 0 := by
        unfold pos; rw [List.takeWhile_cons, if_neg (lt_asym hl)]; rfl
      rw [hp]
      simp only [dnL, one, if_neg h1, hl, Bool.or_true, and_self, if_true]
      rw [dnL_true_none t (fun g hg => h g (by simp [hg]))]
      simp
    · have hl2 : lt x.name s.name = true := lt_tri hl (fun e => h1 e.symm)
      have hp : pos (x :: t) s.name = pos t s.name + 1 := by
        unfold pos; rw [List.takeWhile_cons, if_pos hl2]; rfl
      have hlf : lt s.name x.name = false := Bool.eq_false_iff.2 hl
      rw [hp]
      simp only [dnL, one, if_neg h1, hlf, Bool.or_false]
      rw [dnL_false t (fun g hg => h g (by simp [hg])) (fun i j p f hij hp hf => hr (i + 1) (j + 1) p f (by omega) (by simpa using hp) (by simpa using hf))]
      simp
theorem set_split {fs : List F} {i : Nat} {f g : F} (hf : fs[i]? = some f) : fs.set i g = fs.take i ++ ([g] ++ fs.drop (i + 1)) := by
  have hl := (List.getElem?_eq_some_iff.1 hf).1
  rw [List.set_eq_take_append_cons_drop, if_pos hl]
  rfl
theorem dnL_eff {fs : List F} {s : S} (hR : Right fs) (hk : 1 ≤ s.kind ∧ s.kind ≤ 5) (h0 : ref fs s = 0) : dnL s (decide (s.kind ≠ 1)) fs = eff fs s := by
  by_cases h1 : s.kind = 1
  · have hf : found fs s.name = none := by
      unfold ref at h0
      rw [if_pos h1] at h0
      cases hf : found fs s.name with
      | none => rfl
      | some f => rw [hf] at h0; simp at h0; split at h0 <;> simp at h0
    have hne : ∀ f ∈ fs, f.name ≠ s.name := fun f hf' e => by
      have := (found_iff hR (b := s.name) (f := f)).2 ⟨hf', e⟩
      rw [hf] at this; cases this
    rw [show decide (s.kind ≠ 1) = false by simp [h1], dnL_false fs hne (fun i j p f hij hp hf => hR.rise j i p f hij hp hf)]
    unfold eff; rw [if_pos h1]
  · rw [show decide (s.kind ≠ 1) = true by simp [h1]]
    cases hf : found fs s.name with
    | none => unfold ref at h0; rw [if_neg h1, hf] at h0; simp at h0
    | some f =>
      obtain ⟨hp, hn⟩ := found_some hf
      have ho : ∀ (j : Nat) (g : F), j ≠ pos fs s.name → fs[j]? = some g → g.name ≠ s.name := fun j g hj hg e => by
        rcases Nat.lt_or_ge j (pos fs s.name) with h | h
        · have := hR.rise _ _ _ _ h hg hp; rw [e, hn] at this; exact lt_irrefl _ this
        · have := hR.rise _ _ _ _ (show pos fs s.name < j by omega) hp hg; rw [e, hn] at this; exact lt_irrefl _ this
      rw [dnL_true_at fs _ f hp hn ho]
      unfold eff chg
      rw [if_neg h1, hf]
      simp only
      by_cases h2 : s.kind = 2
      · simp only [if_pos h2]; exact (set_split hp).symm
      · by_cases h3 : s.kind = 3
        · simp only [if_neg h2, if_pos h3]; exact (set_split hp).symm
        · by_cases h4 : s.kind = 4
          · simp only [if_neg h2, if_neg h3, if_pos h4]; exact (set_split hp).symm
          · simp only [if_neg h2, if_neg h3, if_neg h4, if_pos (show s.kind = 5 by omega)]; simp
theorem dnL_len {s : S} : ∀ (p : Bool) (fs : List F), (dnL s p fs).length ≤ fs.length + 1
  | true, [] => by simp [dnL]
  | false, [] => by simp [dnL]
  | p, f :: t => by
    have h1 : (one s f).length ≤ 1 := by
      unfold one chg
      split
      · split
        · simp
        · split
          · simp
          · split
            · simp
            · split <;> simp
      · simp
    have h2 := dnL_len2 (s := s) t
    cases p with
    | true => simp only [dnL, Bool.true_or, Bool.true_eq_false, false_and, if_false, List.nil_append, List.length_append, List.length_cons]; omega
    | false =>
      by_cases hl : lt s.name f.name = true
      · simp only [dnL, hl, Bool.or_true, and_self, if_true, List.length_append, List.length_cons, List.length_nil]; omega
      · have hlf : lt s.name f.name = false := Bool.eq_false_iff.2 hl
        have h3 := dnL_len (s := s) false t
        simp only [dnL, hlf, Bool.or_false, List.length_append, List.length_cons]
        simp
        omega
where dnL_len2 {s : S} : ∀ (fs : List F), (dnL s true fs).length ≤ fs.length
  | [] => by simp [dnL]
  | f :: t => by
    have h1 : (one s f).length ≤ 1 := by
      unfold one chg
      split
      · split
        · simp
        · split
          · simp
          · split
            · simp
            · split <;> simp
      · simp
    have h2 := dnL_len2 (s := s) t
    simp only [dnL, Bool.true_or, Bool.true_eq_false, false_and, if_false, List.nil_append, List.length_append, List.length_cons]; omega
end Go.Proofs.Ytcefhcailhediaa
