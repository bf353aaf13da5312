/- PLAIN MATHEMATICS of crashes. -/
import Derived.Test.YtcefhcailhediaaMth
import Derived.Test.YtcefhcailhediaaCrs
namespace Go.Proofs.Ytcefhcailhediaa
open Go.RowKit
set_option linter.unusedVariables false

theorem crash1_ok {f : F} (h : okF f) (kp : Option Int) : okF (crash1 kp f) ∧ (crash1 kp f).syn = ((crash1 kp f).data.size : Int) := by
  obtain ⟨b1, b2⟩ := keptS_bd h kp
  obtain ⟨o1, o2, o3, o4⟩ := h
  unfold crash1
  simp only [okF, ByteArray.size_extract]
  refine ⟨⟨o1, ?_, ?_, ?_⟩, ?_⟩ <;> omega
theorem crashL_names (ks : List Int) (fs : List F) : (crashL ks fs).map F.name = fs.map F.name := by
  apply List.ext_getElem?
  intro i
  rw [List.getElem?_map, List.getElem?_map]
  cases hf : fs[i]? with
  | some f => rw [crashL_at ks fs i f hf]; rfl
  | none =>
    have : (crashL ks fs)[i]? = none := by
      rw [List.getElem?_eq_none_iff] at hf ⊢
      rw [crashL_len]; exact hf
    rw [this]
theorem crashL_mem {ks : List Int} {fs : List F} {g : F} (h : g ∈ crashL ks fs) : ∃ f kp, f ∈ fs ∧ g = crash1 kp f := by
  obtain ⟨i, hi⟩ := List.getElem?_of_mem h
  have hl := (List.getElem?_eq_some_iff.1 hi).1
  rw [crashL_len] at hl
  have := crashL_at ks fs i _ (List.getElem?_eq_getElem hl)
  rw [hi] at this
  injection this with this
  exact ⟨_, _, List.getElem_mem hl, this⟩
theorem right_crash {fs : List F} (hR : Right fs) (ks : List Int) : Right (crashL ks fs) := by
  rw [right_iff] at hR ⊢
  obtain ⟨h1, h2, h3⟩ := hR
  refine ⟨by rw [crashL_len]; exact h1, fun g hg => ?_, by rw [crashL_names]; exact h3⟩
  obtain ⟨f, kp, hf, rfl⟩ := crashL_mem hg
  exact (crash1_ok (h2 f hf) kp).1
theorem crashL_again {fs : List F} (hR : Right fs) (ks ms : List Int) : crashL ms (crashL ks fs) = crashL ks fs := by
  apply List.ext_getElem?
  intro i
  cases hf : (crashL ks fs)[i]? with
  | none =>
    rw [List.getElem?_eq_none_iff] at hf ⊢
    rw [crashL_len]; exact hf
  | some g =>
    rw [crashL_at ms _ i g hf]
    obtain ⟨f, kp, hfm, rfl⟩ := crashL_mem (List.mem_of_getElem? hf)
    obtain ⟨hok, hs⟩ := crash1_ok (hR.ok f hfm) kp
    obtain ⟨g, hg⟩ : ∃ g, crash1 kp f = g := ⟨_, rfl⟩
    rw [hg] at hok hs ⊢
    obtain ⟨gn, gd, gs⟩ := g
    simp only at hs
    subst hs
    have hk : keptS ms[i]? ⟨gn, gd, gd.size⟩ = (gd.size : Int) := by
      unfold keptS
      cases ms[i]? with
      | none => rfl
      | some k =>
        simp only
        by_cases c : 0 < k
        · rw [if_pos c]; omega
        · rw [if_neg c]
    unfold crash1
    rw [hk]
    simp
theorem ref_vals (fs : List F) (s : S) : ref fs s = 0 ∨ ref fs s = 2 ∨ ref fs s = 4 ∨ ref fs s = 6 ∨ ref fs s = 7 ∨ ref fs s = 8 := by
  unfold ref
  by_cases k1 : s.kind = 1
  · rw [if_pos k1]
    split <;> (try split) <;> (try split) <;> simp
  · rw [if_neg k1]
    cases found fs s.name with
    | none => simp
    | some f =>
      simp only
      split
      · split <;> simp
      · split
        · split <;> simp
        · simp
/-- a disk without a fuse or a fault never fails of itself -/
theorem doo_free {fs : List F} (hR : Right fs) (s : S) : ∃ gs c, doo ⟨fs, false, -1, -1⟩ s = (⟨gs, false, -1, -1⟩, c) ∧ c ≠ 17 ∧ c ≠ 18 ∧ Right gs := by
  unfold doo
  rw [if_pos hR]
  by_cases hk : 1 ≤ s.kind ∧ s.kind ≤ 5
  · rw [if_pos hk]
    by_cases h0 : ref fs s = 0
    · rw [run_done h0 (by decide) (by decide)]
      exact ⟨_, _, rfl, by decide, by decide, right_eff hR hk h0⟩
    · rw [run_ref h0]
      refine ⟨_, _, rfl, ?_, ?_, hR⟩ <;> (have := ref_vals fs s; omega)
  · rw [if_neg hk]
    exact ⟨_, _, rfl, by decide, by decide, hR⟩
end Go.Proofs.Ytcefhcailhediaa
