/- PLAIN MATHEMATICS of what is read behind a change. -/
import Derived.Test.YtcefhcailhediaaMth2
import Derived.Test.YtcefhcailhediaaLiv
namespace Go.Proofs.Ytcefhcailhediaa
open Go.RowKit
set_option linter.unusedVariables false

theorem found_set {fs : List F} (hR : Right fs) {b : ByteArray} {f g : F} (hf : found fs b = some f) (hn : g.name = f.name) (hg : okF g) : found (fs.set (pos fs b) g) b = some g := by
  obtain ⟨hp, hb⟩ := found_some hf
  have hl := (List.getElem?_eq_some_iff.1 hp).1
  exact (found_iff (right_set hR hp hn hg)).2 ⟨List.mem_of_getElem? (i := pos fs b) (by rw [List.getElem?_set_self hl]), hn.trans hb⟩
theorem found_rem {fs : List F} (hR : Right fs) {b : ByteArray} {f : F} (hf : found fs b = some f) : found (fs.take (pos fs b) ++ fs.drop (pos fs b + 1)) b = none := by
  obtain ⟨hp, hb⟩ := found_some hf
  cases hx : found (fs.take (pos fs b) ++ fs.drop (pos fs b + 1)) b with
  | none => rfl
  | some x =>
    obtain ⟨hm, hn⟩ := (found_iff (right_rem hR _)).1 hx
    have hxf := (found_iff hR).2 ⟨(rem_sub fs _).subset hm, hn⟩
    rw [hf] at hxf
    injection hxf with hxf
    subst hxf
    rcases List.mem_append.1 hm with h | h
    · obtain ⟨i, hi⟩ := List.getElem?_of_mem h
      rw [List.getElem?_take] at hi
      by_cases c : i < pos fs b
      · rw [if_pos c] at hi
        have := pos_ahead i f c hi
        rw [hn] at this
        exact absurd this (lt_irrefl _)
      · rw [if_neg c] at hi; cases hi
    · obtain ⟨i, hi⟩ := List.getElem?_of_mem h
      rw [List.getElem?_drop] at hi
      have := hR.rise (pos fs b + 1 + i) (pos fs b) f f (by omega) hp hi
      exact absurd this (lt_irrefl _)
section
variable {fs : List F} {b d : ByteArray} {z : Int} {f : F}
theorem rdv_found {u v : Int} (hR : Right fs) (hf : found fs b = some f) : rdv ⟨fs, false, u, v⟩ b = (f.data, 0) := by
  unfold rdv
  rw [if_pos (upv_up (d := ⟨fs, false, u, v⟩) hR (by simp))]
  simp only [hf]
theorem rdv_none {u v : Int} (hR : Right fs) (hf : found fs b = none) : rdv ⟨fs, false, u, v⟩ b = (⟨#[]⟩, 7) := by
  unfold rdv
  rw [if_pos (upv_up (d := ⟨fs, false, u, v⟩) hR (by simp))]
  simp only [hf]
/-- what is read tells whether the file is there -/
theorem rdv_cases (d : D) (b : ByteArray) : ((rdv d b).2 ≠ 0 ∧ ∀ x z, (doo d ⟨2, b, x, z⟩).2 ≠ 0) ∨ ∃ f, Right d.files ∧ d.down = false ∧ found d.files b = some f ∧ rdv d b = (f.data, 0) := by
  by_cases h : ∃ f, Right d.files ∧ d.down = false ∧ found d.files b = some f
  · obtain ⟨f, h1, h2, h3⟩ := h
    refine .inr ⟨f, h1, h2, h3, ?_⟩
    obtain ⟨fs, dn, u, v⟩ := d
    simp only at h1 h2 h3
    subst h2
    exact rdv_found h1 h3
  · refine .inl ⟨?_, fun x z hz => ?_⟩
    · unfold rdv
      by_cases hu : upv d = 0
      · rw [if_pos hu]
        have hR : Right d.files := by
          by_cases hR : Right d.files
          · exact hR
          · rw [upv_no hR] at hu; cases hu
        have hd : d.down = false := by
          cases hdn : d.down with
          | true => rw [upv_down hR hdn] at hu; cases hu
          | false => rfl
        cases hf : found d.files b with
        | some f => exact absurd ⟨f, hR, hd, hf⟩ h
        | none => simp
      · rw [if_neg hu]; exact hu
    · obtain ⟨hR, _, h0, hd, _⟩ := doo_ok hz
      obtain ⟨f, hf⟩ : ∃ f, found d.files b = some f := by
        cases hf : found d.files b with
        | some f => exact ⟨f, rfl⟩
        | none =>
          unfold ref at h0
          rw [if_neg (by simp)] at h0
          simp only [hf] at h0
          cases h0
      exact h ⟨f, hR, hd, hf⟩
theorem doo_2 (hR : Right fs) (hf : found fs b = some f) (hs : f.data.size + d.size ≤ 262144) :
    ∃ gs, doo ⟨fs, false, -1, -1⟩ ⟨2, b, d, z⟩ = (⟨gs, false, -1, -1⟩, 0) ∧ Right gs ∧ rdv ⟨gs, false, -1, -1⟩ b = (f.data ++ d, 0) := by
  have h0 : ref fs ⟨2, b, d, z⟩ = 0 := by rw [ref2 hf, if_neg (by omega)]
  have hok := hR.ok f (found_mem hf)
  have hg : okF ⟨f.name, f.data ++ d, f.syn⟩ := ⟨hok.1, by simp only [ByteArray.size_append]; omega, hok.2.2.1, by simp only [ByteArray.size_append]; have := hok.2.2.2; omega⟩
  refine ⟨_, ?_, right_eff hR ⟨by simp, by simp⟩ h0, ?_⟩
  · rw [doo_right hR ⟨by simp, by simp⟩, run_done h0 (by decide) (by decide)]; rfl
  · rw [eff2 hf]
    exact rdv_found (right_set hR (found_some hf).1 (g := ⟨f.name, f.data ++ d, f.syn⟩) rfl hg) (found_set hR hf (g := ⟨f.name, f.data ++ d, f.syn⟩) rfl hg)
theorem doo_2_full (hR : Right fs) (hf : found fs b = some f) (hs : ¬ f.data.size + d.size ≤ 262144) : doo ⟨fs, false, -1, -1⟩ ⟨2, b, d, z⟩ = (⟨fs, false, -1, -1⟩, 8) := by
  have hok := hR.ok f (found_mem hf)
  have h0 : ref fs ⟨2, b, d, z⟩ = 8 := by rw [ref2 hf, if_pos (by have := hok.2.1; omega)]
  rw [doo_right hR ⟨by simp, by simp⟩, run_ref (by rw [h0]; decide), h0]
theorem doo_4 (hR : Right fs) (hf : found fs b = some f) (hz : 0 ≤ z ∧ z ≤ (f.data.size : Int)) :
    ∃ gs, doo ⟨fs, false, -1, -1⟩ ⟨4, b, d, z⟩ = (⟨gs, false, -1, -1⟩, 0) ∧ Right gs ∧ rdv ⟨gs, false, -1, -1⟩ b = (f.data.extract 0 z.toNat, 0) := by
  have h0 : ref fs ⟨4, b, d, z⟩ = 0 := by rw [ref4 hf, if_neg (by omega)]
  have hok := hR.ok f (found_mem hf)
  have hg : okF ⟨f.name, f.data.extract 0 z.toNat, z⟩ := by
    refine ⟨hok.1, ?_, hz.1, ?_⟩ <;> (simp only [ByteArray.size_extract]; have := hok.2.1; omega)
  refine ⟨_, ?_, right_eff hR ⟨by simp, by simp⟩ h0, ?_⟩
  · rw [doo_right hR ⟨by simp, by simp⟩, run_done h0 (by decide) (by decide)]; rfl
  · rw [eff4 hf]
    exact rdv_found (right_set hR (found_some hf).1 (g := ⟨f.name, f.data.extract 0 z.toNat, z⟩) rfl hg) (found_set hR hf (g := ⟨f.name, f.data.extract 0 z.toNat, z⟩) rfl hg)
theorem doo_4_bad (hR : Right fs) (hf : found fs b = some f) (hz : ¬ (0 ≤ z ∧ z ≤ (f.data.size : Int))) : doo ⟨fs, false, -1, -1⟩ ⟨4, b, d, z⟩ = (⟨fs, false, -1, -1⟩, 2) := by
  have h0 : ref fs ⟨4, b, d, z⟩ = 2 := by rw [ref4 hf, if_pos (by omega)]
  rw [doo_right hR ⟨by simp, by simp⟩, run_ref (by rw [h0]; decide), h0]
theorem doo_5 (hR : Right fs) (hf : found fs b = some f) :
    ∃ gs, doo ⟨fs, false, -1, -1⟩ ⟨5, b, d, z⟩ = (⟨gs, false, -1, -1⟩, 0) ∧ Right gs ∧ rdv ⟨gs, false, -1, -1⟩ b = (⟨#[]⟩, 7) := by
  have h0 : ref fs ⟨5, b, d, z⟩ = 0 := ref5 hf
  refine ⟨_, ?_, right_eff hR ⟨by simp, by simp⟩ h0, ?_⟩
  · rw [doo_right hR ⟨by simp, by simp⟩, run_done h0 (by decide) (by decide)]; rfl
  · rw [eff5 hf]
    exact rdv_none (right_rem hR _) (found_rem hR hf)
end
end Go.Proofs.Ytcefhcailhediaa
