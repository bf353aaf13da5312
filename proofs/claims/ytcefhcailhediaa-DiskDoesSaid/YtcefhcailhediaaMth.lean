/- PLAIN MATHEMATICS of disks: what is right stays right; a change of one file changes no other one; crashes. No program is imported. -/
import Derived.Test.YtcefhcailhediaaMath
namespace Go.Proofs.Ytcefhcailhediaa
open Go.RowKit
set_option linter.unusedVariables false

theorem right_iff {fs : List F} : Right fs ↔ fs.length ≤ 64 ∧ (∀ f ∈ fs, okF f) ∧ (fs.map F.name).Pairwise (fun a b => lt a b = true) := by
  constructor
  · intro h
    refine ⟨h.1, h.ok, ?_⟩
    rw [List.pairwise_iff_getElem]
    intro i j hi hj hij
    simp only [List.length_map] at hi hj
    simp only [List.getElem_map]
    exact h.rise j i _ _ hij (List.getElem?_eq_getElem hi) (List.getElem?_eq_getElem hj)
  · rintro ⟨h1, h2, h3⟩
    refine ⟨h1, fun i hi f hf => ⟨h2 f (List.mem_of_getElem? hf), fun p h0 hp => ?_⟩⟩
    rw [List.pairwise_iff_getElem] at h3
    have hi' : i - 1 < fs.length := by omega
    have := h3 (i - 1) i (by simpa using hi') (by simpa using hi) (by omega)
    simp only [List.getElem_map] at this
    rw [List.getElem?_eq_getElem hi] at hf
    rw [List.getElem?_eq_getElem hi'] at hp
    injection hf with hf; injection hp with hp
    rwa [hf, hp] at this

theorem found_iff {fs : List F} (hR : Right fs) {b : ByteArray} {f : F} : found fs b = some f ↔ f ∈ fs ∧ f.name = b := by
  constructor
  · intro h; exact ⟨List.mem_of_getElem? (found_some h).1, (found_some h).2⟩
  · rintro ⟨hm, hn⟩
    obtain ⟨i, hi⟩ := List.getElem?_of_mem hm
    have hil := (List.getElem?_eq_some_iff.1 hi).1
    have hp : pos fs b = i := by
      refine pos_unique i (Nat.le_of_lt hil) (fun j g hj hg => ?_) (fun g hg => ?_)
      · rw [← hn]; exact hR.rise i j g f hj hg hi
      · rw [hi] at hg; injection hg with hg; subst hg; rw [hn]; exact lt_irrefl _
    unfold found
    rw [hp, hi]
    simp [hn]
theorem found_ext {fs gs : List F} (hR : Right fs) (hS : Right gs) {b : ByteArray} (h : ∀ f, f.name = b → (f ∈ fs ↔ f ∈ gs)) : found fs b = found gs b := by
  cases hf : found fs b with
  | some f =>
    obtain ⟨h1, h2⟩ := (found_iff hR).1 hf
    exact ((found_iff hS).2 ⟨(h f h2).1 h1, h2⟩).symm
  | none =>
    cases hg : found gs b with
    | none => rfl
    | some g =>
      obtain ⟨h1, h2⟩ := (found_iff hS).1 hg
      have := (found_iff hR).2 ⟨(h g h2).2 h1, h2⟩
      rw [hf] at this; cases this

theorem right_set {fs : List F} (hR : Right fs) {i : Nat} {f g : F} (hf : fs[i]? = some f) (hn : g.name = f.name) (hg : okF g) : Right (fs.set i g) := by
  rw [right_iff] at hR ⊢
  obtain ⟨h1, h2, h3⟩ := hR
  refine ⟨by rw [List.length_set]; exact h1, fun x hx => ?_, ?_⟩
  · rcases List.mem_or_eq_of_mem_set hx with h | h
    · exact h2 x h
    · subst h; exact hg
  · have : (fs.set i g).map F.name = fs.map F.name := by
      rw [List.map_set]
      apply List.ext_getElem?
      intro j
      by_cases e : i = j
      · subst e
        have hl := (List.getElem?_eq_some_iff.1 hf).1
        rw [List.getElem?_set_self (by simpa using hl), List.getElem?_map, hf, hn]; rfl
      · rw [List.getElem?_set_ne e]
    rw [this]; exact h3
theorem right_ins {fs : List F} (hR : Right fs) {n : ByteArray} {g : F} (hn : g.name = n) (hg : okF g) (hf : found fs n = none) (hl : fs.length ≠ 64) : Right (fs.take (pos fs n) ++ g :: fs.drop (pos fs n)) := by
  have hR' := hR
  have hpl := pos_le fs n
  rw [right_iff] at hR ⊢
  obtain ⟨h1, h2, h3⟩ := hR
  refine ⟨?_, fun x hx => ?_, ?_⟩
  · simp only [List.length_append, List.length_take, List.length_cons, List.length_drop]; omega
  · rcases List.mem_append.1 hx with h | h
    · exact h2 x (List.mem_of_mem_take h)
    · rcases List.mem_cons.1 h with h | h
      · subst h; exact hg
      · exact h2 x (List.mem_of_mem_drop h)
  · rw [List.map_append, List.map_cons, List.pairwise_append, List.pairwise_cons]
    have ht : ∀ a ∈ (fs.take (pos fs n)).map F.name, lt a n = true := by
      intro a ha
      obtain ⟨x, hx, rfl⟩ := List.mem_map.1 ha
      obtain ⟨i, hi⟩ := List.getElem?_of_mem hx
      rw [List.getElem?_take] at hi
      by_cases c : i < pos fs n
      · rw [if_pos c] at hi; exact pos_ahead i x c hi
      · rw [if_neg c] at hi; cases hi
    have hd : ∀ a ∈ (fs.drop (pos fs n)).map F.name, lt n a = true := by
      intro a ha
      obtain ⟨x, hx, rfl⟩ := List.mem_map.1 ha
      obtain ⟨i, hi⟩ := List.getElem?_of_mem hx
      rw [List.getElem?_drop] at hi
      refine lt_tri (pos_behind hR' _ x (by omega) hi) (fun e => ?_)
      have := (found_iff hR').2 ⟨List.mem_of_getElem? hi, e⟩
      rw [hf] at this; cases this
    refine ⟨?_, ⟨?_, ?_⟩, ?_⟩
    · exact List.Pairwise.sublist ((List.take_sublist _ _).map _) h3
    · intro a ha; rw [hn]; exact hd a ha
    · exact List.Pairwise.sublist ((List.drop_sublist _ _).map _) h3
    · intro a ha b hb
      rcases List.mem_cons.1 hb with rfl | hb
      · rw [hn]; exact ht a ha
      · exact lt_trans (ht a ha) (hd b hb)
theorem rem_sub (fs : List F) (i : Nat) : (fs.take i ++ fs.drop (i + 1)).Sublist fs := by
  conv => rhs; rw [← List.take_append_drop i fs]
  exact List.Sublist.append (List.Sublist.refl _) (by rw [show fs.drop (i + 1) = (fs.drop i).drop 1 by rw [List.drop_drop]]; exact List.drop_sublist _ _)
theorem right_rem {fs : List F} (hR : Right fs) (i : Nat) : Right (fs.take i ++ fs.drop (i + 1)) := by
  rw [right_iff] at hR ⊢
  obtain ⟨h1, h2, h3⟩ := hR
  exact ⟨Nat.le_trans (rem_sub fs i).length_le h1, fun x hx => h2 x ((rem_sub fs i).subset hx), List.Pairwise.sublist ((rem_sub fs i).map _) h3⟩

theorem mem_ins {fs : List F} {i : Nat} {g x : F} (hn : x ≠ g) : x ∈ fs.take i ++ g :: fs.drop i ↔ x ∈ fs := by
  conv => rhs; rw [← List.take_append_drop i fs]
  simp only [List.mem_append, List.mem_cons, hn, false_or]
theorem mem_set {fs : List F} {i : Nat} {f g x : F} (hf : fs[i]? = some f) (h1 : x ≠ f) (h2 : x ≠ g) : x ∈ fs.set i g ↔ x ∈ fs := by
  constructor
  · intro h
    rcases List.mem_or_eq_of_mem_set h with h | h
    · exact h
    · exact absurd h h2
  · intro h
    obtain ⟨j, hj⟩ := List.getElem?_of_mem h
    have hne : i ≠ j := by
      intro e; subst e; rw [hf] at hj; injection hj with hj; exact h1 hj.symm
    exact List.mem_of_getElem? (i := j) (by rw [List.getElem?_set_ne hne]; exact hj)
theorem mem_rem {fs : List F} {i : Nat} {f x : F} (hf : fs[i]? = some f) (h1 : x ≠ f) : x ∈ fs.take i ++ fs.drop (i + 1) ↔ x ∈ fs := by
  constructor
  · intro h; exact (rem_sub fs i).subset h
  · intro h
    have hl := (List.getElem?_eq_some_iff.1 hf).1
    rw [← List.take_append_drop i fs, List.drop_eq_getElem_cons hl] at h
    rw [List.getElem?_eq_getElem hl] at hf
    injection hf with hf
    rw [hf] at h
    simp only [List.mem_append, List.mem_cons] at h ⊢
    rcases h with h | h | h
    · exact .inl h
    · exact absurd h h1
    · exact .inr h

/-- what a change that is not refused leaves is right -/
theorem right_eff {fs : List F} (hR : Right fs) {s : S} (hk : 1 ≤ s.kind ∧ s.kind ≤ 5) (h0 : ref fs s = 0) : Right (eff fs s) := by
  unfold eff
  unfold ref at h0
  by_cases k1 : s.kind = 1
  · rw [if_pos k1] at h0 ⊢
    by_cases c : okN s.name
    · rw [if_pos c] at h0
      cases hf : found fs s.name with
      | some f => rw [hf] at h0; simp at h0
      | none =>
        rw [hf] at h0
        simp only [Option.isSome_none, Bool.false_eq_true, if_false] at h0
        by_cases c64 : fs.length = 64
        · rw [if_pos c64] at h0; cases h0
        · exact right_ins hR rfl ⟨c, by simp [ByteArray.size], by simp, by simp [ByteArray.size]⟩ hf c64
    · rw [if_neg c] at h0; cases h0
  · rw [if_neg k1] at h0 ⊢
    cases hf : found fs s.name with
    | none => rw [hf] at h0; cases h0
    | some f =>
      rw [hf] at h0
      have hp := (found_some hf).1
      have hok := hR.ok f (found_mem hf)
      obtain ⟨o1, o2, o3, o4⟩ := hok
      simp only at h0 ⊢
      by_cases k2 : s.kind = 2
      · rw [if_pos k2] at h0 ⊢
        by_cases c : 262144 - f.data.size < s.data.size
        · rw [if_pos c] at h0; cases h0
        · refine right_set hR hp rfl ⟨o1, ?_, o3, ?_⟩
          · simp only [ByteArray.size_append]; omega
          · simp only [ByteArray.size_append]; omega
      · rw [if_neg k2] at h0 ⊢
        by_cases k3 : s.kind = 3
        · rw [if_pos k3]
          exact right_set hR hp rfl ⟨o1, o2, by simp only; omega, by simp only; omega⟩
        · rw [if_neg k3]
          by_cases k4 : s.kind = 4
          · rw [if_pos k4] at h0 ⊢
            by_cases c : s.size < 0 ∨ (f.data.size : Int) < s.size
            · rw [if_pos c] at h0; cases h0
            · refine right_set hR hp rfl ⟨o1, ?_, by simp only; omega, ?_⟩
              · simp only [ByteArray.size_extract]; omega
              · simp only [ByteArray.size_extract]; omega
          · rw [if_neg k4]
            exact right_rem hR _
/-- a change of one file changes no other one -/
theorem found_apart {fs : List F} (hR : Right fs) {s : S} (hk : 1 ≤ s.kind ∧ s.kind ≤ 5) (h0 : ref fs s = 0) {b : ByteArray} (hb : b ≠ s.name) : found (eff fs s) b = found fs b := by
  refine found_ext (right_eff hR hk h0) hR (fun x hx => ?_)
  have hxs : x.name ≠ s.name := fun e => hb (hx.symm.trans e)
  unfold eff
  by_cases k1 : s.kind = 1
  · rw [if_pos k1]
    exact mem_ins (fun e => hxs (by rw [e]))
  · rw [if_neg k1]
    cases hf : found fs s.name with
    | none => rfl
    | some f =>
      obtain ⟨hp, hn⟩ := found_some hf
      have h1 : x ≠ f := fun e => hxs (by rw [e, hn])
      simp only
      by_cases k2 : s.kind = 2
      · rw [if_pos k2]; exact mem_set hp h1 (fun e => hxs (by rw [e]; exact hn))
      · rw [if_neg k2]
        by_cases k3 : s.kind = 3
        · rw [if_pos k3]; exact mem_set hp h1 (fun e => hxs (by rw [e]; exact hn))
        · rw [if_neg k3]
          by_cases k4 : s.kind = 4
          · rw [if_pos k4]; exact mem_set hp h1 (fun e => hxs (by rw [e]; exact hn))
          · rw [if_neg k4]; exact mem_rem hp h1
/-- what an error tells of a change -/
theorem doo_ok {d : D} {s : S} (h : (doo d s).2 = 0) : Right d.files ∧ (1 ≤ s.kind ∧ s.kind ≤ 5) ∧ ref d.files s = 0 ∧ d.down = false ∧ doo d s = (⟨eff d.files s, false, dec d.fuse, dec d.fault⟩, 0) := by
  unfold doo at h ⊢
  by_cases hR : Right d.files
  · rw [if_pos hR] at h ⊢
    by_cases hk : 1 ≤ s.kind ∧ s.kind ≤ 5
    · rw [if_pos hk] at h ⊢
      unfold run at h ⊢
      by_cases c1 : d.down = true
      · rw [if_pos c1] at h; cases h
      · rw [if_neg c1] at h ⊢
        by_cases c2 : ref d.files s ≠ 0
        · rw [if_pos c2] at h; exact absurd h c2
        · rw [if_neg c2] at h ⊢
          by_cases c3 : d.fault = 0
          · rw [if_pos c3] at h; cases h
          · rw [if_neg c3] at h ⊢
            by_cases c4 : d.fuse = 0
            · rw [if_pos c4] at h; cases h
            · rw [if_neg c4]
              exact ⟨hR, hk, by simpa using c2, by simpa using c1, rfl⟩
    · rw [if_neg hk] at h; cases h
  · rw [if_neg hR] at h; cases h

theorem right_empty : Right [] := ⟨by simp, fun i h => by simp at h⟩
theorem right_half {fs : List F} (hR : Right fs) {s : S} (hk : 1 ≤ s.kind ∧ s.kind ≤ 5) (h0 : ref fs s = 0) : Right (half fs s) := by
  unfold half
  by_cases h : s.kind = 2
  · rw [if_pos h]; exact right_eff hR hk h0
  · rw [if_neg h]; exact hR
/-- a number of changes that are still to come -/
def Num (n : Int) : Prop := -9223372036854775808 ≤ n ∧ n ≤ 9223372036854775807
theorem num_dec {n : Int} (h : Num n) : Num (dec n) := by
  unfold Num dec at *
  by_cases c : 0 < n
  · rw [if_pos c]; omega
  · rw [if_neg c]; exact h
/-- whatever a step does, the disk that is answered is right -/
theorem doo_all (d : D) (s : S) (hu : Num d.fuse) (hf : Num d.fault) : Right (doo d s).1.files ∧ Num (doo d s).1.fuse ∧ Num (doo d s).1.fault := by
  have z1 : Num (-1) := ⟨by omega, by omega⟩
  have z0 : Num 0 := ⟨by omega, by omega⟩
  unfold doo
  by_cases hR : Right d.files
  · rw [if_pos hR]
    by_cases hk : 1 ≤ s.kind ∧ s.kind ≤ 5
    · rw [if_pos hk]
      unfold run
      by_cases c1 : d.down = true
      · rw [if_pos c1]; exact ⟨hR, hu, hf⟩
      · rw [if_neg c1]
        by_cases c2 : ref d.files s ≠ 0
        · rw [if_pos c2]; exact ⟨hR, hu, hf⟩
        · rw [if_neg c2]
          have h0 : ref d.files s = 0 := by simpa using c2
          by_cases c3 : d.fault = 0
          · rw [if_pos c3]; exact ⟨hR, hu, z1⟩
          · rw [if_neg c3]
            by_cases c4 : d.fuse = 0
            · rw [if_pos c4]; exact ⟨right_half hR hk h0, z0, num_dec hf⟩
            · rw [if_neg c4]; exact ⟨right_eff hR hk h0, num_dec hu, num_dec hf⟩
    · rw [if_neg hk]; exact ⟨hR, hu, hf⟩
  · rw [if_neg hR]; exact ⟨right_empty, z0, z0⟩
end Go.Proofs.Ytcefhcailhediaa
