/- SEGMENT, MATHEMATICS: what is read of files; what is mended. -/
import Derived.Test.YtcefhcailhediaaDoorHam
namespace Go.Proofs.YtcefhcailhediaaDoor
open Go.RowKit
set_option maxRecDepth 100000
set_option linter.unusedVariables false
set_option linter.unusedSimpArgs false

/-- what is read of files from a number on: records, the number to come, what is cut off, the files behind the end -/
structure RD where
  rs : List Rec
  nx : Nat
  cut : List S
  rest : List SF
noncomputable def rdM : Nat → List SF → RD
  | n, [] => ⟨[], n, [], []⟩
  | n, s :: t => if s.n = n then
      (if sumL (framesL s.f.data n) < s.f.data.size then ⟨framesL s.f.data n, n + (framesL s.f.data n).length, [⟨4, s.f.name, ⟨#[]⟩, (sumL (framesL s.f.data n) : Nat)⟩], t⟩
       else ⟨framesL s.f.data n ++ (rdM (n + (framesL s.f.data n).length) t).rs, (rdM (n + (framesL s.f.data n).length) t).nx, (rdM (n + (framesL s.f.data n).length) t).cut, (rdM (n + (framesL s.f.data n).length) t).rest⟩)
    else ⟨[], n, [], s :: t⟩
theorem rdM_torn {n : Nat} {s : SF} {t : List SF} (h : s.n = n) (h2 : sumL (framesL s.f.data n) < s.f.data.size) : rdM n (s :: t) = ⟨framesL s.f.data n, n + (framesL s.f.data n).length, [⟨4, s.f.name, ⟨#[]⟩, (sumL (framesL s.f.data n) : Nat)⟩], t⟩ := by rw [rdM, if_pos h, if_pos h2]
theorem rdM_on {n : Nat} {s : SF} {t : List SF} (h : s.n = n) (h2 : ¬ sumL (framesL s.f.data n) < s.f.data.size) : rdM n (s :: t) = ⟨framesL s.f.data n ++ (rdM (n + (framesL s.f.data n).length) t).rs, (rdM (n + (framesL s.f.data n).length) t).nx, (rdM (n + (framesL s.f.data n).length) t).cut, (rdM (n + (framesL s.f.data n).length) t).rest⟩ := by rw [rdM, if_pos h, if_neg h2]
theorem rdM_end {n : Nat} {s : SF} {t : List SF} (h : ¬ s.n = n) : rdM n (s :: t) = ⟨[], n, [], s :: t⟩ := by rw [rdM, if_neg h]
theorem rdM_rest : ∀ (l : List SF) (n : Nat), ∃ A, l = A ++ (rdM n l).rest
  | [], n => ⟨[], rfl⟩
  | s :: t, n => by
    by_cases h : s.n = n
    · by_cases h2 : sumL (framesL s.f.data n) < s.f.data.size
      · rw [rdM_torn h h2]; exact ⟨[s], rfl⟩
      · rw [rdM_on h h2]
        obtain ⟨A, hA⟩ := rdM_rest t (n + (framesL s.f.data n).length)
        exact ⟨s :: A, by simp only [List.cons_append]; rw [← hA]⟩
    · rw [rdM_end h]; exact ⟨[], rfl⟩
theorem rdM_cut : ∀ (l : List SF) (n : Nat), (rdM n l).cut = [] ∨ ∃ c, (rdM n l).cut = [c]
  | [], n => .inl rfl
  | s :: t, n => by
    by_cases h : s.n = n
    · by_cases h2 : sumL (framesL s.f.data n) < s.f.data.size
      · rw [rdM_torn h h2]; exact .inr ⟨_, rfl⟩
      · rw [rdM_on h h2]; exact rdM_cut t _
    · rw [rdM_end h]; exact .inl rfl
theorem snoc_inj {α : Type} {a b : List α} {x y : α} (h : a ++ [x] = b ++ [y]) : a = b ∧ x = y := by
  have := List.append_inj' h rfl
  exact ⟨this.1, by simpa using this.2⟩
/-- a last file that lies behind the end is left out -/
theorem rdM_less : ∀ (l : List SF) (n : Nat) (s : SF) (r0 : List SF), (rdM n (l ++ [s])).rest = r0 ++ [s] → rdM n l = ⟨(rdM n (l ++ [s])).rs, (rdM n (l ++ [s])).nx, (rdM n (l ++ [s])).cut, r0⟩
  | [], n, s, r0, h => by
    by_cases h1 : s.n = n
    · by_cases h2 : sumL (framesL s.f.data n) < s.f.data.size
      · rw [List.nil_append, rdM_torn h1 h2] at h; simp at h
      · rw [List.nil_append, rdM_on h1 h2] at h; simp [rdM] at h
    · rw [List.nil_append, rdM_end h1] at h ⊢
      have : r0 = [] := by
        have := snoc_inj (a := []) (b := r0) h
        exact this.1.symm
      subst this
      rfl
  | x :: l, n, s, r0, h => by
    rw [List.cons_append] at h ⊢
    by_cases h1 : x.n = n
    · by_cases h2 : sumL (framesL x.f.data n) < x.f.data.size
      · rw [rdM_torn h1 h2] at h ⊢
        rw [rdM_torn h1 h2]
        rw [(snoc_inj h).1]
      · rw [rdM_on h1 h2] at h ⊢
        rw [rdM_on h1 h2, rdM_less l _ s r0 h]
    · rw [rdM_end h1] at h ⊢
      rw [rdM_end h1]
      have : x :: l = r0 := (snoc_inj (a := x :: l) h).1
      rw [this]
/-- a last file that is torn -/
theorem rdM_trim : ∀ (l : List SF) (n : Nat) (c : S), (rdM n l).rest = [] → (rdM n l).cut = [c] → ∃ l0 s k, l = l0 ++ [s] ∧ c = ⟨4, s.f.name, ⟨#[]⟩, (k : Nat)⟩ ∧ k ≤ s.f.data.size ∧
      ∀ s' : SF, s'.n = s.n → s'.f.data = s.f.data.extract 0 k → rdM n (l0 ++ [s']) = ⟨(rdM n l).rs, (rdM n l).nx, [], []⟩
  | [], n, c, _, h => by simp [rdM] at h
  | x :: l, n, c, h, hc => by
    by_cases h1 : x.n = n
    · by_cases h2 : sumL (framesL x.f.data n) < x.f.data.size
      · rw [rdM_torn h1 h2] at h hc ⊢
        simp only at h hc
        subst h
        refine ⟨[], x, sumL (framesL x.f.data n), rfl, by injection hc with hc; exact hc.symm, by omega, fun s' e1 e2 => ?_⟩
        have hz : (x.f.data.extract 0 (sumL (framesL x.f.data n))).size = sumL (framesL x.f.data n) := by rw [ByteArray.size_extract]; omega
        have hft : framesL s'.f.data n = framesL x.f.data n := by rw [e2, frames_trim]
        rw [List.nil_append, rdM_on (by rw [e1, h1]) (by rw [hft, e2, hz]; omega), hft]
        simp [rdM]
      · rw [rdM_on h1 h2] at h hc ⊢
        obtain ⟨l0, s, k, rfl, e2, e3, e4⟩ := rdM_trim l _ c h hc
        refine ⟨x :: l0, s, k, rfl, e2, e3, fun s' a b => ?_⟩
        rw [List.cons_append, rdM_on h1 h2, e4 s' a b]
    · rw [rdM_end h1] at hc; cases hc
/-- all of it is read: what is behind is read from there on -/
theorem rdM_app : ∀ (l t : List SF) (n : Nat), (rdM n l).cut = [] → (rdM n l).rest = [] → rdM n (l ++ t) = ⟨(rdM n l).rs ++ (rdM (rdM n l).nx t).rs, (rdM (rdM n l).nx t).nx, (rdM (rdM n l).nx t).cut, (rdM (rdM n l).nx t).rest⟩
  | [], t, n, _, _ => by simp [rdM]
  | x :: l, t, n, h, hr => by
    by_cases h1 : x.n = n
    · by_cases h2 : sumL (framesL x.f.data n) < x.f.data.size
      · rw [rdM_torn h1 h2] at h; cases h
      · rw [rdM_on h1 h2] at h hr ⊢
        rw [List.cons_append, rdM_on h1 h2, rdM_app l t _ h hr]
        simp
    · rw [rdM_end h1] at hr; cases hr
theorem rdM_pre : ∀ (l t : List SF) (n : Nat), (rdM n (l ++ t)).cut = [] → (rdM n (l ++ t)).rest = [] → (rdM n l).cut = [] ∧ (rdM n l).rest = []
  | [], t, n, _, _ => ⟨rfl, rfl⟩
  | x :: l, t, n, h, hr => by
    rw [List.cons_append] at h hr
    by_cases h1 : x.n = n
    · by_cases h2 : sumL (framesL x.f.data n) < x.f.data.size
      · rw [rdM_torn h1 h2] at h; cases h
      · rw [rdM_on h1 h2] at h hr ⊢
        exact rdM_pre l t _ h hr
    · rw [rdM_end h1] at hr; cases hr
theorem rdM_len : ∀ (l : List SF) (n : Nat), (rdM n l).nx = n + (rdM n l).rs.length
  | [], n => rfl
  | x :: l, n => by
    by_cases h1 : x.n = n
    · by_cases h2 : sumL (framesL x.f.data n) < x.f.data.size
      · rw [rdM_torn h1 h2]
      · rw [rdM_on h1 h2, List.length_append, rdM_len l]; omega
    · rw [rdM_end h1]; rfl
theorem rdM_seq : ∀ (l : List SF) (n i : Nat) (r : Rec), (rdM n l).rs[i]? = some r → r.seq = n + i
  | [], n, i, r, h => by simp [rdM] at h
  | x :: l, n, i, r, h => by
    by_cases h1 : x.n = n
    · by_cases h2 : sumL (framesL x.f.data n) < x.f.data.size
      · rw [rdM_torn h1 h2] at h; exact frames_seq _ _ _ _ h
      · rw [rdM_on h1 h2] at h
        simp only at h
        rw [List.getElem?_append] at h
        split at h
        · exact frames_seq _ _ _ _ h
        · have := rdM_seq l _ _ r h; omega
    · rw [rdM_end h1] at h; simp at h
/-- numbers stay within -/
theorem frames_bd (s : ByteArray) (n : Nat) (h : n ≤ 4611686018427387904) : n + (framesL s n).length ≤ 4611686018427387904 := by
  rcases Nat.eq_zero_or_pos (framesL s n).length with e | e
  · omega
  · obtain ⟨r, hr⟩ : ∃ r, (framesL s n)[(framesL s n).length - 1]? = some r := ⟨(framesL s n)[(framesL s n).length - 1]'(by omega), by simp⟩
    have h1 := frames_seq _ _ _ _ hr
    have h2 := r.h1
    omega
theorem rdM_bd : ∀ (l : List SF) (n : Nat), n ≤ 4611686018427387904 → (rdM n l).nx ≤ 4611686018427387904
  | [], n, h => h
  | x :: l, n, h => by
    by_cases h1 : x.n = n
    · by_cases h2 : sumL (framesL x.f.data n) < x.f.data.size
      · rw [rdM_torn h1 h2]; exact frames_bd _ _ h
      · rw [rdM_on h1 h2]; exact rdM_bd l _ (frames_bd _ _ h)
    · rw [rdM_end h1]; exact h
/-- the first number -/
def fromM : List SF → Nat
  | [] => 1
  | s :: _ => s.n
theorem fromM_bd (l : List SF) : fromM l ≤ 4611686018427387904 := by
  cases l with
  | nil => show 1 ≤ _; omega
  | cons s t => exact s.hn
/-- what is read of a disk's files -/
noncomputable def rdF (fs : List F) : RD := rdM (fromM (filesM fs)) (filesM fs)
/-- what must be done -/
noncomputable def mendM (fs : List F) : List S := (rdF fs).rest.reverse.map rmS ++ (rdF fs).cut

theorem sf1_eq {f : F} {s : SF} (h : s ∈ sf1 f) : s.f = f ∧ f.name = nameB s.n ∧ sf1 f = [s] := by
  cases hn : numB f.name with
  | none => rw [sf1_none hn] at h; cases h
  | some n =>
    rw [sf1_some hn] at h ⊢
    rw [List.mem_singleton] at h
    subst h
    exact ⟨rfl, (numB_some hn).2, rfl⟩
theorem filesM_mem {fs : List F} {s : SF} (h : s ∈ filesM fs) : s.f ∈ fs ∧ s.f.name = nameB s.n ∧ sf1 s.f = [s] := by
  obtain ⟨f, hf, hs⟩ := List.mem_flatMap.1 h
  obtain ⟨e1, e2, e3⟩ := sf1_eq hs
  subst e1
  exact ⟨hf, e2, e3⟩
theorem filesM_app (a b : List F) : filesM (a ++ b) = filesM a ++ filesM b := by simp [filesM]
theorem filesM_cons (f : F) (b : List F) : filesM (f :: b) = sf1 f ++ filesM b := by simp [filesM]
theorem filesM_pw : ∀ (fs : List F), (fs.map F.name).Pairwise (fun a b => lt a b = true) → (filesM fs).Pairwise (fun a b => a.n < b.n)
  | [], _ => List.Pairwise.nil
  | f :: fs, h => by
    rw [List.map_cons, List.pairwise_cons] at h
    rw [filesM_cons, List.pairwise_append]
    refine ⟨?_, filesM_pw fs h.2, fun a ha b hb => ?_⟩
    · cases hn : numB f.name with
      | none => rw [sf1_none hn]; exact List.Pairwise.nil
      | some n => rw [sf1_some hn]; exact List.pairwise_singleton _ _
    · obtain ⟨e1, e2, _⟩ := sf1_eq ha
      obtain ⟨g1, g2, _⟩ := filesM_mem hb
      have := h.1 b.f.name (List.mem_map_of_mem g1)
      rw [e2, g2] at this
      have h1 := a.hn
      have h2 := b.hn
      exact nameB_mono (by omega) (by omega) this
theorem filesM_up {fs : List F} (hR : Right fs) : (filesM fs).Pairwise (fun a b => a.n < b.n) := filesM_pw fs (right_iff.1 hR).2.2
theorem split_uniq : ∀ (X l Y r : List SF) (s : SF), (X ++ s :: Y).Pairwise (fun a b => a.n < b.n) → X ++ s :: Y = l ++ s :: r → X = l ∧ Y = r
  | [], [], Y, r, s, _, h => ⟨rfl, by simpa using h⟩
  | [], y :: l, Y, r, s, hp, h => by
    simp only [List.nil_append, List.cons_append, List.cons.injEq] at h
    obtain ⟨h1, h2⟩ := h
    subst h1
    rw [List.nil_append, List.pairwise_cons] at hp
    have := hp.1 s (by rw [h2]; simp)
    omega
  | x :: X, [], Y, r, s, hp, h => by
    simp only [List.nil_append, List.cons_append, List.cons.injEq] at h
    obtain ⟨h1, h2⟩ := h
    subst h1
    rw [List.cons_append, List.pairwise_cons] at hp
    have := hp.1 x (by simp)
    omega
  | x :: X, y :: l, Y, r, s, hp, h => by
    simp only [List.cons_append, List.cons.injEq] at h
    obtain ⟨rfl, h2⟩ := h
    rw [List.cons_append, List.pairwise_cons] at hp
    obtain ⟨e1, e2⟩ := split_uniq X l Y r s hp.2 h2
    exact ⟨by rw [e1], e2⟩
/-- where a file lies -/
theorem file_at {fs : List F} (hR : Right fs) {l r : List SF} {s : SF} (h : filesM fs = l ++ s :: r) :
    found fs s.f.name = some s.f ∧ fs[pos fs s.f.name]? = some s.f ∧ fs = fs.take (pos fs s.f.name) ++ s.f :: fs.drop (pos fs s.f.name + 1) ∧ filesM (fs.take (pos fs s.f.name)) = l ∧ filesM (fs.drop (pos fs s.f.name + 1)) = r := by
  have hm : s ∈ filesM fs := by rw [h]; simp
  obtain ⟨h1, h2, h3⟩ := filesM_mem hm
  have hf := (found_iff hR).2 ⟨h1, rfl⟩
  have hp := (found_some hf).1
  have hl := (List.getElem?_eq_some_iff.1 hp).1
  have he : fs = fs.take (pos fs s.f.name) ++ s.f :: fs.drop (pos fs s.f.name + 1) := by
    have h0 := (List.take_append_drop (pos fs s.f.name) fs).symm
    rw [List.drop_eq_getElem_cons hl, (List.getElem?_eq_some_iff.1 hp).2] at h0
    exact h0
  have hq : filesM fs = filesM (fs.take (pos fs s.f.name)) ++ s :: filesM (fs.drop (pos fs s.f.name + 1)) := by
    have h0 := congrArg filesM he
    rw [filesM_app, filesM_cons, h3] at h0
    simpa using h0
  have hu := filesM_up hR
  rw [hq] at hu h
  obtain ⟨a, b⟩ := split_uniq _ _ _ _ _ hu h
  exact ⟨hf, hp, he, a, b⟩
theorem sf1_name {f : F} {s : SF} (h : f.name = s.f.name) (hs : sf1 s.f = [s]) : sf1 f = [⟨f, s.n, s.hn⟩] := by
  cases hn : numB s.f.name with
  | none => rw [sf1_none hn] at hs; cases hs
  | some n =>
    rw [sf1_some hn] at hs
    have e := sf1_some (f := f) (n := n) (by rw [h]; exact hn)
    rw [e]
    have e2 : n = s.n := by injection hs with hs _; exact congrArg SF.n hs
    subst e2
    rfl
/-- a file is taken away -/
theorem files_rm {fs : List F} (hR : Right fs) {l r : List SF} {s : SF} (h : filesM fs = l ++ s :: r) : ref fs (rmS s) = 0 ∧ filesM (eff fs (rmS s)) = l ++ r := by
  obtain ⟨hf, hp, he, h1, h2⟩ := file_at hR h
  constructor
  · unfold ref
    rw [if_neg (by first | decide | (simp only [rmS]; decide))]
    simp only [hf]
    rw [if_neg (by first | decide | (simp only [rmS]; decide)), if_neg (by first | decide | (simp only [rmS]; decide))]
  · unfold eff
    rw [if_neg (by first | decide | (simp only [rmS]; decide))]
    simp only [hf]
    rw [if_neg (by first | decide | (simp only [rmS]; decide)), if_neg (by first | decide | (simp only [rmS]; decide)), if_neg (by first | decide | (simp only [rmS]; decide)), filesM_app, h1, h2]
/-- a file is set -/
theorem files_set {fs : List F} (hR : Right fs) {l r : List SF} {s : SF} (h : filesM fs = l ++ s :: r) (g : F) (hn : g.name = s.f.name) : filesM (fs.set (pos fs s.f.name) g) = l ++ ⟨g, s.n, s.hn⟩ :: r := by
  obtain ⟨hf, hp, he, h1, h2⟩ := file_at hR h
  have hl := (List.getElem?_eq_some_iff.1 hp).1
  obtain ⟨_, _, h3⟩ := filesM_mem (s := s) (fs := fs) (by rw [h]; simp)
  rw [List.set_eq_take_append_cons_drop, if_pos hl, filesM_app, filesM_cons, h1, h2, sf1_name hn h3]
  rfl
/-- a file is cut -/
theorem files_cut {fs : List F} (hR : Right fs) {l r : List SF} {s : SF} (h : filesM fs = l ++ s :: r) (k : Nat) (hk : k ≤ s.f.data.size) (x : ByteArray) :
    ref fs ⟨4, s.f.name, x, (k : Nat)⟩ = 0 ∧ filesM (eff fs ⟨4, s.f.name, x, (k : Nat)⟩) = l ++ ⟨⟨s.f.name, s.f.data.extract 0 k, (k : Nat)⟩, s.n, s.hn⟩ :: r := by
  obtain ⟨hf, hp, he, h1, h2⟩ := file_at hR h
  constructor
  · unfold ref
    rw [if_neg (by first | decide | (simp only [rmS]; decide))]
    simp only [hf]
    rw [if_neg (by first | decide | (simp only [rmS]; decide)), if_pos (by first | decide | (simp only [rmS]; decide)), if_neg (by omega)]
  · unfold eff
    rw [if_neg (by first | decide | (simp only [rmS]; decide))]
    simp only [hf]
    rw [if_neg (by first | decide | (simp only [rmS]; decide)), if_neg (by first | decide | (simp only [rmS]; decide)), if_pos (by first | decide | (simp only [rmS]; decide))]
    exact files_set hR h _ rfl
/-- one thing is mended: the rest is to be mended then -/
theorem mend_one {fs : List F} (hR : Right fs) {m : S} {ms : List S} (h : mendM fs = m :: ms) :
    (1 ≤ m.kind ∧ m.kind ≤ 5) ∧ ref fs m = 0 ∧ Right (eff fs m) ∧ mendM (eff fs m) = ms ∧ (rdF (eff fs m)).rs = (rdF fs).rs ∧ (rdF (eff fs m)).nx = (rdF fs).nx ∧ fromM (filesM (eff fs m)) = fromM (filesM fs) ∧ m.name.size ≤ 4096 ∧ m.data.size = 0 ∧ (m.kind = 4 ∨ m.kind = 5) := by
  unfold mendM at h
  obtain ⟨A, hA⟩ := rdM_rest (filesM fs) (fromM (filesM fs))
  have hok : ∀ s ∈ filesM fs, s.f.name.size ≤ 4096 := fun s hs => (hR.ok _ (filesM_mem hs).1).1.2
  rcases List.eq_nil_or_concat (rdF fs).rest with hr | ⟨r0, s, hr⟩
  · -- the cut
    rw [hr, List.reverse_nil, List.map_nil, List.nil_append] at h
    rcases rdM_cut (filesM fs) (fromM (filesM fs)) with e | ⟨c, e⟩
    · have : (rdF fs).cut = [] := e
      rw [this] at h; cases h
    have e' : (rdF fs).cut = [c] := e
    rw [e'] at h
    injection h with hm hms
    subst hm hms
    obtain ⟨l0, s, k, e1, e2, e3, e4⟩ := rdM_trim _ _ _ hr e
    have hs : s ∈ filesM fs := by rw [e1]; simp
    obtain ⟨f1, f2⟩ := files_cut hR e1 k e3 ⟨#[]⟩
    rw [← e2] at f1 f2
    have hk : 1 ≤ c.kind ∧ c.kind ≤ 5 := by rw [e2]; exact ⟨by first | decide | (simp only [rmS]; decide), by first | decide | (simp only [rmS]; decide)⟩
    have hfrom : fromM (l0 ++ [⟨⟨s.f.name, s.f.data.extract 0 k, (k : Nat)⟩, s.n, s.hn⟩]) = fromM (filesM fs) := by
      rw [e1]
      cases l0 <;> rfl
    have hrd : rdF (eff fs c) = ⟨(rdF fs).rs, (rdF fs).nx, [], []⟩ := by
      unfold rdF
      rw [f2, hfrom]
      exact e4 _ rfl rfl
    refine ⟨hk, f1, right_eff hR hk f1, ?_, by rw [hrd], by rw [hrd], by rw [f2, hfrom], by rw [e2]; exact hok s hs, by rw [e2]; rfl, by rw [e2]; exact .inl rfl⟩
    unfold mendM
    rw [hrd]
    rfl
  · -- a file
    rw [List.concat_eq_append] at hr
    rw [hr, List.reverse_append, List.reverse_singleton, List.singleton_append, List.map_cons, List.cons_append] at h
    injection h with hm hms
    subst hm
    have hA' : filesM fs = (A ++ r0) ++ [s] := by
      have h0 : (rdM (fromM (filesM fs)) (filesM fs)).rest = r0 ++ [s] := hr
      rw [h0] at hA
      rw [hA, List.append_assoc]
    have hs : s ∈ filesM fs := by rw [hA']; simp
    obtain ⟨f1, f2⟩ := files_rm hR hA'
    rw [List.append_nil] at f2
    have hne : A ++ r0 ≠ [] := by
      intro e
      have h0 : (rdM (fromM (filesM fs)) (filesM fs)).rest = r0 ++ [s] := hr
      rw [hA', e, List.nil_append] at h0
      have h1 : rdM (fromM [s]) [s] = rdM s.n [s] := rfl
      rw [h1] at h0
      by_cases h2 : sumL (framesL s.f.data s.n) < s.f.data.size
      · rw [rdM_torn rfl h2] at h0; simp at h0
      · rw [rdM_on rfl h2] at h0; simp [rdM] at h0
    have hfrom : fromM (A ++ r0) = fromM (filesM fs) := by
      rw [hA']
      cases hx : A ++ r0 with
      | nil => exact absurd hx hne
      | cons y l => rfl
    have hrd : rdF (eff fs (rmS s)) = ⟨(rdF fs).rs, (rdF fs).nx, (rdF fs).cut, r0⟩ := by
      unfold rdF
      rw [f2, hfrom]
      have h0 : (rdM (fromM (filesM fs)) (filesM fs)).rest = r0 ++ [s] := hr
      have := rdM_less (A ++ r0) (fromM (filesM fs)) s r0 (by rw [← hA']; exact h0)
      rw [← hA'] at this
      exact this
    refine ⟨⟨by first | decide | (simp only [rmS]; decide), by first | decide | (simp only [rmS]; decide)⟩, f1, right_eff hR ⟨by first | decide | (simp only [rmS]; decide), by first | decide | (simp only [rmS]; decide)⟩ f1, ?_, by rw [hrd], by rw [hrd], by rw [f2, hfrom], hok s hs, rfl, .inr rfl⟩
    unfold mendM
    rw [hrd]
    exact hms
end Go.Proofs.YtcefhcailhediaaDoor
