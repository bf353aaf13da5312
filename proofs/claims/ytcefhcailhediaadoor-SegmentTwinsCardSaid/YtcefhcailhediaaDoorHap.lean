/- SEGMENT, MATHEMATICS: a log that was appended to, and nothing else; what a crash leaves of it. -/
import Derived.Test.YtcefhcailhediaaDoorHao
import Derived.Deep.Cut
namespace Go.Proofs.YtcefhcailhediaaDoor
open Go.RowKit
set_option maxRecDepth 100000
set_option linter.unusedVariables false
set_option linter.unusedSimpArgs false

/-- the files of a log without anything else, all synced, whole -/
structure KK (fs : List F) (fr : Nat) (rs : List Rec) : Prop where
  R : Right fs
  lg : ∀ f ∈ fs, numB f.name ≠ none
  sy : ∀ f ∈ fs, f.syn = (f.data.size : Int)
  rd : rdM fr (filesM fs) = ⟨rs, fr + rs.length, [], []⟩
  fm : fromM (filesM fs) = fr
theorem kk_nil : KK [] 1 [] := ⟨right_nil, (fun _ h => by cases h), (fun _ h => by cases h), rfl, rfl⟩
theorem rdM_empty {n : Nat} {s : SF} (h : s.n = n) (hz : s.f.data.size = 0) : rdM n [s] = ⟨[], n, [], []⟩ := by
  have e : framesL s.f.data n = [] := framesL_nil hz _
  rw [rdM_on h (by rw [hz]; exact Nat.not_lt_zero _), e]
  rfl
theorem files_map : ∀ (fs : List F), (∀ f ∈ fs, numB f.name ≠ none) → (filesM fs).map SF.f = fs
  | [], _ => rfl
  | f :: fs, h => by
    rw [filesM_cons, List.map_append, files_map fs (fun g hg => h g (List.mem_cons_of_mem _ hg))]
    cases hn : numB f.name with
    | none => exact absurd hn (h f (by simp))
    | some n => rw [sf1_some hn]; rfl
theorem rdM_count : ∀ (l : List SF) (n : Nat), (∀ s ∈ l, s.f.data.size ≤ 262144) → (rdM n l).rs.length ≤ 262144 * l.length
  | [], n, _ => by simp [rdM]
  | s :: t, n, h => by
    have h0 := framesL_len s.f.data n
    have hs := h s (by simp)
    by_cases h1 : s.n = n
    · by_cases h2 : sumL (framesL s.f.data n) < s.f.data.size
      · rw [rdM_torn h1 h2, List.length_cons]; simp only; omega
      · rw [rdM_on h1 h2, List.length_cons]
        have := rdM_count t (n + (framesL s.f.data n).length) (fun x hx => h x (List.mem_cons_of_mem _ hx))
        simp only [List.length_append]
        omega
    · rw [rdM_end h1]; simp
theorem kk_bound {fs : List F} {fr : Nat} {rs : List Rec} (h : KK fs fr rs) : rs.length ≤ 16777216 := by
  have h1 := rdM_count (filesM fs) fr (fun s hs => (h.R.ok _ (filesM_mem hs).1).2.1)
  rw [h.rd] at h1
  have h2 := filesM_len fs
  have h3 := h.R.1
  simp only at h1
  omega
theorem kk_rdF {fs : List F} {fr : Nat} {rs : List Rec} (h : KK fs fr rs) : rdF fs = ⟨rs, fr + rs.length, [], []⟩ := by unfold rdF; rw [h.fm, h.rd]
theorem kk_mend {fs : List F} {fr : Nat} {rs : List Rec} (h : KK fs fr rs) : mendM fs = [] := by unfold mendM; rw [kk_rdF h]; rfl
theorem crash_synced {fs : List F} (hR : Right fs) (hs : ∀ f ∈ fs, f.syn = (f.data.size : Int)) (ks : List Int) : crashL ks fs = fs := by
  apply List.ext_getElem?
  intro i
  cases hf : fs[i]? with
  | none =>
    rw [List.getElem?_eq_none_iff] at hf ⊢
    rw [crashL_len]; exact hf
  | some f =>
    rw [crashL_at ks fs i f hf]
    have hm := List.mem_of_getElem? hf
    have h1 := keptS_bd (hR.ok f hm) ks[i]?
    have h2 := hs f hm
    have h3 : keptS ks[i]? f = (f.data.size : Int) := by omega
    unfold crash1
    rw [h3]
    have h4 : f.data.extract 0 ((f.data.size : Int)).toNat = f.data := by
      apply bs_inj; rw [bs_ext, List.drop_zero, List.take_of_length_le (by rw [bs_len]; simp)]
    rw [h4, ← h2]
theorem kk_crash {fs : List F} {fr : Nat} {rs : List Rec} (h : KK fs fr rs) (ks : List Int) : crashL ks fs = fs := crash_synced h.R h.sy ks
/-- the last file, in both lists -/
theorem last_at {fs : List F} (hlg : ∀ f ∈ fs, numB f.name ≠ none) {l0 : List SF} {s : SF} (h : filesM fs = l0 ++ [s]) : ∃ fs0, fs = fs0 ++ [s.f] ∧ filesM fs0 = l0 := by
  have hm := files_map fs hlg
  rw [h, List.map_append, List.map_singleton] at hm
  refine ⟨l0.map SF.f, hm.symm, ?_⟩
  have hm2 : s ∈ filesM fs := by rw [h]; simp
  obtain ⟨_, _, h3⟩ := filesM_mem hm2
  rw [← hm, filesM_app, filesM_cons, h3] at h
  exact (snoc_inj h).1
/-- of the last file of a whole log -/
theorem kk_last {fs : List F} {fr : Nat} {rs : List Rec} (h : KK fs fr rs) {l0 : List SF} {s : SF} (hl : filesM fs = l0 ++ [s]) :
    ∃ r0, rdM fr l0 = ⟨r0, fr + r0.length, [], []⟩ ∧ s.n = fr + r0.length ∧ sumL (framesL s.f.data s.n) = s.f.data.size ∧ rs = r0 ++ framesL s.f.data s.n := by
  have h1 := h.rd
  rw [hl] at h1
  have h2 := rdM_pre l0 [s] fr (by rw [h1]) (by rw [h1])
  have h3 := rdM_app l0 [s] fr h2.1 h2.2
  have h4 := rdM_len l0 fr
  obtain ⟨r, hr⟩ : ∃ r, rdM fr l0 = r := ⟨_, rfl⟩
  rw [hr] at h2 h3 h4
  obtain ⟨rr, rn, rc, rt⟩ := r
  simp only at h2 h3 h4
  obtain ⟨rfl, rfl⟩ := h2
  subst h4
  rw [h1] at h3
  by_cases e1 : s.n = fr + rr.length
  · by_cases e2 : sumL (framesL s.f.data (fr + rr.length)) < s.f.data.size
    · rw [rdM_torn e1 e2] at h3; simp at h3
    · rw [rdM_on e1 e2] at h3
      simp [rdM] at h3
      have := sum_le s.f.data (fr + rr.length)
      exact ⟨rr, hr, e1, by rw [e1]; omega, by rw [e1]; exact h3.1⟩
  · rw [rdM_end e1] at h3; simp at h3
/-- all numbers lie ahead of the one to come, if the last file has something -/
theorem kk_ahead {fs : List F} {fr : Nat} {rs : List Rec} (h : KK fs fr rs) (hne : ∀ l0 s, filesM fs = l0 ++ [s] → s.f.data.size ≠ 0) : ∀ s ∈ filesM fs, s.n < fr + rs.length := by
  intro x hx
  rcases List.eq_nil_or_concat (filesM fs) with e | ⟨l0, s, e⟩
  · rw [e] at hx; cases hx
  · rw [List.concat_eq_append] at e
    obtain ⟨r0, h1, h2, h3, h4⟩ := kk_last h e
    have hz := hne l0 s e
    have hlen : 0 < (framesL s.f.data s.n).length := by
      rcases Nat.eq_zero_or_pos (framesL s.f.data s.n).length with q | q
      · rw [List.eq_nil_of_length_eq_zero q] at h3; simp [sumL] at h3; omega
      · exact q
    have hs : s.n < fr + rs.length := by rw [h4, List.length_append]; omega
    rw [e] at hx
    rcases List.mem_append.1 hx with q | q
    · have hu := filesM_up h.R
      rw [e, List.pairwise_append] at hu
      have := hu.2.2 x q s (by simp)
      omega
    · rw [List.mem_singleton] at q; subst q; exact hs
theorem okN_name (n : Nat) : okN (nameB n) := by unfold okN; rw [nameB_size]; exact ⟨by first | decide | (simp only [rmS]; decide), by first | decide | (simp only [rmS]; decide)⟩
theorem log_name {fs : List F} (hlg : ∀ f ∈ fs, numB f.name ≠ none) {f : F} (hf : f ∈ fs) : ∃ s ∈ filesM fs, s.f = f := by
  have hm := files_map fs hlg
  rw [← hm] at hf
  obtain ⟨s, hs, rfl⟩ := List.mem_map.1 hf
  exact ⟨s, hs, rfl⟩
theorem pos_end {fs : List F} {n : ByteArray} (h : ∀ f ∈ fs, lt f.name n = true) : pos fs n = fs.length :=
  pos_unique fs.length (Nat.le_refl _) (fun i f _ hf => h f (List.mem_of_getElem? hf)) (fun f hf => by simp at hf)
/-- a file for the number to come -/
theorem kk_new {fs : List F} {fr : Nat} {rs : List Rec} (h : KK fs fr rs) (hn : fr + rs.length < 4611686018427387904) (hne : ∀ l0 s, filesM fs = l0 ++ [s] → s.f.data.size ≠ 0) (z : Int) (d : ByteArray) :
    (ref fs ⟨1, nameB (fr + rs.length), d, z⟩ = if fs.length = 64 then 8 else 0) ∧ eff fs ⟨1, nameB (fr + rs.length), d, z⟩ = fs ++ [⟨nameB (fr + rs.length), ⟨#[]⟩, 0⟩] ∧
    (fs.length ≠ 64 → KK (fs ++ [⟨nameB (fr + rs.length), ⟨#[]⟩, 0⟩]) fr rs ∧ filesM (fs ++ [⟨nameB (fr + rs.length), ⟨#[]⟩, 0⟩]) = filesM fs ++ [⟨⟨nameB (fr + rs.length), ⟨#[]⟩, 0⟩, fr + rs.length, by omega⟩]) := by
  have ha := kk_ahead h hne
  have hlt : ∀ f ∈ fs, lt f.name (nameB (fr + rs.length)) = true := fun f hf => by
    obtain ⟨s, hs, rfl⟩ := log_name h.lg hf
    rw [(filesM_mem hs).2.1]
    exact nameB_lt (ha s hs) (by omega)
  have hp := pos_end hlt
  have hfn : found fs (nameB (fr + rs.length)) = none := by
    unfold found; rw [hp]; simp
  have heff : eff fs ⟨1, nameB (fr + rs.length), d, z⟩ = fs ++ [⟨nameB (fr + rs.length), ⟨#[]⟩, 0⟩] := by
    unfold eff
    rw [if_pos rfl]
    simp only [hp, List.take_length, List.drop_length]
  have hsf : sf1 ⟨nameB (fr + rs.length), ⟨#[]⟩, 0⟩ = [⟨⟨nameB (fr + rs.length), ⟨#[]⟩, 0⟩, fr + rs.length, by omega⟩] := sf1_some (numB_name (by omega))
  have hfm : filesM (fs ++ [⟨nameB (fr + rs.length), ⟨#[]⟩, 0⟩]) = filesM fs ++ [⟨⟨nameB (fr + rs.length), ⟨#[]⟩, 0⟩, fr + rs.length, by omega⟩] := by
    rw [filesM_app, filesM_cons, hsf]; rfl
  have href : ref fs ⟨1, nameB (fr + rs.length), d, z⟩ = if fs.length = 64 then 8 else 0 := by
    unfold ref
    rw [if_pos rfl, if_pos (okN_name _)]
    simp only [hfn]
    rfl
  refine ⟨href, heff, fun h64 => ⟨⟨?_, ?_, ?_, ?_, ?_⟩, hfm⟩⟩
  · rw [← heff]
    exact right_eff h.R ⟨by first | decide | (simp only [rmS]; decide), by first | decide | (simp only [rmS]; decide)⟩ (by rw [href, if_neg h64])
  · intro f hf
    rcases List.mem_append.1 hf with q | q
    · exact h.lg f q
    · rw [List.mem_singleton] at q; subst q; simp only; rw [numB_name (by omega)]; simp
  · intro f hf
    rcases List.mem_append.1 hf with q | q
    · exact h.sy f q
    · rw [List.mem_singleton] at q; subst q; rfl
  · rw [hfm, rdM_app _ _ _ (by rw [h.rd]) (by rw [h.rd]), h.rd]
    simp only
    rw [rdM_empty (by rfl) (by rfl)]
    simp
  · rw [hfm]
    cases hx : filesM fs with
    | nil =>
      have h1 := h.rd
      rw [hx] at h1
      have h2 : [] = rs := congrArg RD.rs h1
      show fr + rs.length = fr
      rw [← h2]; rfl
    | cons y t => have := h.fm; rw [hx] at this; exact this
/-- the frames of the last file, with a beginning of the next one behind them -/
theorem kk_more {fs : List F} {fr : Nat} {rs : List Rec} (h : KK fs fr rs) {l0 : List SF} {s : SF} (hl : filesM fs = l0 ++ [s]) (p : ByteArray) (f' : F) (hn : f'.name = s.f.name) (hd : f'.data = s.f.data ++ p) :
    rdM fr (l0 ++ [⟨f', s.n, s.hn⟩]) = if sumL (framesL p (fr + rs.length)) < p.size then ⟨rs ++ framesL p (fr + rs.length), fr + rs.length + (framesL p (fr + rs.length)).length, [⟨4, s.f.name, ⟨#[]⟩, (s.f.data.size + sumL (framesL p (fr + rs.length)) : Nat)⟩], []⟩
      else ⟨rs ++ framesL p (fr + rs.length), fr + rs.length + (framesL p (fr + rs.length)).length, [], []⟩ := by
  obtain ⟨r0, h1, h2, h3, h4⟩ := kk_last h hl
  have hnx : s.n + (framesL s.f.data s.n).length = fr + rs.length := by rw [h4, List.length_append]; omega
  have hfr : framesL f'.data s.n = framesL s.f.data s.n ++ framesL p (fr + rs.length) := by rw [hd, framesL_join h3, hnx]
  rw [rdM_app _ _ _ (by rw [h1]) (by rw [h1]), h1]
  simp only
  have hsum : sumL (framesL f'.data s.n) = s.f.data.size + sumL (framesL p (fr + rs.length)) := by rw [hfr, sumL_app, h3]
  have hsz : f'.data.size = s.f.data.size + p.size := by rw [hd, size_app]
  have hlen : (framesL f'.data s.n).length = (framesL s.f.data s.n).length + (framesL p (fr + rs.length)).length := by rw [hfr, List.length_append]
  have e2 : fr + r0.length = s.n := h2.symm
  rw [e2]
  by_cases c : sumL (framesL p (fr + rs.length)) < p.size
  · rw [if_pos c, rdM_torn (by rfl) (by show sumL (framesL f'.data s.n) < f'.data.size; rw [hsum, hsz]; omega)]
    simp only
    rw [hsum, hlen, hfr, hn, ← List.append_assoc, ← h4]
    congr 1
    omega
  · rw [if_neg c, rdM_on (by rfl) (by show ¬ sumL (framesL f'.data s.n) < f'.data.size; rw [hsum, hsz]; omega)]
    simp only [rdM]
    rw [hlen, hfr, List.append_nil, ← List.append_assoc, ← h4]
    congr 1
    omega
theorem right_last {fs0 : List F} {f f' : F} (h : Right (fs0 ++ [f])) (hn : f'.name = f.name) (ho : okF f') : Right (fs0 ++ [f']) := by
  have := right_set h (i := fs0.length) (f := f) (g := f') (by simp) hn ho
  simpa using this
theorem files_last {fs0 : List F} {l0 : List SF} {s : SF} {f' : F} (h0 : filesM fs0 = l0) (hs : sf1 s.f = [s]) (hn : f'.name = s.f.name) : filesM (fs0 ++ [f']) = l0 ++ [⟨f', s.n, s.hn⟩] := by
  rw [filesM_app, filesM_cons, sf1_name hn hs, h0]; rfl
/-- what may lie there when a frame was appended: its beginning is there behind a crash -/
theorem kk_torn {fs : List F} {fr : Nat} {rs : List Rec} (h : KK fs fr rs) {l0 : List SF} {s : SF} (hl : filesM fs = l0 ++ [s]) {fs0 : List F} (h0 : fs = fs0 ++ [s.f]) (hf0 : filesM fs0 = l0) (d : ByteArray) (hd : d.size ≤ 65536) (hn : fr + rs.length < 4611686018427387904)
    (hz : s.f.data.size + (16 + d.size) ≤ 262144) (k : Nat) (hk : k ≤ 16 + d.size) (f' : F) (hf' : f' = ⟨s.f.name, s.f.data ++ (frameB (fr + rs.length) d).extract 0 k, ((s.f.data.size + k : Nat) : Int)⟩) :
    Right (fs0 ++ [f']) ∧ fromM (filesM (fs0 ++ [f'])) = fr ∧
    ((k = 16 + d.size ∧ KK (fs0 ++ [f']) fr (rs ++ [⟨fr + rs.length, d, hn, hd⟩])) ∨
     (k = 0 ∧ fs0 ++ [f'] = fs) ∨
     (rdF (fs0 ++ [f']) = ⟨rs, fr + rs.length, [⟨4, s.f.name, ⟨#[]⟩, (s.f.data.size : Nat)⟩], []⟩ ∧ ref (fs0 ++ [f']) ⟨4, s.f.name, ⟨#[]⟩, (s.f.data.size : Nat)⟩ = 0 ∧ eff (fs0 ++ [f']) ⟨4, s.f.name, ⟨#[]⟩, (s.f.data.size : Nat)⟩ = fs)) := by
  subst hf'
  have hps : ((frameB (fr + rs.length) d).extract 0 k).size = k := by rw [ByteArray.size_extract, frameB_size]; omega
  have hm : s ∈ filesM fs := by rw [hl]; simp
  obtain ⟨hsf, hsn, hs1⟩ := filesM_mem hm
  have hok := h.R.ok _ hsf
  have hR : Right (fs0 ++ [⟨s.f.name, s.f.data ++ (frameB (fr + rs.length) d).extract 0 k, ((s.f.data.size + k : Nat) : Int)⟩]) := by
    refine right_last (f := s.f) (by rw [← h0]; exact h.R) rfl ⟨hok.1, ?_, ?_, ?_⟩
    · show (s.f.data ++ _).size ≤ _
      rw [size_app, hps]; omega
    · show (0 : Int) ≤ ((s.f.data.size + k : Nat) : Int)
      omega
    · show ((s.f.data.size + k : Nat) : Int) ≤ ((s.f.data ++ _).size : Int)
      rw [size_app, hps]; exact Int.le_refl _
  have hfm := files_last hf0 hs1 (f' := ⟨s.f.name, s.f.data ++ (frameB (fr + rs.length) d).extract 0 k, ((s.f.data.size + k : Nat) : Int)⟩) rfl
  have hfrom : fromM (filesM (fs0 ++ [⟨s.f.name, s.f.data ++ (frameB (fr + rs.length) d).extract 0 k, ((s.f.data.size + k : Nat) : Int)⟩])) = fr := by
    rw [hfm]
    have := h.fm
    rw [hl] at this
    cases l0 with
    | nil => exact this
    | cons y t => exact this
  have hmore := kk_more h hl ((frameB (fr + rs.length) d).extract 0 k) ⟨s.f.name, s.f.data ++ (frameB (fr + rs.length) d).extract 0 k, ((s.f.data.size + k : Nat) : Int)⟩ rfl rfl
  have hlg : ∀ f ∈ fs0 ++ [⟨s.f.name, s.f.data ++ (frameB (fr + rs.length) d).extract 0 k, ((s.f.data.size + k : Nat) : Int)⟩], numB f.name ≠ none := fun f hf => by
    rcases List.mem_append.1 hf with q | q
    · exact h.lg f (by rw [h0]; exact List.mem_append_left _ q)
    · rw [List.mem_singleton] at q; subst q; exact h.lg s.f hsf
  have hsy : ∀ f ∈ fs0 ++ [⟨s.f.name, s.f.data ++ (frameB (fr + rs.length) d).extract 0 k, ((s.f.data.size + k : Nat) : Int)⟩], f.syn = (f.data.size : Int) := fun f hf => by
    rcases List.mem_append.1 hf with q | q
    · exact h.sy f (by rw [h0]; exact List.mem_append_left _ q)
    · rw [List.mem_singleton] at q; subst q
      show ((s.f.data.size + k : Nat) : Int) = ((s.f.data ++ _).size : Int)
      rw [size_app, hps]
  refine ⟨hR, hfrom, ?_⟩
  by_cases c1 : k = 16 + d.size
  · refine .inl ⟨c1, hR, hlg, hsy, ?_, hfrom⟩
    rw [hfm, hmore]
    have e : framesL ((frameB (fr + rs.length) d).extract 0 k) (fr + rs.length) = [⟨fr + rs.length, d, hn, hd⟩] := by rw [c1, frame_whole, frames_frame hn hd]
    rw [e, hps, if_neg (by simp [sumL]; omega)]
    simp
    omega
  · by_cases c2 : k = 0
    · refine .inr (.inl ⟨c2, ?_⟩)
      rw [h0]
      congr 2
      have e : (frameB (fr + rs.length) d).extract 0 k = ⟨#[]⟩ := by
        apply bs_inj
        apply List.eq_nil_of_length_eq_zero
        rw [bs_len, hps, c2]
      have e2 : s.f.data ++ (⟨#[]⟩ : ByteArray) = s.f.data := by apply bs_inj; rw [bs_app]; simp
      rw [e, e2, c2, Nat.add_zero, ← h.sy _ hsf]
    · refine .inr (.inr ?_)
      have e : framesL ((frameB (fr + rs.length) d).extract 0 k) (fr + rs.length) = [] := frames_cut (by omega) hd
      have hrd : rdF (fs0 ++ [⟨s.f.name, s.f.data ++ (frameB (fr + rs.length) d).extract 0 k, ((s.f.data.size + k : Nat) : Int)⟩]) = ⟨rs, fr + rs.length, [⟨4, s.f.name, ⟨#[]⟩, (s.f.data.size : Nat)⟩], []⟩ := by
        unfold rdF
        rw [hfrom, hfm, hmore, e, hps, if_pos (by simp [sumL]; omega)]
        simp [sumL]
      obtain ⟨g1, g2⟩ := files_cut hR hfm s.f.data.size (by show _ ≤ (s.f.data ++ _).size; rw [size_app]; omega) ⟨#[]⟩
      refine ⟨hrd, g1, ?_⟩
      obtain ⟨q1, q2, q3, _, _⟩ := file_at hR hfm
      unfold eff
      rw [if_neg (by first | decide | (simp only [rmS]; decide))]
      simp only at q1 q2 q3 ⊢
      rw [q1]
      simp only
      rw [if_neg (by first | decide | (simp only [rmS]; decide)), if_neg (by first | decide | (simp only [rmS]; decide)), if_pos (by first | decide | (simp only [rmS]; decide))]
      have hpos : pos (fs0 ++ [⟨s.f.name, s.f.data ++ (frameB (fr + rs.length) d).extract 0 k, ((s.f.data.size + k : Nat) : Int)⟩]) s.f.name = fs0.length := by
        refine pos_unique fs0.length (by simp) (fun i f hi hf => ?_) (fun f hf => ?_)
        · exact hR.rise fs0.length i f ⟨s.f.name, s.f.data ++ (frameB (fr + rs.length) d).extract 0 k, ((s.f.data.size + k : Nat) : Int)⟩ hi hf (by simp)
        · simp at hf; subst hf; exact lt_irrefl _
      rw [hpos, h0]
      simp only [List.set_append_right _ _ (Nat.le_refl _), Nat.sub_self, List.set_cons_zero]
      congr 2
      have e3 : (s.f.data ++ (frameB (fr + rs.length) d).extract 0 k).extract 0 s.f.data.size = s.f.data := by
        rw [ext_app _ _ _ _ (Nat.le_refl _)]
        apply bs_inj; rw [bs_ext, List.drop_zero, List.take_of_length_le (by rw [bs_len]; exact Nat.le_refl _)]
      simp only [Int.toNat_natCast, e3]
      rw [← h.sy _ hsf]
end Go.Proofs.YtcefhcailhediaaDoor

/- SEGMENT, MATHEMATICS: Open; an opening that is cut off; what a log holds behind an append and a crash. -/
namespace Go.Proofs.YtcefhcailhediaaDoor
open Go.RowKit
set_option maxRecDepth 100000
set_option linter.unusedVariables false
set_option linter.unusedSimpArgs false

def zl : L := ⟨⟨[], false, 0, 0⟩, 0, 0, 0, false⟩
open Classical in
/-- what Open answers -/
noncomputable def openM (d : D) (size : Int) : L × List Rec × Int :=
  if ¬ Right d.files then (zl, [], 6) else if ¬ (1 ≤ size ∧ size ≤ 262144) then (zl, [], 2) else if d.down = true then (zl, [], 17)
  else if (doS ⟨d, size, 0, 0, false⟩ (mendM d.files)).2 = 0 then ({ (doS ⟨d, size, 0, 0, false⟩ (mendM d.files)).1 with fr := (fromM (filesM d.files) : Int), nx := ((rdF d.files).nx : Int) }, (rdF d.files).rs, 0)
  else ((doS ⟨d, size, 0, 0, false⟩ (mendM d.files)).1, [], (doS ⟨d, size, 0, 0, false⟩ (mendM d.files)).2)
/-- the files when all is mended -/
noncomputable def mended (fs : List F) : List F := (mendM fs).foldl eff fs
def Syn (fs : List F) : Prop := ∀ f ∈ fs, f.syn = (f.data.size : Int)
theorem syn_eff {fs : List F} {m : S} (h : Syn fs) (hk : m.kind = 4 ∨ m.kind = 5) (h0 : ref fs m = 0) : Syn (eff fs m) := by
  have hk1 : ¬ m.kind = 1 := by omega
  have hk2 : ¬ m.kind = 2 := by omega
  have hk3 : ¬ m.kind = 3 := by omega
  unfold ref at h0
  unfold eff
  rw [if_neg hk1] at h0 ⊢
  cases hf : found fs m.name with
  | none => exact h
  | some f =>
    rw [hf] at h0
    simp only at h0 ⊢
    rw [if_neg hk2] at h0 ⊢
    rw [if_neg hk3]
    rcases hk with hk | hk
    · rw [if_pos hk] at h0 ⊢
      split at h0
      · cases h0
      · rename_i hz
        intro g hg
        rcases List.mem_or_eq_of_mem_set hg with q | q
        · exact h g q
        · subst q
          show m.size = ((f.data.extract 0 m.size.toNat).size : Int)
          rw [ByteArray.size_extract]
          omega
    · rw [if_neg (by omega)]
      intro g hg
      exact h g ((rem_sub fs _).subset hg)
/-- how a mend goes: what is left to be mended lies there then -/
theorem doo_mend {d : D} {m : S} (hR : Right d.files) (hd : d.down = false) (hk : m.kind = 4 ∨ m.kind = 5) (h0 : ref d.files m = 0) :
    (d.fault = 0 ∧ doo d m = (⟨d.files, false, d.fuse, -1⟩, 18)) ∨ (d.fault ≠ 0 ∧ d.fuse = 0 ∧ doo d m = (⟨d.files, true, 0, dec d.fault⟩, 17)) ∨ (d.fault ≠ 0 ∧ d.fuse ≠ 0 ∧ doo d m = (⟨eff d.files m, false, dec d.fuse, dec d.fault⟩, 0)) := by
  have e : doo d m = run d m := doo_right hR (by omega)
  rw [e]
  unfold run
  rw [if_neg (by rw [hd]; decide), if_neg (by rw [h0]; decide)]
  by_cases c1 : d.fault = 0
  · rw [if_pos c1, hd]; exact .inl ⟨c1, rfl⟩
  · rw [if_neg c1]
    by_cases c2 : d.fuse = 0
    · rw [if_pos c2]
      refine .inr (.inl ⟨c1, c2, ?_⟩)
      unfold half
      rw [if_neg (by omega)]
    · rw [if_neg c2]; exact .inr (.inr ⟨c1, c2, rfl⟩)
/-- what holds of a log whose mends went so far -/
structure Mend (l : L) (fs : List F) (r : L × Int) : Prop where
  R : Right r.1.d.files
  md : mended r.1.d.files = mended fs
  rs : (rdF r.1.d.files).rs = (rdF fs).rs
  nx : (rdF r.1.d.files).nx = (rdF fs).nx
  fm : fromM (filesM r.1.d.files) = fromM (filesM fs)
  sz : r.1.size = l.size
  fr : r.1.fr = l.fr
  nx2 : r.1.nx = l.nx
  ok : r.2 = 0 → mendM r.1.d.files = [] ∧ r.1.d.down = false ∧ r.1.broken = l.broken ∧ r.1.d.files = mended fs
  free : l.d.fault = -1 → r.1.d.fault = -1 ∧ (r.2 = 0 ∨ r.2 = 17) ∧ (l.d.fuse = -1 → r.2 = 0 ∧ r.1.d.fuse = -1)
  syn : Syn fs → Syn r.1.d.files
  nu : Num l.d.fuse → Num l.d.fault → Num r.1.d.fuse ∧ Num r.1.d.fault
theorem mend_run : ∀ (ms : List S) (l : L), Right l.d.files → l.d.down = false → mendM l.d.files = ms → Mend l l.d.files (doS l ms)
  | [], l, hR, hd, hm => by
    refine ⟨hR, rfl, rfl, rfl, rfl, rfl, rfl, rfl, fun _ => ⟨hm, hd, rfl, ?_⟩, fun hf => ⟨hf, .inl rfl, fun hu => ⟨rfl, hu⟩⟩, fun h => h, fun a b => ⟨a, b⟩⟩
    show l.d.files = mended l.d.files
    unfold mended; rw [hm]; rfl
  | m :: ms, l, hR, hd, hm => by
    obtain ⟨g1, g2, g3, g4, g5, g6, g7, g8, g9, g10⟩ := mend_one hR hm
    have hmd : mended (eff l.d.files m) = mended l.d.files := by unfold mended; rw [g4, hm]; rfl
    rcases doo_mend hR hd g10 g2 with ⟨c1, e⟩ | ⟨c1, c2, e⟩ | ⟨c1, c2, e⟩
    · unfold doS
      rw [e, if_neg (by first | decide | (simp only [rmS]; decide))]
      exact ⟨hR, rfl, rfl, rfl, rfl, rfl, rfl, rfl, (fun h => by cases h), (fun h => by omega), fun h => h, fun a b => ⟨a, by show Num (-1); unfold Num; omega⟩⟩
    · unfold doS
      rw [e, if_neg (by first | decide | (simp only [rmS]; decide))]
      refine ⟨hR, rfl, rfl, rfl, rfl, rfl, rfl, rfl, fun h => (by cases h), fun h => ⟨by show dec l.d.fault = -1; rw [h]; rfl, .inr rfl, fun h2 => by omega⟩, fun h => h, fun a b => ⟨by show Num 0; unfold Num; omega, num_dec b⟩⟩
    · unfold doS
      rw [e, if_pos rfl]
      have ih := mend_run ms { l with d := ⟨eff l.d.files m, false, dec l.d.fuse, dec l.d.fault⟩ } g3 rfl g4
      obtain ⟨i1, i2, i3, i4, i5, i6, i7, i8, i9, i10, i11, i12⟩ := ih
      refine ⟨i1, i2.trans hmd, i3.trans g5, i4.trans g6, i5.trans g7, i6, i7, i8, fun h => ?_, fun h => ?_, fun h => i11 (syn_eff h g10 g2), fun a b => i12 (num_dec a) (num_dec b)⟩
      · obtain ⟨a, b, c, d⟩ := i9 h
        exact ⟨a, b, c, d.trans hmd⟩
      · obtain ⟨a, b, c⟩ := i10 (by show dec l.d.fault = -1; rw [h]; rfl)
        exact ⟨a, b, fun hu => c (by show dec l.d.fuse = -1; rw [hu]; rfl)⟩
theorem rd_mended {fs : List F} (h : mendM fs = []) : (rdF fs).cut = [] ∧ (rdF fs).rest = [] := by
  unfold mendM at h
  have h1 := List.append_eq_nil_iff.1 h
  exact ⟨h1.2, by simpa using h1.1⟩
/-- an opening that is OK -/
theorem open_ok {d : D} {size : Int} (hR : Right d.files) (hs : 1 ≤ size ∧ size ≤ 262144) (hd : d.down = false) :
    ∃ r, doS ⟨d, size, 0, 0, false⟩ (mendM d.files) = r ∧ Mend ⟨d, size, 0, 0, false⟩ d.files r ∧ openM d size = (if r.2 = 0 then ({ r.1 with fr := (fromM (filesM d.files) : Int), nx := ((rdF d.files).nx : Int) }, (rdF d.files).rs, 0) else (r.1, [], r.2)) := by
  refine ⟨_, rfl, mend_run _ ⟨d, size, 0, 0, false⟩ hR hd rfl, ?_⟩
  unfold openM
  rw [if_neg (fun h => h hR), if_neg (fun h => h hs), if_neg (by rw [hd]; decide)]
/-- an opening of a disk that never fails -/
theorem open_free {fs : List F} {size : Int} (hR : Right fs) (hs : 1 ≤ size ∧ size ≤ 262144) :
    openM ⟨fs, false, -1, -1⟩ size = (⟨⟨mended fs, false, -1, -1⟩, size, fromM (filesM fs), (rdF fs).nx, false⟩, (rdF fs).rs, 0) ∧ Right (mended fs) ∧ mendM (mended fs) = [] ∧ (rdF (mended fs)).rs = (rdF fs).rs ∧ (rdF (mended fs)).nx = (rdF fs).nx ∧ fromM (filesM (mended fs)) = fromM (filesM fs) := by
  obtain ⟨r, hr, hM, ho⟩ := open_ok (d := ⟨fs, false, -1, -1⟩) hR hs rfl
  obtain ⟨f1, _, f2⟩ := hM.free rfl
  obtain ⟨f3, f4⟩ := f2 rfl
  obtain ⟨k1, k2, k3, k4⟩ := hM.ok f3
  rw [ho, if_pos f3]
  obtain ⟨⟨⟨gs, dn, fu, fa⟩, sz, fr, nx, br⟩, c⟩ := r
  simp only at f1 f3 f4 k1 k2 k3 k4
  have h1 := hM.R
  have h2 := hM.rs
  have h3 := hM.nx
  have h4 := hM.fm
  have h5 := hM.sz
  simp only at h1 h2 h3 h4 h5
  subst f1 f3 f4 k2 k3 k4 h5
  exact ⟨rfl, h1, k1, h2, h3, h4⟩
theorem open_kk {fs : List F} {rs : List Rec} {size : Int} (h : KK fs 1 rs) (hs : 1 ≤ size ∧ size ≤ 262144) : openM ⟨fs, false, -1, -1⟩ size = (⟨⟨fs, false, -1, -1⟩, size, 1, ((1 + rs.length : Nat) : Int), false⟩, rs, 0) := by
  have h1 := (open_free h.R hs).1
  have h2 : mended fs = fs := by unfold mended; rw [kk_mend h]; rfl
  rw [h2, kk_rdF h, h.fm] at h1
  exact h1
/-- the log that goes on -/
abbrev kl (fs : List F) (rs : List Rec) (fuse fault size : Int) : L := ⟨⟨fs, false, fuse, fault⟩, size, 1, ((1 + rs.length : Nat) : Int), false⟩
/-- what an append leaves, for a crash -/
def Aft (fs : List F) (rs : List Rec) (d : ByteArray) (gs : List F) (c : Int) : Prop :=
  (c ≠ 0 ∧ KK gs 1 rs) ∨
  (∃ (fs1 : List F) (fs0 : List F) (l0 : List SF) (s : SF) (syn : Nat), KK fs1 1 rs ∧ filesM fs1 = l0 ++ [s] ∧ fs1 = fs0 ++ [s.f] ∧ filesM fs0 = l0 ∧ d.size ≤ 65536 ∧ 1 + rs.length < 4611686018427387904 ∧ s.f.data.size + (16 + d.size) ≤ 262144 ∧
    gs = fs0 ++ [⟨s.f.name, s.f.data ++ frameB (1 + rs.length) d, (syn : Int)⟩] ∧ ((c ≠ 0 ∧ syn = s.f.data.size) ∨ (c = 0 ∧ syn = s.f.data.size + (16 + d.size))))
theorem crashL_snoc : ∀ (ks : List Int) (fs : List F) (f : F), ∃ kp, crashL ks (fs ++ [f]) = crashL ks fs ++ [crash1 kp f] := by
  intro ks fs f
  refine ⟨ks[fs.length]?, ?_⟩
  apply List.ext_getElem?
  intro i
  rcases Nat.lt_trichotomy i fs.length with h | h | h
  · have h1 : (fs ++ [f])[i]? = some (fs[i]) := by rw [List.getElem?_append_left h]; simp [h]
    rw [crashL_at ks _ i _ h1, List.getElem?_append_left (by rw [crashL_len]; exact h), crashL_at ks fs i fs[i] (by simp [h])]
  · subst h
    rw [crashL_at ks _ fs.length f (by simp), List.getElem?_append_right (by rw [crashL_len]; exact Nat.le_refl _), crashL_len]
    simp
  · have h1 : (crashL ks (fs ++ [f])).length = fs.length + 1 := by rw [crashL_len]; simp
    have h2 : (crashL ks fs ++ [crash1 ks[fs.length]? f]).length = fs.length + 1 := by simp [crashL_len]
    rw [List.getElem?_eq_none_iff.2 (by omega), List.getElem?_eq_none_iff.2 (by omega)]
/-- whatever a crash leaves, it is opened as the log, with the record or without -/
theorem aft_open {fs : List F} {rs : List Rec} {d : ByteArray} {gs : List F} {c : Int} (h : Aft fs rs d gs c) (ks : List Int) {size : Int} (hs : 1 ≤ size ∧ size ≤ 262144) :
    ∃ fs2 rs2, KK fs2 1 rs2 ∧ openM ⟨crashL ks gs, false, -1, -1⟩ size = (kl fs2 rs2 (-1) (-1) size, rs2, 0) ∧ ((c ≠ 0 ∧ rs2 = rs) ∨ ∃ h1 h2, rs2 = rs ++ [⟨1 + rs.length, d, h1, h2⟩]) := by
  rcases h with ⟨hc, hk⟩ | ⟨fs1, fs0, l0, s, syn, hk, hl, h0, hf0, hd, hn, hz, rfl, hcs⟩
  · rw [kk_crash hk]
    exact ⟨gs, rs, hk, open_kk hk hs, .inl ⟨hc, rfl⟩⟩
  · have hsyn0 : ∀ f ∈ fs0, f.syn = (f.data.size : Int) := fun f hf => hk.sy f (by rw [h0]; exact List.mem_append_left _ hf)
    have hR0 : Right fs0 := by
      have h1 := right_rem hk.R fs0.length
      rw [h0] at h1
      simpa using h1
    obtain ⟨kp, hcr⟩ := crashL_snoc ks fs0 ⟨s.f.name, s.f.data ++ frameB (1 + rs.length) d, (syn : Int)⟩
    rw [hcr, crash_synced hR0 hsyn0]
    have hsz : (s.f.data ++ frameB (1 + rs.length) d).size = s.f.data.size + (16 + d.size) := by rw [size_app, frameB_size]
    have hok := hk.R.ok s.f (by rw [h0]; simp)
    have hkb := keptS_bd (f := ⟨s.f.name, s.f.data ++ frameB (1 + rs.length) d, (syn : Int)⟩) ⟨hok.1, by show (s.f.data ++ _).size ≤ _; rw [hsz]; omega, by show (0 : Int) ≤ (syn : Int); omega, by show (syn : Int) ≤ ((s.f.data ++ _).size : Int); rw [hsz]; omega⟩ kp
    obtain ⟨k, hk1⟩ : ∃ k : Nat, keptS kp ⟨s.f.name, s.f.data ++ frameB (1 + rs.length) d, (syn : Int)⟩ = ((s.f.data.size + k : Nat) : Int) := by
      simp only [hsz] at hkb
      refine ⟨(keptS kp ⟨s.f.name, s.f.data ++ frameB (1 + rs.length) d, (syn : Int)⟩).toNat - s.f.data.size, ?_⟩
      omega
    have hkb2 : syn ≤ s.f.data.size + k ∧ k ≤ 16 + d.size := by
      rw [hk1] at hkb
      simp only [hsz] at hkb
      omega
    have hcr1 : crash1 kp ⟨s.f.name, s.f.data ++ frameB (1 + rs.length) d, (syn : Int)⟩ = ⟨s.f.name, s.f.data ++ (frameB (1 + rs.length) d).extract 0 k, ((s.f.data.size + k : Nat) : Int)⟩ := by
      unfold crash1
      rw [hk1]
      simp only [Int.toNat_natCast]
      congr 1
      apply bs_inj
      rw [bs_ext, bs_app, bs_app, bs_ext, List.drop_zero, List.drop_zero, ← bs_len, List.take_length_add_append]
    rw [hcr1]
    obtain ⟨hRt, hfr, h3⟩ := kk_torn hk hl h0 hf0 d hd hn hz k hkb2.2 _ rfl
    rcases h3 with ⟨e1, hK⟩ | ⟨e1, e2⟩ | ⟨e1, e2, e3⟩
    · exact ⟨_, _, hK, by have := open_kk hK hs; exact this, .inr ⟨hn, hd, rfl⟩⟩
    · rw [e2]
      refine ⟨fs1, rs, hk, open_kk hk hs, .inl ⟨?_, rfl⟩⟩
      rcases hcs with ⟨a, _⟩ | ⟨a, b⟩
      · exact a
      · omega
    · obtain ⟨o1, _⟩ := open_free hRt hs
      have hmd : mendM (fs0 ++ [⟨s.f.name, s.f.data ++ (frameB (1 + rs.length) d).extract 0 k, ((s.f.data.size + k : Nat) : Int)⟩]) = [⟨4, s.f.name, ⟨#[]⟩, (s.f.data.size : Nat)⟩] := by unfold mendM; rw [e1]; rfl
      have hme : mended (fs0 ++ [⟨s.f.name, s.f.data ++ (frameB (1 + rs.length) d).extract 0 k, ((s.f.data.size + k : Nat) : Int)⟩]) = fs1 := by unfold mended; rw [hmd]; exact e3
      rw [hme, e1, hfr] at o1
      refine ⟨fs1, rs, hk, o1, .inl ⟨?_, rfl⟩⟩
      rcases hcs with ⟨a, _⟩ | ⟨a, b⟩
      · exact a
      · intro _
        have hks : k = 16 + d.size := by omega
        have hfull : framesL ((frameB (1 + rs.length) d).extract 0 k) (1 + rs.length) = [⟨1 + rs.length, d, hn, hd⟩] := by rw [hks, frame_whole, frames_frame hn hd]
        have hmore := kk_more hk hl ((frameB (1 + rs.length) d).extract 0 k) ⟨s.f.name, s.f.data ++ (frameB (1 + rs.length) d).extract 0 k, ((s.f.data.size + k : Nat) : Int)⟩ rfl rfl
        have hm : s ∈ filesM fs1 := by rw [hl]; simp
        have hfm := files_last hf0 (filesM_mem hm).2.2 (f' := ⟨s.f.name, s.f.data ++ (frameB (1 + rs.length) d).extract 0 k, ((s.f.data.size + k : Nat) : Int)⟩) rfl
        unfold rdF at e1
        rw [hfr, hfm, hmore, hfull, ByteArray.size_extract, frameB_size, if_neg (by simp [sumL]; omega)] at e1
        simp at e1
end Go.Proofs.YtcefhcailhediaaDoor

/- SEGMENT: THE WALK OVER Open. -/
namespace Go.Proofs.YtcefhcailhediaaDoor
open Go.RowKit
set_option maxRecDepth 100000
set_option linter.unusedVariables false
set_option linter.unusedSimpArgs false
/-- a row's room -/
def CapOk (ad : Option Addr) (n cap : Nat) : Prop := n ≤ cap ∧ (ad = none → cap = 0)
/-- what Open answers with -/
def OpP (w : World) (d : D) (size : Int) (e : Ending) (w' : World) : Prop := Below w.heap.size w w' ∧ ∃ ad2 n2 cap2 ad3 cap3,
  e = .returned (.tuple #[.agg ((openM d size).1.cells (.slice ad2 n2 cap2)), .slice ad3 (openM d size).2.1.length cap3, .int .i64 (openM d size).2.2]) ∧
  DIn w' ad2 n2 cap2 (openM d size).1.d.fuse (openM d size).1.d.fault (openM d size).1.d.files ∧ (∀ b, (Value.slice ad2 n2 cap2).ownBlock = some b → w.heap.size ≤ b) ∧ RAt w' w'.heap.size ad3 (openM d size).2.1 ∧ CapOk ad3 (openM d size).2.1.length cap3
theorem DIn.nothing (w : World) {fu fa : Int} (h1 : Num fu) (h2 : Num fa) : DIn w none 0 0 fu fa [] := ⟨⟨rfl, Nat.le_refl _, fun _ => rfl, fun h => absurd rfl h⟩, (fun f hf => by cases hf), h1.1, h1.2, h2.1, h2.2⟩
theorem opP_zero {w w' : World} {d : D} {size : Int} {c : Int} (h : openM d size = (zl, [], c)) (hb : Below w.heap.size w w') : OpP w d size (.returned (.tuple #[.agg zlog, nilV, .int .i64 c])) w' := by
  refine ⟨hb, none, 0, 0, none, 0, by rw [h]; rfl, ?_, fun b e => by simp [Value.ownBlock] at e, fun hne => absurd (by rw [h]) hne, by rw [h]; exact ⟨Nat.le_refl _, fun _ => rfl⟩⟩
  rw [h]
  exact DIn.nothing _ (by show Num 0; unfold Num; omega) (by show Num 0; unfold Num; omega)

theorem RRow.cap {w : World} {base : Nat} {ad : Option Addr} {n cap : Nat} {rs : List Rec} (h : RRow w base (.slice ad n cap) rs) : CapOk ad rs.length cap := by
  rcases h.1.2 with ⟨hv, hn⟩ | ⟨g, cap', cur, hv, _, _, hnc, _⟩
  · injection hv with _ _ e
    exact ⟨by omega, fun _ => e⟩
  · injection hv with e1 _ e
    exact ⟨by omega, fun e2 => by rw [e2] at e1; cases e1⟩
theorem RAt.far {w w' : World} {ad : Option Addr} {n cap : Nat} {rs : List Rec} (h : RAt w w.heap.size ad rs) (hs : w.heap.size ≤ w'.heap.size) (hk : ∀ b, (Value.slice ad n cap).ownBlock = some b → b < w.heap.size → w'.heap[b]? = w.heap[b]?) : RAt w' w'.heap.size ad rs := fun hne => by
  obtain ⟨g, off, e, hg, hc⟩ := h hne
  subst e
  have hb := hk g rfl hg
  refine ⟨g, off, rfl, by omega, fun i r hi => ?_⟩
  obtain ⟨h0, h1⟩ := hc i r hi
  exact ⟨(World.cell?_of_block hb).trans h0, (World.cell?_of_block hb).trans h1⟩
theorem RAt.under {w w' : World} {ad : Option Addr} {rs : List Rec} (h : RAt w w.heap.size ad rs) (hb : Below w.heap.size w w') : RAt w' w'.heap.size ad rs := h.far (n := 0) (cap := 0) hb.size (fun b _ hk => hb.block b hk)
theorem put8_other {w : World} {g b : Nat} (h : b ≠ g) (v0 v1 v2 v3 v4 v5 v6 v7 : Value) :
    ((((((((w.setCell ⟨g, 0, none⟩ v0).setCell ⟨g, 1, none⟩ v1).setCell ⟨g, 2, none⟩ v2).setCell ⟨g, 3, none⟩ v3).setCell ⟨g, 4, none⟩ v4).setCell ⟨g, 5, none⟩ v5).setCell ⟨g, 6, none⟩ v6).setCell ⟨g, 7, none⟩ v7).heap[b]? = w.heap[b]? :=
  (Below.heap_setCell _ ⟨g, 7, none⟩ v7 b h).trans ((Below.heap_setCell _ ⟨g, 6, none⟩ v6 b h).trans ((Below.heap_setCell _ ⟨g, 5, none⟩ v5 b h).trans ((Below.heap_setCell _ ⟨g, 4, none⟩ v4 b h).trans ((Below.heap_setCell _ ⟨g, 3, none⟩ v3 b h).trans ((Below.heap_setCell _ ⟨g, 2, none⟩ v2 b h).trans ((Below.heap_setCell _ ⟨g, 1, none⟩ v1 b h).trans (Below.heap_setCell w ⟨g, 0, none⟩ v0 b h)))))))
theorem put8_cell {w : World} {g b o : Nat} {v : Value} (hc : w.cell? ⟨b, o, none⟩ = some v) (h : b ≠ g) (v0 v1 v2 v3 v4 v5 v6 v7 : Value) :
    ((((((((w.setCell ⟨g, 0, none⟩ v0).setCell ⟨g, 1, none⟩ v1).setCell ⟨g, 2, none⟩ v2).setCell ⟨g, 3, none⟩ v3).setCell ⟨g, 4, none⟩ v4).setCell ⟨g, 5, none⟩ v5).setCell ⟨g, 6, none⟩ v6).setCell ⟨g, 7, none⟩ v7).cell? ⟨b, o, none⟩ = some v :=
  (World.cell?_of_block (a := ⟨b, o, none⟩) (put8_other h v0 v1 v2 v3 v4 v5 v6 v7)).trans hc
theorem put8_size (w : World) (g : Nat) (v0 v1 v2 v3 v4 v5 v6 v7 : Value) :
    ((((((((w.setCell ⟨g, 0, none⟩ v0).setCell ⟨g, 1, none⟩ v1).setCell ⟨g, 2, none⟩ v2).setCell ⟨g, 3, none⟩ v3).setCell ⟨g, 4, none⟩ v4).setCell ⟨g, 5, none⟩ v5).setCell ⟨g, 6, none⟩ v6).setCell ⟨g, 7, none⟩ v7).heap.size = w.heap.size := by simp [World.setCell]
theorem RAt.put8 {w : World} {ad : Option Addr} {n cap g : Nat} {rs : List Rec} (h : RAt w w.heap.size ad rs) (hk : ∀ b, (Value.slice ad n cap).ownBlock = some b → b ≠ g) (v0 v1 v2 v3 v4 v5 v6 v7 : Value) :
    RAt ((((((((w.setCell ⟨g, 0, none⟩ v0).setCell ⟨g, 1, none⟩ v1).setCell ⟨g, 2, none⟩ v2).setCell ⟨g, 3, none⟩ v3).setCell ⟨g, 4, none⟩ v4).setCell ⟨g, 5, none⟩ v5).setCell ⟨g, 6, none⟩ v6).setCell ⟨g, 7, none⟩ v7) ((((((((w.setCell ⟨g, 0, none⟩ v0).setCell ⟨g, 1, none⟩ v1).setCell ⟨g, 2, none⟩ v2).setCell ⟨g, 3, none⟩ v3).setCell ⟨g, 4, none⟩ v4).setCell ⟨g, 5, none⟩ v5).setCell ⟨g, 6, none⟩ v6).setCell ⟨g, 7, none⟩ v7).heap.size ad rs :=
  h.far (n := n) (cap := cap) (by rw [put8_size]; exact Nat.le_refl _) (fun b e _ => put8_other (hk b e) _ _ _ _ _ _ _ _)
theorem mends_fit : ∀ (ms : List S) (fs : List F), Right fs → mendM fs = ms → ∀ m ∈ ms, SFit m
  | [], _, _, _ => fun _ h => by cases h
  | m :: ms, fs, hR, h => by
    obtain ⟨_, _, g3, g4, _, _, _, g8, g9, _⟩ := mend_one hR h
    intro x hx
    rcases List.mem_cons.1 hx with rfl | hx
    · exact ⟨by omega, by omega⟩
    · exact mends_fit ms _ g3 g4 x hx
theorem mends_len {fs : List F} (hR : Right fs) : (mendM fs).length ≤ 1000000 := by
  have h1 := filesM_len fs
  have h2 := hR.1
  have h3 : (rdF fs).rest.length ≤ (filesM fs).length := by
    obtain ⟨A, hA⟩ := rdM_rest (filesM fs) (fromM (filesM fs))
    have := congrArg List.length hA
    rw [List.length_append] at this
    show (rdM _ _).rest.length ≤ _
    omega
  have h4 : (rdF fs).cut.length ≤ 1 := by
    rcases rdM_cut (filesM fs) (fromM (filesM fs)) with h | ⟨c, h⟩
    · show (rdM _ _).cut.length ≤ 1; rw [h]; exact Nat.zero_le _
    · show (rdM _ _).cut.length ≤ 1; rw [h]; exact Nat.le_refl _
  unfold mendM
  simp only [List.length_append, List.length_map, List.length_reverse]
  omega

set_option maxHeartbeats 4000000 in
theorem open_any (w : World) (ad : Option Addr) (n cap : Nat) (d : D) (size : Int) (h : DIn w ad n cap d.fuse d.fault d.files) (hT : Tabs w) (hw : 3 < w.heap.size) :
    Calls Tryd.prog 12 #[.agg (dcells (.slice ad n cap) d.down d.fuse d.fault), .int .i64 size] w fun e w' => OpP w d size e w' := by
  obtain ⟨fs, down, fuse, fault⟩ := d
  have hb0 : Below w.heap.size w ((w.alloc (.cells (dcells (.slice ad n cap) down fuse fault) 27)).alloc (.cells zlog 30)) := ((Below.refl _ w).alloc (Nat.le_refl _) _).alloc (by rw [sz_alloc]; omega) _
  have hx : ((w.alloc (.cells (dcells (.slice ad n cap) down fuse fault) 27)).alloc (.cells zlog 30)).heap[w.heap.size]? = some (.cells (dcells (.slice ad n cap) down fuse fault) 27 (0, 0)) := (((Below.refl _ (w.alloc (.cells (dcells (.slice ad n cap) down fuse fault) 27))).alloc (Nat.le_refl _) (.cells zlog 30)).block _ (by rw [sz_alloc]; omega)).trans (blk_new w _)
  have hz : ((w.alloc (.cells (dcells (.slice ad n cap) down fuse fault) 27)).alloc (.cells zlog 30)).heap[w.heap.size + 1]? = some (.cells zlog 30 (0, 0)) := by
    have := blk_new (w.alloc (.cells (dcells (.slice ad n cap) down fuse fault) 27)) (.cells zlog 30)
    rwa [sz_alloc] at this
  have HI := Lib.hid (h.under hb0)
  have HT := Lib.hid (hT.under hb0)
  have Hb0 := Lib.hid hb0
  have Hx := Lib.hid hx
  have Hz := Lib.hid hz
  obtain ⟨d0, d1, d2, d3⟩ := box4' hx
  clear h hb0 hx hz hT
  go_enter Tryd.func12, Tryd.ntmps12
  go_wp2_with fail
  by_cases hR : Right fs
  rotate_left
  · refine (check_no _ ad cap n down fuse fault fs HI.out.i.1 HI.out.i.2.2.2 HI.out.fit hR).mono ?_
    rintro e w1 ⟨rfl, hb1⟩
    have ho : openM ⟨fs, down, fuse, fault⟩ size = (zl, [], 6) := by unfold openM; rw [if_pos hR]
    have Ho := Lib.hid ho
    have Hz1 := Lib.hid ((hb1.block _ (Array.getElem?_eq_some_iff.1 Hz.out).1).trans Hz.out)
    have Hb1 := Lib.hid (Hb0.out.trans (hb1.mono Hb0.out.size))
    clear hb1 hR ho d0 d1 d2 d3
    obtain ⟨y0, y1, y2, y3, y4, y5, y6, y7⟩ := box8 Hz1.out
    have hlz := (Array.getElem?_eq_some_iff.1 Hz1.out).1
    have f0 := frozen_of_row w1 (w.heap.size + 1) 0 _ 30 Hz1.out
    have f1 := frozen_of_row w1 (w.heap.size + 1) 1 _ 30 Hz1.out
    have f2 := frozen_of_row w1 (w.heap.size + 1) 2 _ 30 Hz1.out
    have f3 := frozen_of_row w1 (w.heap.size + 1) 3 _ 30 Hz1.out
    have f4 := frozen_of_row w1 (w.heap.size + 1) 4 _ 30 Hz1.out
    have f5 := frozen_of_row w1 (w.heap.size + 1) 5 _ 30 Hz1.out
    have f6 := frozen_of_row w1 (w.heap.size + 1) 6 _ 30 Hz1.out
    have f7 := frozen_of_row w1 (w.heap.size + 1) 7 _ 30 Hz1.out
    have Hput := Lib.hid (cell_put8 Hz1.out nilV (.bool false) (.int .i64 0) (.int .i64 0) (.int .i64 0) (.int .u64 0) (.int .u64 0) (.bool false))
    go_wp2
    exact bodyPost_ret (v := .tuple #[.agg zlog, nilV, .int .i64 6]) (by simp [results, Tryd.results12, go_sem, y0, y1, y2, y3, y4, y5, y6, y7, Hput.out.1, Hput.out.2.1, Hput.out.2.2.1, Hput.out.2.2.2.1, Hput.out.2.2.2.2.1, Hput.out.2.2.2.2.2.1, Hput.out.2.2.2.2.2.2.1, Hput.out.2.2.2.2.2.2.2]) rfl
      (opP_zero Ho.out (below_put8 Hb1.out (by omega) _ _ _ _ _ _ _ _))
  refine (check_ok _ ad cap n down fuse fault fs HI.out.i.1 HI.out.i.2.2.2 hR).mono ?_
  rintro e w1 ⟨rfl, hb1⟩
  have HR := Lib.hid hR
  have Hz1 := Lib.hid ((hb1.block _ (Array.getElem?_eq_some_iff.1 Hz.out).1).trans Hz.out)
  have Hx1 := Lib.hid ((hb1.block _ (Array.getElem?_eq_some_iff.1 Hx.out).1).trans Hx.out)
  have Hb1 := Lib.hid (Hb0.out.trans (hb1.mono Hb0.out.size))
  have HI1 := Lib.hid (HI.out.under hb1)
  have HT1 := Lib.hid (HT.out.under hb1)
  have hw1 : 3 < w1.heap.size := by have := Hb1.out.size; omega
  clear hb1 hR d0 d1 d2 d3 HI HT Hx Hz Hb0
  obtain ⟨d0, d1, d2, d3⟩ := box4' Hx1.out
  have hlx := (Array.getElem?_eq_some_iff.1 Hx1.out).1
  go_wp2_with fail
  refine (isSize_any w1 size).mono ?_
  rintro e w2 ⟨rfl, rfl⟩
  by_cases hS : 1 ≤ size ∧ size ≤ 262144
  rotate_left
  · have e : (decide (1 ≤ size) && decide (size ≤ 262144)) = false := by
      by_cases h1 : 1 ≤ size
      · have : ¬ size ≤ 262144 := fun h => hS ⟨h1, h⟩
        simp [this]
      · simp [h1]
    rw [e]
    have HS := Lib.hid hS
    clear e hS
    have ho : openM ⟨fs, down, fuse, fault⟩ size = (zl, [], 2) := by unfold openM; rw [if_neg (fun h => h HR.out), if_pos HS.out]
    have Ho := Lib.hid ho
    clear ho d0 d1 d2 d3
    obtain ⟨y0, y1, y2, y3, y4, y5, y6, y7⟩ := box8 Hz1.out
    have hlz := (Array.getElem?_eq_some_iff.1 Hz1.out).1
    have f0 := frozen_of_row w1 (w.heap.size + 1) 0 _ 30 Hz1.out
    have f1 := frozen_of_row w1 (w.heap.size + 1) 1 _ 30 Hz1.out
    have f2 := frozen_of_row w1 (w.heap.size + 1) 2 _ 30 Hz1.out
    have f3 := frozen_of_row w1 (w.heap.size + 1) 3 _ 30 Hz1.out
    have f4 := frozen_of_row w1 (w.heap.size + 1) 4 _ 30 Hz1.out
    have f5 := frozen_of_row w1 (w.heap.size + 1) 5 _ 30 Hz1.out
    have f6 := frozen_of_row w1 (w.heap.size + 1) 6 _ 30 Hz1.out
    have f7 := frozen_of_row w1 (w.heap.size + 1) 7 _ 30 Hz1.out
    have Hput := Lib.hid (cell_put8 Hz1.out nilV (.bool false) (.int .i64 0) (.int .i64 0) (.int .i64 0) (.int .u64 0) (.int .u64 0) (.bool false))
    go_wp2
    exact bodyPost_ret (v := .tuple #[.agg zlog, nilV, .int .i64 2]) (by simp [results, Tryd.results12, go_sem, y0, y1, y2, y3, y4, y5, y6, y7, Hput.out.1, Hput.out.2.1, Hput.out.2.2.1, Hput.out.2.2.2.1, Hput.out.2.2.2.2.1, Hput.out.2.2.2.2.2.1, Hput.out.2.2.2.2.2.2.1, Hput.out.2.2.2.2.2.2.2]) rfl
      (opP_zero Ho.out (below_put8 Hb1.out (by omega) _ _ _ _ _ _ _ _))
  have e : (decide (1 ≤ size) && decide (size ≤ 262144)) = true := by simp [hS.1, hS.2]
  rw [e]
  have HS := Lib.hid hS
  clear e hS
  cases down with
  | true =>
    have ho : openM ⟨fs, true, fuse, fault⟩ size = (zl, [], 17) := by unfold openM; rw [if_neg (fun h => h HR.out), if_neg (fun h => h HS.out), if_pos rfl]
    have Ho := Lib.hid ho
    clear ho
    obtain ⟨y0, y1, y2, y3, y4, y5, y6, y7⟩ := box8 Hz1.out
    have hlz := (Array.getElem?_eq_some_iff.1 Hz1.out).1
    have f0 := frozen_of_row w1 (w.heap.size + 1) 0 _ 30 Hz1.out
    have f1 := frozen_of_row w1 (w.heap.size + 1) 1 _ 30 Hz1.out
    have f2 := frozen_of_row w1 (w.heap.size + 1) 2 _ 30 Hz1.out
    have f3 := frozen_of_row w1 (w.heap.size + 1) 3 _ 30 Hz1.out
    have f4 := frozen_of_row w1 (w.heap.size + 1) 4 _ 30 Hz1.out
    have f5 := frozen_of_row w1 (w.heap.size + 1) 5 _ 30 Hz1.out
    have f6 := frozen_of_row w1 (w.heap.size + 1) 6 _ 30 Hz1.out
    have f7 := frozen_of_row w1 (w.heap.size + 1) 7 _ 30 Hz1.out
    have Hput := Lib.hid (cell_put8 Hz1.out nilV (.bool false) (.int .i64 0) (.int .i64 0) (.int .i64 0) (.int .u64 0) (.int .u64 0) (.bool false))
    go_wp2
    exact bodyPost_ret (v := .tuple #[.agg zlog, nilV, .int .i64 17]) (by simp [results, Tryd.results12, go_sem, y0, y1, y2, y3, y4, y5, y6, y7, Hput.out.1, Hput.out.2.1, Hput.out.2.2.1, Hput.out.2.2.2.1, Hput.out.2.2.2.2.1, Hput.out.2.2.2.2.2.1, Hput.out.2.2.2.2.2.2.1, Hput.out.2.2.2.2.2.2.2]) rfl
      (opP_zero Ho.out (below_put8 Hb1.out (by omega) _ _ _ _ _ _ _ _))
  | false =>
    go_wp2_with fail
    refine (lbegin_any w1 ad cap n ⟨⟨fs, false, fuse, fault⟩, size, 0, 0, false⟩ HI1.out.i (by have h1 := HI1.out.i.1; have h2 := HR.out.1; omega)).mono ?_
    rintro e w2 ⟨g, ad2, n2, cap2, rfl, hg, hi2, ho2, hlow, hof, hb2⟩
    have HL := Lib.hid (show LAt w2 g ad2 n2 cap2 ⟨⟨fs, false, fuse, fault⟩, size, 0, 0, false⟩ from ⟨hg, ⟨hi2, HI1.out.fit, HI1.out.u0, HI1.out.u1, HI1.out.f0, HI1.out.f1⟩, ho2, fun b e => (hof b e).2⟩)
    have Hof := Lib.hid (fun b e => (hof b e).1)
    have Hlow := Lib.hid hlow
    have hz1 := (Array.getElem?_eq_some_iff.1 Hz1.out).1
    have Hz1s := Lib.hid hz1
    have Hz2 := Lib.hid ((hb2.block _ hz1).trans Hz1.out)
    have Hx2 := Lib.hid ((hb2.block _ hlx).trans Hx1.out)
    have HI2 := Lib.hid (HI1.out.under hb2)
    have HT2 := Lib.hid (HT1.out.under hb2)
    have Hb2 := Lib.hid (Hb1.out.trans (hb2.mono Hb1.out.size))
    have Hb2w := Lib.hid hb2
    have hw2 : 4 ≤ w2.heap.size := by have := hb2.size; omega
    clear d0 d1 d2 d3 hlx hg hi2 ho2 hlow hof hb2 hz1 Hx1 Hz1 HI1 HT1
    obtain ⟨d0, d1, d2, d3⟩ := box4' Hx2.out
    have hlx := (Array.getElem?_eq_some_iff.1 Hx2.out).1
    go_wp2_with fail
    refine (read_any w2 ad n cap false fuse fault fs HI2.out.i HR.out HT2.out hw2).mono ?_
    rintro e w3 ⟨rv, mv, rfl, hrr, hmt, hb3⟩
    have hg2 := (Array.getElem?_eq_some_iff.1 HL.out.h).1
    obtain ⟨am, cm, rfl, hsat⟩ := hmt.form g hg2
    obtain ⟨ar, cr, rfl, hat, hob⟩ := hrr.form
    have Hob := Lib.hid hob
    have hcr := hrr.cap
    clear hob
    have HLr := Lib.hid (HL.out.under hb3)
    have Hat := Lib.hid hat
    have Hsat := Lib.hid hsat
    have Hz3 := Lib.hid ((hb3.block _ (Array.getElem?_eq_some_iff.1 Hz2.out).1).trans Hz2.out)
    have Hb3 := Lib.hid (Hb2.out.trans (hb3.mono Hb2.out.size))
    have Hb3w := Lib.hid hb3.size
    have hg3 := (Array.getElem?_eq_some_iff.1 HLr.out.h).1
    have Hfrm := Lib.hid (fromM_bd (filesM fs))
    have Hnx := Lib.hid (rdM_bd (filesM fs) _ (fromM_bd (filesM fs)))
    have Hnl := Lib.hid (mends_len HR.out)
    have Hfit := Lib.hid (mends_fit (mendM fs) fs HR.out rfl)
    obtain ⟨fr1, hfr1⟩ : ∃ x, fromM (filesM fs) = x := ⟨_, rfl⟩
    obtain ⟨nx1, hnx1⟩ : ∃ x, (rdF fs).nx = x := ⟨_, rfl⟩
    obtain ⟨rs1, hrs1⟩ : ∃ x, (rdF fs).rs = x := ⟨_, rfl⟩
    obtain ⟨ms1, hms1⟩ : ∃ x, mendM fs = x := ⟨_, rfl⟩
    obtain ⟨⟨⟨⟨fs5, dn5, fu5, fa5⟩, sz5, fr5, nx5, br5⟩, c5⟩, hr⟩ : ∃ r, doS ⟨⟨fs, false, fuse, fault⟩, size, 0, 0, false⟩ ms1 = r := ⟨_, rfl⟩
    have ho : openM ⟨fs, false, fuse, fault⟩ size = if c5 = 0 then (⟨⟨fs5, dn5, fu5, fa5⟩, sz5, (fr1 : Int), (nx1 : Int), br5⟩, rs1, 0) else (⟨⟨fs5, dn5, fu5, fa5⟩, sz5, fr5, nx5, br5⟩, [], c5) := by
      unfold openM
      rw [if_neg (fun h => h HR.out), if_neg (fun h => h HS.out), if_neg (by simp), hms1, hr, hfr1, hnx1, hrs1]
    have Ho := Lib.hid ho
    rw [hrs1] at hat
    rw [hms1] at hsat
    have Hat := Lib.hid hat
    have Hsat := Lib.hid hsat
    rw [hfr1] at Hfrm
    rw [hms1] at Hnl Hfit
    have Hnx := Lib.hid (show nx1 ≤ 4611686018427387904 from by rw [← hnx1]; exact Hnx.out)
    rw [hrs1] at Hob hcr
    have Hcr := Lib.hid hcr
    clear hcr
    have Hob2 := Lib.hid (show ∀ b, (Value.slice ar rs1.length cr).ownBlock = some b → w2.heap.size ≤ b from Hob.out)
    rw [hfr1, hnx1, hrs1, hms1]
    have Hr := Lib.hid hr
    clear hr ho hat hsat hrr hmt hb3 hfr1 hnx1 hrs1 hms1 d0 d1 d2 d3 hlx
    obtain ⟨W4, hW4⟩ : ∃ W, W = w3.alloc (.cells #[.int .u64 (fr1 : Int), .int .u64 (nx1 : Int), .slice ar rs1.length cr, .slice am ms1.length cm] 70) := ⟨_, rfl⟩
    have hb4 : Below w3.heap.size w3 W4 := by rw [hW4]; exact (Below.refl _ w3).alloc (Nat.le_refl _) _
    have hq4 : W4.heap[w3.heap.size]? = some (.cells #[.int .u64 (fr1 : Int), .int .u64 (nx1 : Int), .slice ar rs1.length cr, .slice am ms1.length cm] 70 (0, 0)) := by rw [hW4]; exact blk_new w3 _
    have HL4 := Lib.hid (HLr.out.under hb4)
    have Hq4 := Lib.hid hq4
    have Hz4 := Lib.hid ((hb4.block _ (Array.getElem?_eq_some_iff.1 Hz3.out).1).trans Hz3.out)
    have Hat4 := Lib.hid (Hat.out.under hb4)
    have Hsat4 := Lib.hid ((Hsat.out.keep (fun k hk _ => hb4.block k hk)).up hb4.size)
    have Hb4 := Lib.hid (Hb3.out.trans (hb4.mono Hb3.out.size))
    have Hs4 := Lib.hid hb4.size
    clear hb4 hq4 HLr Hz3 Hat Hsat Hb3
    go_upto_region 10 with (fail)
    rw [← hW4]
    clear hW4
    obtain ⟨q0, q1, q2, q3⟩ := box4' Hq4.out
    have hlq := (Array.getElem?_eq_some_iff.1 Hq4.out).1
    go_wp2_with fail
    refine (ldo_any W4 g ad2 n2 cap2 _ am cm ms1 HL4.out Hsat4.out Hfit.out Hnl.out).mono ?_
    rw [Hr.out]
    rintro e w5 ⟨ad5, n5, cap5, rfl, hL5, hg5, ho5⟩
    have hgq : w3.heap.size ≠ g := by omega
    have HR5 := Lib.hid (show ∀ b, (Value.slice ar rs1.length cr).ownBlock = some b → g < b ∧ w.heap.size + 1 < b from fun b e => by have h1 := Hob2.out b e; have h2 := Hb2w.out.size; have h3 := Hz1s.out; omega)
    have Hz5 := Lib.hid ((hg5.block _ (Array.getElem?_eq_some_iff.1 Hz4.out).1 (fun e => by injection e with e; have := Hlow.out; have := Hz1s.out; omega)).trans Hz4.out)
    have Hq5 := Lib.hid ((hg5.block _ hlq (fun e => hgq (by injection e))).trans Hq4.out)
    have HL5 := Lib.hid hL5
    have Hb5 := Lib.hid (kd_to_below Hb4.out hg5 (by have := Hlow.out; have := Hb1.out.size; omega) Hb4.out.size)
    have Hat5 := Lib.hid (Hat4.out.far hg5.size (fun b e hb => hg5.block b hb (fun e2 => by injection e2 with e2; have := HR5.out b e; omega)))
    have Ho5 := Lib.hid (show ∀ b, (Value.slice ad5 n5 cap5).ownBlock = some b → w1.heap.size ≤ b from fun b hb => (ho5 b hb).elim (fun h => Hof.out b h) (fun h => by have h1 := Hb2w.out.size; have h2 := Hb3w.out; have h3 := Hs4.out; omega))
    clear hL5 ho5 hg5 q0 q1 q2 q3 hlq
    by_cases hc5 : c5 = 0
    rotate_left
    · have hc1 : (c5 != 0) = true := by simp [hc5]
      rw [if_neg hc5] at Ho
      clear hc5
      obtain ⟨y0, y1, y2, y3, y4, y5, y6, y7⟩ := box8 Hz5.out
      have hlz := (Array.getElem?_eq_some_iff.1 Hz5.out).1
      have f0 := frozen_of_row w5 (w.heap.size + 1) 0 _ 30 Hz5.out
      have f1 := frozen_of_row w5 (w.heap.size + 1) 1 _ 30 Hz5.out
      have f2 := frozen_of_row w5 (w.heap.size + 1) 2 _ 30 Hz5.out
      have f3 := frozen_of_row w5 (w.heap.size + 1) 3 _ 30 Hz5.out
      have f4 := frozen_of_row w5 (w.heap.size + 1) 4 _ 30 Hz5.out
      have f5 := frozen_of_row w5 (w.heap.size + 1) 5 _ 30 Hz5.out
      have f6 := frozen_of_row w5 (w.heap.size + 1) 6 _ 30 Hz5.out
      have f7 := frozen_of_row w5 (w.heap.size + 1) 7 _ 30 Hz5.out
      have Hput := Lib.hid (cell_put8 Hz5.out (.slice ad5 n5 cap5) (.bool dn5) (.int .i64 fu5) (.int .i64 fa5) (.int .i64 sz5) (.int .u64 fr5) (.int .u64 nx5) (.bool br5))
      obtain ⟨d0, d1, d2, d3, d4, d5, d6, d7⟩ := box8 HL5.out.h
      have hlg5 := (Array.getElem?_eq_some_iff.1 HL5.out.h).1
      go_wp2
      exact bodyPost_ret (v := .tuple #[.agg (lcells (.slice ad5 n5 cap5) dn5 fu5 fa5 sz5 fr5 nx5 br5), nilV, .int .i64 c5]) (by simp [results, Tryd.results12, go_sem, y0, y1, y2, y3, y4, y5, y6, y7, Hput.out.1, Hput.out.2.1, Hput.out.2.2.1, Hput.out.2.2.2.1, Hput.out.2.2.2.2.1, Hput.out.2.2.2.2.2.1, Hput.out.2.2.2.2.2.2.1, Hput.out.2.2.2.2.2.2.2]) rfl
        ⟨below_put8 Hb5.out (by omega) _ _ _ _ _ _ _ _, ad5, n5, cap5, none, 0, by rw [Ho.out]; rfl, by rw [Ho.out]; exact HL5.out.d.put8 (fun e => by have h1 := Ho5.out _ e; have h2 := Hz1s.out; omega) _ _ _ _ _ _ _ _, fun b hb => by have h1 := Ho5.out _ hb; have h2 := Hb1.out.size; omega, by rw [Ho.out]; exact fun hne => absurd rfl hne, by rw [Ho.out]; exact ⟨Nat.le_refl _, fun _ => rfl⟩⟩
    subst hc5
    rw [if_pos rfl] at Ho
    go_upto_region 13 with (fail)
    refine wp_region_any (by kernel_rfl) ?_
    obtain ⟨X5, hX5⟩ : ∃ W, w5.drew = W := ⟨_, rfl⟩
    change wpAny _ _ _ _ _ _ _ (w5.drew)
    rw [hX5]
    have hbx5 : Below w5.heap.size w5 X5 := by rw [← hX5]; exact (Below.refl _ w5).drew
    replace Hz5 := Lib.hid ((hbx5.block _ (Array.getElem?_eq_some_iff.1 Hz5.out).1).trans Hz5.out)
    replace Hq5 := Lib.hid ((hbx5.block _ (Array.getElem?_eq_some_iff.1 Hq5.out).1).trans Hq5.out)
    replace HL5 := Lib.hid (HL5.out.under hbx5)
    replace Hat5 := Lib.hid (Hat5.out.under hbx5)
    replace Hb5 := Lib.hid (Hb5.out.trans (hbx5.mono Hb5.out.size))
    clear hbx5 hX5
    skip
    obtain ⟨d0, d1, d2, d3, d4, d5, d6, d7⟩ := box8 HL5.out.h
    have hlg5 := (Array.getElem?_eq_some_iff.1 HL5.out.h).1
    obtain ⟨q0, q1, q2, q3⟩ := box4' Hq5.out
    have hlq := (Array.getElem?_eq_some_iff.1 Hq5.out).1
    have f5 := frozen_of_row X5 g 5 _ 74 HL5.out.h
    have f6 := frozen_of_row X5 g 6 _ 74 HL5.out.h
    refine wpAny_take (i := 0) (v := ?va_1) rfl (by kernel_rfl) (by kernel_rfl) (by kernel_rfl) (fun _ _ _ h => h) (Or.inl ⟨by kernel_rfl, ?ha_1⟩) ?ra_1
    case ha_1 => (intro w; go_simp; first | done | (with_reducible rfl))
    refine wpAny_take (i := 1) (v := ?va_2) rfl (by kernel_rfl) (by kernel_rfl) (by kernel_rfl) (fun _ _ _ h => h) (Or.inl ⟨by kernel_rfl, ?ha_2⟩) ?ra_2
    case ha_2 => (intro w; go_simp; first | done | (with_reducible rfl))
    refine wpAny_take (i := 2) (v := ?va_3) rfl (by kernel_rfl) (by kernel_rfl) (by kernel_rfl) (fun _ _ _ h => h) (Or.inl ⟨by kernel_rfl, ?ha_3⟩) ?ra_3
    case ha_3 => (intro w; go_simp; first | done | (with_reducible rfl))
    refine wpAny_take (i := 4) (v := ?va_4) rfl (by kernel_rfl) (by kernel_rfl) (by kernel_rfl) (fun _ _ _ h => h) (Or.inl ⟨by kernel_rfl, ?ha_4⟩) ?ra_4
    case ha_4 => (intro w; go_simp; first | done | (with_reducible rfl))
    refine wpAny_ready (rs := [3, 5]) (by kernel_rfl) (by simp) ?_
    refine AllReady.cons rfl (fun K hK => ?_) ?_
    · skip
      go_simp
      refine hK _ _ ?_
      clear hK K
      refine wpAny_take (i := 6) (v := ?va_5) rfl (by kernel_rfl) (by kernel_rfl) (by kernel_rfl) (fun _ _ _ h => h) (Or.inl ⟨by kernel_rfl, ?ha_5⟩) ?ra_5
      case ha_5 => (intro w; go_simp; first | done | (with_reducible rfl))
      refine wpAny_take (i := 7) (v := ?va_6) rfl (by kernel_rfl) (by kernel_rfl) (by kernel_rfl) (fun _ _ _ h => h) (Or.inl ⟨by kernel_rfl, ?ha_6⟩) ?ra_6
      case ha_6 => (intro w; go_simp; first | done | (with_reducible rfl))
      refine wpAny_take (i := 8) (v := ?va_7) rfl (by kernel_rfl) (by kernel_rfl) (by kernel_rfl) (fun _ _ _ h => h) (Or.inl ⟨by kernel_rfl, ?ha_7⟩) ?ra_7
      case ha_7 => (intro w; go_simp; first | done | (with_reducible rfl))
      refine wpAny_ready (rs := [5, 9]) (by kernel_rfl) (by simp) ?_
      refine AllReady.cons rfl (fun K hK => ?_) ?_
      · skip
        go_simp
        refine hK _ _ ?_
        clear hK K
        refine wpAny_ready (rs := [9]) (by kernel_rfl) (by simp) ?_
        refine AllReady.cons rfl (fun K hK => ?_) AllReady.nil
        go_simp
        refine hK _ _ ?_
        clear hK K
        refine wpAny_take (i := 10) (v := ?va_8) rfl (by kernel_rfl) (by kernel_rfl) (by kernel_rfl) (fun _ _ _ h => h) (Or.inl ⟨by kernel_rfl, ?ha_8⟩) ?ra_8
        case ha_8 => (intro w; go_simp; first | done | (with_reducible rfl))
        refine wpAny_take (i := 11) (v := ?va_9) rfl (by kernel_rfl) (by kernel_rfl) (by kernel_rfl) (fun _ _ _ h => h) (Or.inl ⟨by kernel_rfl, ?ha_9⟩) ?ra_9
        case ha_9 => (intro w; go_simp; first | done | (with_reducible rfl))
        refine wpAny_take (i := 12) (v := ?va_10) rfl (by kernel_rfl) (by kernel_rfl) (by kernel_rfl) (fun _ _ _ h => h) (Or.inl ⟨by kernel_rfl, ?ha_10⟩) ?ra_10
        case ha_10 => (intro w; go_simp; first | done | (with_reducible rfl))
        refine wpAny_ready (rs := [13]) (by kernel_rfl) (by simp) ?_
        refine AllReady.cons rfl (fun K hK => ?_) AllReady.nil
        go_simp
        refine hK _ _ ?_
        clear hK K
        refine wpAny_done (by kernel_rfl) ?_ _
        try go_simp
        clear d0 d1 d2 d3 d4 d5 d6 d7 f5 f6 q0 q1 q2 q3
        first | (obtain ⟨W6, hW6⟩ : ∃ W, W = (X5.setCell ⟨g, 5, none⟩ (.int .u64 (fr1 : Int))).setCell ⟨g, 6, none⟩ (.int .u64 (nx1 : Int)) := ⟨_, rfl⟩; rw [← hW6]; have HL6 := Lib.hid (show LAt W6 g ad5 n5 cap5 ⟨⟨fs5, dn5, fu5, fa5⟩, sz5, (fr1 : Int), (nx1 : Int), br5⟩ from by rw [hW6]; exact (HL5.out.frm _).nxt _); have hg6 : X5.grownBy W6 (some g) := by rw [hW6]; exact kd_set (kd_set (kd_refl g X5) _) _) | (obtain ⟨W6, hW6⟩ : ∃ W, W = (X5.setCell ⟨g, 6, none⟩ (.int .u64 (nx1 : Int))).setCell ⟨g, 5, none⟩ (.int .u64 (fr1 : Int)) := ⟨_, rfl⟩; rw [← hW6]; have HL6 := Lib.hid (show LAt W6 g ad5 n5 cap5 ⟨⟨fs5, dn5, fu5, fa5⟩, sz5, (fr1 : Int), (nx1 : Int), br5⟩ from by rw [hW6]; exact (HL5.out.nxt _).frm _); have hg6 : X5.grownBy W6 (some g) := by rw [hW6]; exact kd_set (kd_set (kd_refl g X5) _) _)
        have Hz6 := Lib.hid ((hg6.block _ (Array.getElem?_eq_some_iff.1 Hz5.out).1 (fun e => by injection e with e; have := Hlow.out; have := Hz1s.out; omega)).trans Hz5.out)
        have Hq6 := Lib.hid ((hg6.block _ (Array.getElem?_eq_some_iff.1 Hq5.out).1 (fun e => hgq (by injection e))).trans Hq5.out)
        have Hb6 := Lib.hid (kd_to_below Hb5.out hg6 (by have := Hlow.out; have := Hb1.out.size; omega) Hb5.out.size)
        have Hat6 := Lib.hid (Hat5.out.far hg6.size (fun b e hb => hg6.block b hb (fun e2 => by injection e2 with e2; have := HR5.out b e; omega)))
        clear hg6
        go_upto_region 14 with (fail)
        refine wp_region_any (by kernel_rfl) ?_
        obtain ⟨W7, hW7⟩ : ∃ W, W6.drew = W := ⟨_, rfl⟩
        change wpAny _ _ _ _ _ _ _ (W6.drew)
        rw [hW7]
        have hb7 : Below W6.heap.size W6 W7 := by rw [← hW7]; exact (Below.refl _ W6).drew
        have HL7 := Lib.hid (HL6.out.under hb7)
        have Hq7 := Lib.hid ((hb7.block _ (Array.getElem?_eq_some_iff.1 Hq6.out).1).trans Hq6.out)
        have Hz7 := Lib.hid ((hb7.block _ (Array.getElem?_eq_some_iff.1 Hz6.out).1).trans Hz6.out)
        have Hat7 := Lib.hid (Hat6.out.under hb7)
        have Hb7 := Lib.hid (Hb6.out.trans (hb7.mono Hb6.out.size))
        clear hb7 hW7
        obtain ⟨y0, y1, y2, y3, y4, y5, y6, y7⟩ := box8 Hz7.out
        have hlz := (Array.getElem?_eq_some_iff.1 Hz7.out).1
        have f0 := frozen_of_row W7 (w.heap.size + 1) 0 _ 30 Hz7.out
        have f1 := frozen_of_row W7 (w.heap.size + 1) 1 _ 30 Hz7.out
        have f2 := frozen_of_row W7 (w.heap.size + 1) 2 _ 30 Hz7.out
        have f3 := frozen_of_row W7 (w.heap.size + 1) 3 _ 30 Hz7.out
        have f4 := frozen_of_row W7 (w.heap.size + 1) 4 _ 30 Hz7.out
        have f5 := frozen_of_row W7 (w.heap.size + 1) 5 _ 30 Hz7.out
        have f6 := frozen_of_row W7 (w.heap.size + 1) 6 _ 30 Hz7.out
        have f7 := frozen_of_row W7 (w.heap.size + 1) 7 _ 30 Hz7.out
        have Hput := Lib.hid (cell_put8 Hz7.out (.slice ad5 n5 cap5) (.bool dn5) (.int .i64 fu5) (.int .i64 fa5) (.int .i64 sz5) (.int .u64 (fr1 : Int)) (.int .u64 (nx1 : Int)) (.bool br5))
        obtain ⟨d0, d1, d2, d3, d4, d5, d6, d7⟩ := box8 HL7.out.h
        have hqz : w3.heap.size ≠ w.heap.size + 1 := by have h1 := Hz1s.out; have h2 := Hb2w.out.size; have h3 := Hb3w.out; omega
        have qp2 := put8_cell (box4' Hq7.out).2.2.1 hqz (.slice ad5 n5 cap5) (.bool dn5) (.int .i64 fu5) (.int .i64 fa5) (.int .i64 sz5) (.int .u64 (fr1 : Int)) (.int .u64 (nx1 : Int)) (.bool br5)
        clear hqz
        have hlg7 := (Array.getElem?_eq_some_iff.1 HL7.out.h).1
        obtain ⟨q0, q1, q2, q3⟩ := box4' Hq7.out
        have hlq := (Array.getElem?_eq_some_iff.1 Hq7.out).1
        refine wpAny_take (i := 0) (v := ?vb1_1) rfl (by kernel_rfl) (by kernel_rfl) (by kernel_rfl) (fun _ _ _ h => h) (Or.inl ⟨by kernel_rfl, ?hb1_1⟩) ?rb1_1
        case hb1_1 => (intro w; go_simp; first | done | (with_reducible rfl))
        refine wpAny_take (i := 1) (v := ?vb1_2) rfl (by kernel_rfl) (by kernel_rfl) (by kernel_rfl) (fun _ _ _ h => h) (Or.inl ⟨by kernel_rfl, ?hb1_2⟩) ?rb1_2
        case hb1_2 => (intro w; go_simp; first | done | (with_reducible rfl))
        refine wpAny_take (i := 2) (v := ?vb1_3) rfl (by kernel_rfl) (by kernel_rfl) (by kernel_rfl) (fun _ _ _ h => h) (Or.inl ⟨by kernel_rfl, ?hb1_3⟩) ?rb1_3
        case hb1_3 => (intro w; go_simp; first | done | (with_reducible rfl))
        refine wpAny_take (i := 4) (v := ?vb1_4) rfl (by kernel_rfl) (by kernel_rfl) (by kernel_rfl) (fun _ _ _ h => h) (Or.inl ⟨by kernel_rfl, ?hb1_4⟩) ?rb1_4
        case hb1_4 => (intro w; go_simp; first | done | (with_reducible rfl))
        refine wpAny_ready (rs := [3, 5]) (by kernel_rfl) (by simp) ?_
        refine AllReady.cons rfl (fun K hK => ?_) ?_
        · skip
          go_simp
          refine hK _ _ ?_
          clear hK K
          refine wpAny_ready (rs := [5, 6]) (by kernel_rfl) (by simp) ?_
          refine AllReady.cons rfl (fun K hK => ?_) ?_
          · skip
            go_simp
            refine hK _ _ ?_
            clear hK K
            refine wpAny_ready (rs := [6]) (by kernel_rfl) (by simp) ?_
            refine AllReady.cons rfl (fun K hK => ?_) AllReady.nil
            go_simp
            refine hK _ _ ?_
            clear hK K
            refine wpAny_ready (rs := [7]) (by kernel_rfl) (by simp) ?_
            refine AllReady.cons rfl (fun K hK => ?_) AllReady.nil
            go_simp
            refine hK _ _ ?_
            clear hK K
            refine wpAny_ready (rs := [8]) (by kernel_rfl) (by simp) ?_
            refine AllReady.cons rfl (fun K hK => ?_) AllReady.nil
            go_simp
            refine hK _ _ ?_
            clear hK K
            refine wpAny_done (by kernel_rfl) ?_ _
            try go_simp
            clear y0 y1 y2 y3 y4 y5 y6 y7 f0 f1 f2 f3 f4 f5 f6 f7 d0 d1 d2 d3 d4 d5 d6 d7 q0 q1 q2 q3 qp2
            go_wp2
            exact bodyPost_ret (v := .tuple #[.agg (lcells (.slice ad5 n5 cap5) dn5 fu5 fa5 sz5 (fr1 : Int) (nx1 : Int) br5), .slice ar rs1.length cr, .int .i64 0]) (by simp [results, Tryd.results12, go_sem, Hput.out.1, Hput.out.2.1, Hput.out.2.2.1, Hput.out.2.2.2.1, Hput.out.2.2.2.2.1, Hput.out.2.2.2.2.2.1, Hput.out.2.2.2.2.2.2.1, Hput.out.2.2.2.2.2.2.2]) rfl
              ⟨below_put8 Hb7.out (by omega) _ _ _ _ _ _ _ _, ad5, n5, cap5, ar, cr, by rw [Ho.out], by rw [Ho.out]; exact HL7.out.d.put8 (fun e => by have h1 := Ho5.out _ e; have h2 := Hz1s.out; omega) _ _ _ _ _ _ _ _, fun b hb => by have h1 := Ho5.out _ hb; have h2 := Hb1.out.size; omega, by rw [Ho.out]; exact Hat7.out.put8 (fun b e => by have := HR5.out b e; omega) _ _ _ _ _ _ _ _, by rw [Ho.out]; exact Hcr.out⟩
          refine AllReady.cons rfl (fun K hK => ?_) AllReady.nil
          go_simp
          refine hK _ _ ?_
          clear hK K
          refine wpAny_ready (rs := [5]) (by kernel_rfl) (by simp) ?_
          refine AllReady.cons rfl (fun K hK => ?_) AllReady.nil
          go_simp
          refine hK _ _ ?_
          clear hK K
          refine wpAny_ready (rs := [7]) (by kernel_rfl) (by simp) ?_
          refine AllReady.cons rfl (fun K hK => ?_) AllReady.nil
          go_simp
          refine hK _ _ ?_
          clear hK K
          refine wpAny_ready (rs := [8]) (by kernel_rfl) (by simp) ?_
          refine AllReady.cons rfl (fun K hK => ?_) AllReady.nil
          go_simp
          refine hK _ _ ?_
          clear hK K
          refine wpAny_done (by kernel_rfl) ?_ _
          try go_simp
          clear y0 y1 y2 y3 y4 y5 y6 y7 f0 f1 f2 f3 f4 f5 f6 f7 d0 d1 d2 d3 d4 d5 d6 d7 q0 q1 q2 q3 qp2
          go_wp2
          exact bodyPost_ret (v := .tuple #[.agg (lcells (.slice ad5 n5 cap5) dn5 fu5 fa5 sz5 (fr1 : Int) (nx1 : Int) br5), .slice ar rs1.length cr, .int .i64 0]) (by simp [results, Tryd.results12, go_sem, Hput.out.1, Hput.out.2.1, Hput.out.2.2.1, Hput.out.2.2.2.1, Hput.out.2.2.2.2.1, Hput.out.2.2.2.2.2.1, Hput.out.2.2.2.2.2.2.1, Hput.out.2.2.2.2.2.2.2]) rfl
            ⟨below_put8 Hb7.out (by omega) _ _ _ _ _ _ _ _, ad5, n5, cap5, ar, cr, by rw [Ho.out], by rw [Ho.out]; exact HL7.out.d.put8 (fun e => by have h1 := Ho5.out _ e; have h2 := Hz1s.out; omega) _ _ _ _ _ _ _ _, fun b hb => by have h1 := Ho5.out _ hb; have h2 := Hb1.out.size; omega, by rw [Ho.out]; exact Hat7.out.put8 (fun b e => by have := HR5.out b e; omega) _ _ _ _ _ _ _ _, by rw [Ho.out]; exact Hcr.out⟩
        refine AllReady.cons rfl (fun K hK => ?_) AllReady.nil
        go_simp
        refine hK _ _ ?_
        clear hK K
        refine wpAny_ready (rs := [3]) (by kernel_rfl) (by simp) ?_
        refine AllReady.cons rfl (fun K hK => ?_) AllReady.nil
        go_simp
        refine hK _ _ ?_
        clear hK K
        refine wpAny_ready (rs := [6]) (by kernel_rfl) (by simp) ?_
        refine AllReady.cons rfl (fun K hK => ?_) AllReady.nil
        go_simp
        refine hK _ _ ?_
        clear hK K
        refine wpAny_ready (rs := [7]) (by kernel_rfl) (by simp) ?_
        refine AllReady.cons rfl (fun K hK => ?_) AllReady.nil
        go_simp
        refine hK _ _ ?_
        clear hK K
        refine wpAny_ready (rs := [8]) (by kernel_rfl) (by simp) ?_
        refine AllReady.cons rfl (fun K hK => ?_) AllReady.nil
        go_simp
        refine hK _ _ ?_
        clear hK K
        refine wpAny_done (by kernel_rfl) ?_ _
        try go_simp
        clear y0 y1 y2 y3 y4 y5 y6 y7 f0 f1 f2 f3 f4 f5 f6 f7 d0 d1 d2 d3 d4 d5 d6 d7 q0 q1 q2 q3 qp2
        go_wp2
        exact bodyPost_ret (v := .tuple #[.agg (lcells (.slice ad5 n5 cap5) dn5 fu5 fa5 sz5 (fr1 : Int) (nx1 : Int) br5), .slice ar rs1.length cr, .int .i64 0]) (by simp [results, Tryd.results12, go_sem, Hput.out.1, Hput.out.2.1, Hput.out.2.2.1, Hput.out.2.2.2.1, Hput.out.2.2.2.2.1, Hput.out.2.2.2.2.2.1, Hput.out.2.2.2.2.2.2.1, Hput.out.2.2.2.2.2.2.2]) rfl
          ⟨below_put8 Hb7.out (by omega) _ _ _ _ _ _ _ _, ad5, n5, cap5, ar, cr, by rw [Ho.out], by rw [Ho.out]; exact HL7.out.d.put8 (fun e => by have h1 := Ho5.out _ e; have h2 := Hz1s.out; omega) _ _ _ _ _ _ _ _, fun b hb => by have h1 := Ho5.out _ hb; have h2 := Hb1.out.size; omega, by rw [Ho.out]; exact Hat7.out.put8 (fun b e => by have := HR5.out b e; omega) _ _ _ _ _ _ _ _, by rw [Ho.out]; exact Hcr.out⟩
      refine AllReady.cons rfl (fun K hK => ?_) AllReady.nil
      go_simp
      refine hK _ _ ?_
      clear hK K
      refine wpAny_ready (rs := [5]) (by kernel_rfl) (by simp) ?_
      refine AllReady.cons rfl (fun K hK => ?_) AllReady.nil
      go_simp
      refine hK _ _ ?_
      clear hK K
      refine wpAny_take (i := 10) (v := ?va_11) rfl (by kernel_rfl) (by kernel_rfl) (by kernel_rfl) (fun _ _ _ h => h) (Or.inl ⟨by kernel_rfl, ?ha_11⟩) ?ra_11
      case ha_11 => (intro w; go_simp; first | done | (with_reducible rfl))
      refine wpAny_take (i := 11) (v := ?va_12) rfl (by kernel_rfl) (by kernel_rfl) (by kernel_rfl) (fun _ _ _ h => h) (Or.inl ⟨by kernel_rfl, ?ha_12⟩) ?ra_12
      case ha_12 => (intro w; go_simp; first | done | (with_reducible rfl))
      refine wpAny_take (i := 12) (v := ?va_13) rfl (by kernel_rfl) (by kernel_rfl) (by kernel_rfl) (fun _ _ _ h => h) (Or.inl ⟨by kernel_rfl, ?ha_13⟩) ?ra_13
      case ha_13 => (intro w; go_simp; first | done | (with_reducible rfl))
      refine wpAny_ready (rs := [13]) (by kernel_rfl) (by simp) ?_
      refine AllReady.cons rfl (fun K hK => ?_) AllReady.nil
      go_simp
      refine hK _ _ ?_
      clear hK K
      refine wpAny_done (by kernel_rfl) ?_ _
      try go_simp
      clear d0 d1 d2 d3 d4 d5 d6 d7 f5 f6 q0 q1 q2 q3
      first | (obtain ⟨W6, hW6⟩ : ∃ W, W = (X5.setCell ⟨g, 5, none⟩ (.int .u64 (fr1 : Int))).setCell ⟨g, 6, none⟩ (.int .u64 (nx1 : Int)) := ⟨_, rfl⟩; rw [← hW6]; have HL6 := Lib.hid (show LAt W6 g ad5 n5 cap5 ⟨⟨fs5, dn5, fu5, fa5⟩, sz5, (fr1 : Int), (nx1 : Int), br5⟩ from by rw [hW6]; exact (HL5.out.frm _).nxt _); have hg6 : X5.grownBy W6 (some g) := by rw [hW6]; exact kd_set (kd_set (kd_refl g X5) _) _) | (obtain ⟨W6, hW6⟩ : ∃ W, W = (X5.setCell ⟨g, 6, none⟩ (.int .u64 (nx1 : Int))).setCell ⟨g, 5, none⟩ (.int .u64 (fr1 : Int)) := ⟨_, rfl⟩; rw [← hW6]; have HL6 := Lib.hid (show LAt W6 g ad5 n5 cap5 ⟨⟨fs5, dn5, fu5, fa5⟩, sz5, (fr1 : Int), (nx1 : Int), br5⟩ from by rw [hW6]; exact (HL5.out.nxt _).frm _); have hg6 : X5.grownBy W6 (some g) := by rw [hW6]; exact kd_set (kd_set (kd_refl g X5) _) _)
      have Hz6 := Lib.hid ((hg6.block _ (Array.getElem?_eq_some_iff.1 Hz5.out).1 (fun e => by injection e with e; have := Hlow.out; have := Hz1s.out; omega)).trans Hz5.out)
      have Hq6 := Lib.hid ((hg6.block _ (Array.getElem?_eq_some_iff.1 Hq5.out).1 (fun e => hgq (by injection e))).trans Hq5.out)
      have Hb6 := Lib.hid (kd_to_below Hb5.out hg6 (by have := Hlow.out; have := Hb1.out.size; omega) Hb5.out.size)
      have Hat6 := Lib.hid (Hat5.out.far hg6.size (fun b e hb => hg6.block b hb (fun e2 => by injection e2 with e2; have := HR5.out b e; omega)))
      clear hg6
      go_upto_region 14 with (fail)
      refine wp_region_any (by kernel_rfl) ?_
      obtain ⟨W7, hW7⟩ : ∃ W, W6.drew = W := ⟨_, rfl⟩
      change wpAny _ _ _ _ _ _ _ (W6.drew)
      rw [hW7]
      have hb7 : Below W6.heap.size W6 W7 := by rw [← hW7]; exact (Below.refl _ W6).drew
      have HL7 := Lib.hid (HL6.out.under hb7)
      have Hq7 := Lib.hid ((hb7.block _ (Array.getElem?_eq_some_iff.1 Hq6.out).1).trans Hq6.out)
      have Hz7 := Lib.hid ((hb7.block _ (Array.getElem?_eq_some_iff.1 Hz6.out).1).trans Hz6.out)
      have Hat7 := Lib.hid (Hat6.out.under hb7)
      have Hb7 := Lib.hid (Hb6.out.trans (hb7.mono Hb6.out.size))
      clear hb7 hW7
      obtain ⟨y0, y1, y2, y3, y4, y5, y6, y7⟩ := box8 Hz7.out
      have hlz := (Array.getElem?_eq_some_iff.1 Hz7.out).1
      have f0 := frozen_of_row W7 (w.heap.size + 1) 0 _ 30 Hz7.out
      have f1 := frozen_of_row W7 (w.heap.size + 1) 1 _ 30 Hz7.out
      have f2 := frozen_of_row W7 (w.heap.size + 1) 2 _ 30 Hz7.out
      have f3 := frozen_of_row W7 (w.heap.size + 1) 3 _ 30 Hz7.out
      have f4 := frozen_of_row W7 (w.heap.size + 1) 4 _ 30 Hz7.out
      have f5 := frozen_of_row W7 (w.heap.size + 1) 5 _ 30 Hz7.out
      have f6 := frozen_of_row W7 (w.heap.size + 1) 6 _ 30 Hz7.out
      have f7 := frozen_of_row W7 (w.heap.size + 1) 7 _ 30 Hz7.out
      have Hput := Lib.hid (cell_put8 Hz7.out (.slice ad5 n5 cap5) (.bool dn5) (.int .i64 fu5) (.int .i64 fa5) (.int .i64 sz5) (.int .u64 (fr1 : Int)) (.int .u64 (nx1 : Int)) (.bool br5))
      obtain ⟨d0, d1, d2, d3, d4, d5, d6, d7⟩ := box8 HL7.out.h
      have hqz : w3.heap.size ≠ w.heap.size + 1 := by have h1 := Hz1s.out; have h2 := Hb2w.out.size; have h3 := Hb3w.out; omega
      have qp2 := put8_cell (box4' Hq7.out).2.2.1 hqz (.slice ad5 n5 cap5) (.bool dn5) (.int .i64 fu5) (.int .i64 fa5) (.int .i64 sz5) (.int .u64 (fr1 : Int)) (.int .u64 (nx1 : Int)) (.bool br5)
      clear hqz
      have hlg7 := (Array.getElem?_eq_some_iff.1 HL7.out.h).1
      obtain ⟨q0, q1, q2, q3⟩ := box4' Hq7.out
      have hlq := (Array.getElem?_eq_some_iff.1 Hq7.out).1
      refine wpAny_take (i := 0) (v := ?vb2_1) rfl (by kernel_rfl) (by kernel_rfl) (by kernel_rfl) (fun _ _ _ h => h) (Or.inl ⟨by kernel_rfl, ?hb2_1⟩) ?rb2_1
      case hb2_1 => (intro w; go_simp; first | done | (with_reducible rfl))
      refine wpAny_take (i := 1) (v := ?vb2_2) rfl (by kernel_rfl) (by kernel_rfl) (by kernel_rfl) (fun _ _ _ h => h) (Or.inl ⟨by kernel_rfl, ?hb2_2⟩) ?rb2_2
      case hb2_2 => (intro w; go_simp; first | done | (with_reducible rfl))
      refine wpAny_take (i := 2) (v := ?vb2_3) rfl (by kernel_rfl) (by kernel_rfl) (by kernel_rfl) (fun _ _ _ h => h) (Or.inl ⟨by kernel_rfl, ?hb2_3⟩) ?rb2_3
      case hb2_3 => (intro w; go_simp; first | done | (with_reducible rfl))
      refine wpAny_take (i := 4) (v := ?vb2_4) rfl (by kernel_rfl) (by kernel_rfl) (by kernel_rfl) (fun _ _ _ h => h) (Or.inl ⟨by kernel_rfl, ?hb2_4⟩) ?rb2_4
      case hb2_4 => (intro w; go_simp; first | done | (with_reducible rfl))
      refine wpAny_ready (rs := [3, 5]) (by kernel_rfl) (by simp) ?_
      refine AllReady.cons rfl (fun K hK => ?_) ?_
      · skip
        go_simp
        refine hK _ _ ?_
        clear hK K
        refine wpAny_ready (rs := [5, 6]) (by kernel_rfl) (by simp) ?_
        refine AllReady.cons rfl (fun K hK => ?_) ?_
        · skip
          go_simp
          refine hK _ _ ?_
          clear hK K
          refine wpAny_ready (rs := [6]) (by kernel_rfl) (by simp) ?_
          refine AllReady.cons rfl (fun K hK => ?_) AllReady.nil
          go_simp
          refine hK _ _ ?_
          clear hK K
          refine wpAny_ready (rs := [7]) (by kernel_rfl) (by simp) ?_
          refine AllReady.cons rfl (fun K hK => ?_) AllReady.nil
          go_simp
          refine hK _ _ ?_
          clear hK K
          refine wpAny_ready (rs := [8]) (by kernel_rfl) (by simp) ?_
          refine AllReady.cons rfl (fun K hK => ?_) AllReady.nil
          go_simp
          refine hK _ _ ?_
          clear hK K
          refine wpAny_done (by kernel_rfl) ?_ _
          try go_simp
          clear y0 y1 y2 y3 y4 y5 y6 y7 f0 f1 f2 f3 f4 f5 f6 f7 d0 d1 d2 d3 d4 d5 d6 d7 q0 q1 q2 q3 qp2
          go_wp2
          exact bodyPost_ret (v := .tuple #[.agg (lcells (.slice ad5 n5 cap5) dn5 fu5 fa5 sz5 (fr1 : Int) (nx1 : Int) br5), .slice ar rs1.length cr, .int .i64 0]) (by simp [results, Tryd.results12, go_sem, Hput.out.1, Hput.out.2.1, Hput.out.2.2.1, Hput.out.2.2.2.1, Hput.out.2.2.2.2.1, Hput.out.2.2.2.2.2.1, Hput.out.2.2.2.2.2.2.1, Hput.out.2.2.2.2.2.2.2]) rfl
            ⟨below_put8 Hb7.out (by omega) _ _ _ _ _ _ _ _, ad5, n5, cap5, ar, cr, by rw [Ho.out], by rw [Ho.out]; exact HL7.out.d.put8 (fun e => by have h1 := Ho5.out _ e; have h2 := Hz1s.out; omega) _ _ _ _ _ _ _ _, fun b hb => by have h1 := Ho5.out _ hb; have h2 := Hb1.out.size; omega, by rw [Ho.out]; exact Hat7.out.put8 (fun b e => by have := HR5.out b e; omega) _ _ _ _ _ _ _ _, by rw [Ho.out]; exact Hcr.out⟩
        refine AllReady.cons rfl (fun K hK => ?_) AllReady.nil
        go_simp
        refine hK _ _ ?_
        clear hK K
        refine wpAny_ready (rs := [5]) (by kernel_rfl) (by simp) ?_
        refine AllReady.cons rfl (fun K hK => ?_) AllReady.nil
        go_simp
        refine hK _ _ ?_
        clear hK K
        refine wpAny_ready (rs := [7]) (by kernel_rfl) (by simp) ?_
        refine AllReady.cons rfl (fun K hK => ?_) AllReady.nil
        go_simp
        refine hK _ _ ?_
        clear hK K
        refine wpAny_ready (rs := [8]) (by kernel_rfl) (by simp) ?_
        refine AllReady.cons rfl (fun K hK => ?_) AllReady.nil
        go_simp
        refine hK _ _ ?_
        clear hK K
        refine wpAny_done (by kernel_rfl) ?_ _
        try go_simp
        clear y0 y1 y2 y3 y4 y5 y6 y7 f0 f1 f2 f3 f4 f5 f6 f7 d0 d1 d2 d3 d4 d5 d6 d7 q0 q1 q2 q3 qp2
        go_wp2
        exact bodyPost_ret (v := .tuple #[.agg (lcells (.slice ad5 n5 cap5) dn5 fu5 fa5 sz5 (fr1 : Int) (nx1 : Int) br5), .slice ar rs1.length cr, .int .i64 0]) (by simp [results, Tryd.results12, go_sem, Hput.out.1, Hput.out.2.1, Hput.out.2.2.1, Hput.out.2.2.2.1, Hput.out.2.2.2.2.1, Hput.out.2.2.2.2.2.1, Hput.out.2.2.2.2.2.2.1, Hput.out.2.2.2.2.2.2.2]) rfl
          ⟨below_put8 Hb7.out (by omega) _ _ _ _ _ _ _ _, ad5, n5, cap5, ar, cr, by rw [Ho.out], by rw [Ho.out]; exact HL7.out.d.put8 (fun e => by have h1 := Ho5.out _ e; have h2 := Hz1s.out; omega) _ _ _ _ _ _ _ _, fun b hb => by have h1 := Ho5.out _ hb; have h2 := Hb1.out.size; omega, by rw [Ho.out]; exact Hat7.out.put8 (fun b e => by have := HR5.out b e; omega) _ _ _ _ _ _ _ _, by rw [Ho.out]; exact Hcr.out⟩
      refine AllReady.cons rfl (fun K hK => ?_) AllReady.nil
      go_simp
      refine hK _ _ ?_
      clear hK K
      refine wpAny_ready (rs := [3]) (by kernel_rfl) (by simp) ?_
      refine AllReady.cons rfl (fun K hK => ?_) AllReady.nil
      go_simp
      refine hK _ _ ?_
      clear hK K
      refine wpAny_ready (rs := [6]) (by kernel_rfl) (by simp) ?_
      refine AllReady.cons rfl (fun K hK => ?_) AllReady.nil
      go_simp
      refine hK _ _ ?_
      clear hK K
      refine wpAny_ready (rs := [7]) (by kernel_rfl) (by simp) ?_
      refine AllReady.cons rfl (fun K hK => ?_) AllReady.nil
      go_simp
      refine hK _ _ ?_
      clear hK K
      refine wpAny_ready (rs := [8]) (by kernel_rfl) (by simp) ?_
      refine AllReady.cons rfl (fun K hK => ?_) AllReady.nil
      go_simp
      refine hK _ _ ?_
      clear hK K
      refine wpAny_done (by kernel_rfl) ?_ _
      try go_simp
      clear y0 y1 y2 y3 y4 y5 y6 y7 f0 f1 f2 f3 f4 f5 f6 f7 d0 d1 d2 d3 d4 d5 d6 d7 q0 q1 q2 q3 qp2
      go_wp2
      exact bodyPost_ret (v := .tuple #[.agg (lcells (.slice ad5 n5 cap5) dn5 fu5 fa5 sz5 (fr1 : Int) (nx1 : Int) br5), .slice ar rs1.length cr, .int .i64 0]) (by simp [results, Tryd.results12, go_sem, Hput.out.1, Hput.out.2.1, Hput.out.2.2.1, Hput.out.2.2.2.1, Hput.out.2.2.2.2.1, Hput.out.2.2.2.2.2.1, Hput.out.2.2.2.2.2.2.1, Hput.out.2.2.2.2.2.2.2]) rfl
        ⟨below_put8 Hb7.out (by omega) _ _ _ _ _ _ _ _, ad5, n5, cap5, ar, cr, by rw [Ho.out], by rw [Ho.out]; exact HL7.out.d.put8 (fun e => by have h1 := Ho5.out _ e; have h2 := Hz1s.out; omega) _ _ _ _ _ _ _ _, fun b hb => by have h1 := Ho5.out _ hb; have h2 := Hb1.out.size; omega, by rw [Ho.out]; exact Hat7.out.put8 (fun b e => by have := HR5.out b e; omega) _ _ _ _ _ _ _ _, by rw [Ho.out]; exact Hcr.out⟩
    refine AllReady.cons rfl (fun K hK => ?_) AllReady.nil
    go_simp
    refine hK _ _ ?_
    clear hK K
    refine wpAny_ready (rs := [3]) (by kernel_rfl) (by simp) ?_
    refine AllReady.cons rfl (fun K hK => ?_) AllReady.nil
    go_simp
    refine hK _ _ ?_
    clear hK K
    refine wpAny_take (i := 6) (v := ?va_14) rfl (by kernel_rfl) (by kernel_rfl) (by kernel_rfl) (fun _ _ _ h => h) (Or.inl ⟨by kernel_rfl, ?ha_14⟩) ?ra_14
    case ha_14 => (intro w; go_simp; first | done | (with_reducible rfl))
    refine wpAny_take (i := 7) (v := ?va_15) rfl (by kernel_rfl) (by kernel_rfl) (by kernel_rfl) (fun _ _ _ h => h) (Or.inl ⟨by kernel_rfl, ?ha_15⟩) ?ra_15
    case ha_15 => (intro w; go_simp; first | done | (with_reducible rfl))
    refine wpAny_take (i := 8) (v := ?va_16) rfl (by kernel_rfl) (by kernel_rfl) (by kernel_rfl) (fun _ _ _ h => h) (Or.inl ⟨by kernel_rfl, ?ha_16⟩) ?ra_16
    case ha_16 => (intro w; go_simp; first | done | (with_reducible rfl))
    refine wpAny_ready (rs := [9]) (by kernel_rfl) (by simp) ?_
    refine AllReady.cons rfl (fun K hK => ?_) AllReady.nil
    go_simp
    refine hK _ _ ?_
    clear hK K
    refine wpAny_take (i := 10) (v := ?va_17) rfl (by kernel_rfl) (by kernel_rfl) (by kernel_rfl) (fun _ _ _ h => h) (Or.inl ⟨by kernel_rfl, ?ha_17⟩) ?ra_17
    case ha_17 => (intro w; go_simp; first | done | (with_reducible rfl))
    refine wpAny_take (i := 11) (v := ?va_18) rfl (by kernel_rfl) (by kernel_rfl) (by kernel_rfl) (fun _ _ _ h => h) (Or.inl ⟨by kernel_rfl, ?ha_18⟩) ?ra_18
    case ha_18 => (intro w; go_simp; first | done | (with_reducible rfl))
    refine wpAny_take (i := 12) (v := ?va_19) rfl (by kernel_rfl) (by kernel_rfl) (by kernel_rfl) (fun _ _ _ h => h) (Or.inl ⟨by kernel_rfl, ?ha_19⟩) ?ra_19
    case ha_19 => (intro w; go_simp; first | done | (with_reducible rfl))
    refine wpAny_ready (rs := [13]) (by kernel_rfl) (by simp) ?_
    refine AllReady.cons rfl (fun K hK => ?_) AllReady.nil
    go_simp
    refine hK _ _ ?_
    clear hK K
    refine wpAny_done (by kernel_rfl) ?_ _
    try go_simp
    clear d0 d1 d2 d3 d4 d5 d6 d7 f5 f6 q0 q1 q2 q3
    first | (obtain ⟨W6, hW6⟩ : ∃ W, W = (X5.setCell ⟨g, 5, none⟩ (.int .u64 (fr1 : Int))).setCell ⟨g, 6, none⟩ (.int .u64 (nx1 : Int)) := ⟨_, rfl⟩; rw [← hW6]; have HL6 := Lib.hid (show LAt W6 g ad5 n5 cap5 ⟨⟨fs5, dn5, fu5, fa5⟩, sz5, (fr1 : Int), (nx1 : Int), br5⟩ from by rw [hW6]; exact (HL5.out.frm _).nxt _); have hg6 : X5.grownBy W6 (some g) := by rw [hW6]; exact kd_set (kd_set (kd_refl g X5) _) _) | (obtain ⟨W6, hW6⟩ : ∃ W, W = (X5.setCell ⟨g, 6, none⟩ (.int .u64 (nx1 : Int))).setCell ⟨g, 5, none⟩ (.int .u64 (fr1 : Int)) := ⟨_, rfl⟩; rw [← hW6]; have HL6 := Lib.hid (show LAt W6 g ad5 n5 cap5 ⟨⟨fs5, dn5, fu5, fa5⟩, sz5, (fr1 : Int), (nx1 : Int), br5⟩ from by rw [hW6]; exact (HL5.out.nxt _).frm _); have hg6 : X5.grownBy W6 (some g) := by rw [hW6]; exact kd_set (kd_set (kd_refl g X5) _) _)
    have Hz6 := Lib.hid ((hg6.block _ (Array.getElem?_eq_some_iff.1 Hz5.out).1 (fun e => by injection e with e; have := Hlow.out; have := Hz1s.out; omega)).trans Hz5.out)
    have Hq6 := Lib.hid ((hg6.block _ (Array.getElem?_eq_some_iff.1 Hq5.out).1 (fun e => hgq (by injection e))).trans Hq5.out)
    have Hb6 := Lib.hid (kd_to_below Hb5.out hg6 (by have := Hlow.out; have := Hb1.out.size; omega) Hb5.out.size)
    have Hat6 := Lib.hid (Hat5.out.far hg6.size (fun b e hb => hg6.block b hb (fun e2 => by injection e2 with e2; have := HR5.out b e; omega)))
    clear hg6
    go_upto_region 14 with (fail)
    refine wp_region_any (by kernel_rfl) ?_
    obtain ⟨W7, hW7⟩ : ∃ W, W6.drew = W := ⟨_, rfl⟩
    change wpAny _ _ _ _ _ _ _ (W6.drew)
    rw [hW7]
    have hb7 : Below W6.heap.size W6 W7 := by rw [← hW7]; exact (Below.refl _ W6).drew
    have HL7 := Lib.hid (HL6.out.under hb7)
    have Hq7 := Lib.hid ((hb7.block _ (Array.getElem?_eq_some_iff.1 Hq6.out).1).trans Hq6.out)
    have Hz7 := Lib.hid ((hb7.block _ (Array.getElem?_eq_some_iff.1 Hz6.out).1).trans Hz6.out)
    have Hat7 := Lib.hid (Hat6.out.under hb7)
    have Hb7 := Lib.hid (Hb6.out.trans (hb7.mono Hb6.out.size))
    clear hb7 hW7
    obtain ⟨y0, y1, y2, y3, y4, y5, y6, y7⟩ := box8 Hz7.out
    have hlz := (Array.getElem?_eq_some_iff.1 Hz7.out).1
    have f0 := frozen_of_row W7 (w.heap.size + 1) 0 _ 30 Hz7.out
    have f1 := frozen_of_row W7 (w.heap.size + 1) 1 _ 30 Hz7.out
    have f2 := frozen_of_row W7 (w.heap.size + 1) 2 _ 30 Hz7.out
    have f3 := frozen_of_row W7 (w.heap.size + 1) 3 _ 30 Hz7.out
    have f4 := frozen_of_row W7 (w.heap.size + 1) 4 _ 30 Hz7.out
    have f5 := frozen_of_row W7 (w.heap.size + 1) 5 _ 30 Hz7.out
    have f6 := frozen_of_row W7 (w.heap.size + 1) 6 _ 30 Hz7.out
    have f7 := frozen_of_row W7 (w.heap.size + 1) 7 _ 30 Hz7.out
    have Hput := Lib.hid (cell_put8 Hz7.out (.slice ad5 n5 cap5) (.bool dn5) (.int .i64 fu5) (.int .i64 fa5) (.int .i64 sz5) (.int .u64 (fr1 : Int)) (.int .u64 (nx1 : Int)) (.bool br5))
    obtain ⟨d0, d1, d2, d3, d4, d5, d6, d7⟩ := box8 HL7.out.h
    have hqz : w3.heap.size ≠ w.heap.size + 1 := by have h1 := Hz1s.out; have h2 := Hb2w.out.size; have h3 := Hb3w.out; omega
    have qp2 := put8_cell (box4' Hq7.out).2.2.1 hqz (.slice ad5 n5 cap5) (.bool dn5) (.int .i64 fu5) (.int .i64 fa5) (.int .i64 sz5) (.int .u64 (fr1 : Int)) (.int .u64 (nx1 : Int)) (.bool br5)
    clear hqz
    have hlg7 := (Array.getElem?_eq_some_iff.1 HL7.out.h).1
    obtain ⟨q0, q1, q2, q3⟩ := box4' Hq7.out
    have hlq := (Array.getElem?_eq_some_iff.1 Hq7.out).1
    refine wpAny_take (i := 0) (v := ?vb3_1) rfl (by kernel_rfl) (by kernel_rfl) (by kernel_rfl) (fun _ _ _ h => h) (Or.inl ⟨by kernel_rfl, ?hb3_1⟩) ?rb3_1
    case hb3_1 => (intro w; go_simp; first | done | (with_reducible rfl))
    refine wpAny_take (i := 1) (v := ?vb3_2) rfl (by kernel_rfl) (by kernel_rfl) (by kernel_rfl) (fun _ _ _ h => h) (Or.inl ⟨by kernel_rfl, ?hb3_2⟩) ?rb3_2
    case hb3_2 => (intro w; go_simp; first | done | (with_reducible rfl))
    refine wpAny_take (i := 2) (v := ?vb3_3) rfl (by kernel_rfl) (by kernel_rfl) (by kernel_rfl) (fun _ _ _ h => h) (Or.inl ⟨by kernel_rfl, ?hb3_3⟩) ?rb3_3
    case hb3_3 => (intro w; go_simp; first | done | (with_reducible rfl))
    refine wpAny_take (i := 4) (v := ?vb3_4) rfl (by kernel_rfl) (by kernel_rfl) (by kernel_rfl) (fun _ _ _ h => h) (Or.inl ⟨by kernel_rfl, ?hb3_4⟩) ?rb3_4
    case hb3_4 => (intro w; go_simp; first | done | (with_reducible rfl))
    refine wpAny_ready (rs := [3, 5]) (by kernel_rfl) (by simp) ?_
    refine AllReady.cons rfl (fun K hK => ?_) ?_
    · skip
      go_simp
      refine hK _ _ ?_
      clear hK K
      refine wpAny_ready (rs := [5, 6]) (by kernel_rfl) (by simp) ?_
      refine AllReady.cons rfl (fun K hK => ?_) ?_
      · skip
        go_simp
        refine hK _ _ ?_
        clear hK K
        refine wpAny_ready (rs := [6]) (by kernel_rfl) (by simp) ?_
        refine AllReady.cons rfl (fun K hK => ?_) AllReady.nil
        go_simp
        refine hK _ _ ?_
        clear hK K
        refine wpAny_ready (rs := [7]) (by kernel_rfl) (by simp) ?_
        refine AllReady.cons rfl (fun K hK => ?_) AllReady.nil
        go_simp
        refine hK _ _ ?_
        clear hK K
        refine wpAny_ready (rs := [8]) (by kernel_rfl) (by simp) ?_
        refine AllReady.cons rfl (fun K hK => ?_) AllReady.nil
        go_simp
        refine hK _ _ ?_
        clear hK K
        refine wpAny_done (by kernel_rfl) ?_ _
        try go_simp
        clear y0 y1 y2 y3 y4 y5 y6 y7 f0 f1 f2 f3 f4 f5 f6 f7 d0 d1 d2 d3 d4 d5 d6 d7 q0 q1 q2 q3 qp2
        go_wp2
        exact bodyPost_ret (v := .tuple #[.agg (lcells (.slice ad5 n5 cap5) dn5 fu5 fa5 sz5 (fr1 : Int) (nx1 : Int) br5), .slice ar rs1.length cr, .int .i64 0]) (by simp [results, Tryd.results12, go_sem, Hput.out.1, Hput.out.2.1, Hput.out.2.2.1, Hput.out.2.2.2.1, Hput.out.2.2.2.2.1, Hput.out.2.2.2.2.2.1, Hput.out.2.2.2.2.2.2.1, Hput.out.2.2.2.2.2.2.2]) rfl
          ⟨below_put8 Hb7.out (by omega) _ _ _ _ _ _ _ _, ad5, n5, cap5, ar, cr, by rw [Ho.out], by rw [Ho.out]; exact HL7.out.d.put8 (fun e => by have h1 := Ho5.out _ e; have h2 := Hz1s.out; omega) _ _ _ _ _ _ _ _, fun b hb => by have h1 := Ho5.out _ hb; have h2 := Hb1.out.size; omega, by rw [Ho.out]; exact Hat7.out.put8 (fun b e => by have := HR5.out b e; omega) _ _ _ _ _ _ _ _, by rw [Ho.out]; exact Hcr.out⟩
      refine AllReady.cons rfl (fun K hK => ?_) AllReady.nil
      go_simp
      refine hK _ _ ?_
      clear hK K
      refine wpAny_ready (rs := [5]) (by kernel_rfl) (by simp) ?_
      refine AllReady.cons rfl (fun K hK => ?_) AllReady.nil
      go_simp
      refine hK _ _ ?_
      clear hK K
      refine wpAny_ready (rs := [7]) (by kernel_rfl) (by simp) ?_
      refine AllReady.cons rfl (fun K hK => ?_) AllReady.nil
      go_simp
      refine hK _ _ ?_
      clear hK K
      refine wpAny_ready (rs := [8]) (by kernel_rfl) (by simp) ?_
      refine AllReady.cons rfl (fun K hK => ?_) AllReady.nil
      go_simp
      refine hK _ _ ?_
      clear hK K
      refine wpAny_done (by kernel_rfl) ?_ _
      try go_simp
      clear y0 y1 y2 y3 y4 y5 y6 y7 f0 f1 f2 f3 f4 f5 f6 f7 d0 d1 d2 d3 d4 d5 d6 d7 q0 q1 q2 q3 qp2
      go_wp2
      exact bodyPost_ret (v := .tuple #[.agg (lcells (.slice ad5 n5 cap5) dn5 fu5 fa5 sz5 (fr1 : Int) (nx1 : Int) br5), .slice ar rs1.length cr, .int .i64 0]) (by simp [results, Tryd.results12, go_sem, Hput.out.1, Hput.out.2.1, Hput.out.2.2.1, Hput.out.2.2.2.1, Hput.out.2.2.2.2.1, Hput.out.2.2.2.2.2.1, Hput.out.2.2.2.2.2.2.1, Hput.out.2.2.2.2.2.2.2]) rfl
        ⟨below_put8 Hb7.out (by omega) _ _ _ _ _ _ _ _, ad5, n5, cap5, ar, cr, by rw [Ho.out], by rw [Ho.out]; exact HL7.out.d.put8 (fun e => by have h1 := Ho5.out _ e; have h2 := Hz1s.out; omega) _ _ _ _ _ _ _ _, fun b hb => by have h1 := Ho5.out _ hb; have h2 := Hb1.out.size; omega, by rw [Ho.out]; exact Hat7.out.put8 (fun b e => by have := HR5.out b e; omega) _ _ _ _ _ _ _ _, by rw [Ho.out]; exact Hcr.out⟩
    refine AllReady.cons rfl (fun K hK => ?_) AllReady.nil
    go_simp
    refine hK _ _ ?_
    clear hK K
    refine wpAny_ready (rs := [3]) (by kernel_rfl) (by simp) ?_
    refine AllReady.cons rfl (fun K hK => ?_) AllReady.nil
    go_simp
    refine hK _ _ ?_
    clear hK K
    refine wpAny_ready (rs := [6]) (by kernel_rfl) (by simp) ?_
    refine AllReady.cons rfl (fun K hK => ?_) AllReady.nil
    go_simp
    refine hK _ _ ?_
    clear hK K
    refine wpAny_ready (rs := [7]) (by kernel_rfl) (by simp) ?_
    refine AllReady.cons rfl (fun K hK => ?_) AllReady.nil
    go_simp
    refine hK _ _ ?_
    clear hK K
    refine wpAny_ready (rs := [8]) (by kernel_rfl) (by simp) ?_
    refine AllReady.cons rfl (fun K hK => ?_) AllReady.nil
    go_simp
    refine hK _ _ ?_
    clear hK K
    refine wpAny_done (by kernel_rfl) ?_ _
    try go_simp
    clear y0 y1 y2 y3 y4 y5 y6 y7 f0 f1 f2 f3 f4 f5 f6 f7 d0 d1 d2 d3 d4 d5 d6 d7 q0 q1 q2 q3 qp2
    go_wp2
    exact bodyPost_ret (v := .tuple #[.agg (lcells (.slice ad5 n5 cap5) dn5 fu5 fa5 sz5 (fr1 : Int) (nx1 : Int) br5), .slice ar rs1.length cr, .int .i64 0]) (by simp [results, Tryd.results12, go_sem, Hput.out.1, Hput.out.2.1, Hput.out.2.2.1, Hput.out.2.2.2.1, Hput.out.2.2.2.2.1, Hput.out.2.2.2.2.2.1, Hput.out.2.2.2.2.2.2.1, Hput.out.2.2.2.2.2.2.2]) rfl
      ⟨below_put8 Hb7.out (by omega) _ _ _ _ _ _ _ _, ad5, n5, cap5, ar, cr, by rw [Ho.out], by rw [Ho.out]; exact HL7.out.d.put8 (fun e => by have h1 := Ho5.out _ e; have h2 := Hz1s.out; omega) _ _ _ _ _ _ _ _, fun b hb => by have h1 := Ho5.out _ hb; have h2 := Hb1.out.size; omega, by rw [Ho.out]; exact Hat7.out.put8 (fun b e => by have := HR5.out b e; omega) _ _ _ _ _ _ _ _, by rw [Ho.out]; exact Hcr.out⟩
end Go.Proofs.YtcefhcailhediaaDoor

/- SEGMENT, MATHEMATICS: an append to a log that was appended to, and nothing else. -/
namespace Go.Proofs.YtcefhcailhediaaDoor
open Go.RowKit
set_option maxRecDepth 100000
set_option linter.unusedVariables false
set_option linter.unusedSimpArgs false

theorem last_snoc {α : Type} (l : List α) (x : α) : (l ++ [x]).getLast? = some x := by simp
theorem doo3 {d : D} {m : S} (hR : Right d.files) (hd : d.down = false) (hk : 1 ≤ m.kind ∧ m.kind ≤ 5) (h0 : ref d.files m = 0) :
    (d.fault = 0 ∧ doo d m = (⟨d.files, false, d.fuse, -1⟩, 18)) ∨ (d.fault ≠ 0 ∧ d.fuse = 0 ∧ doo d m = (⟨half d.files m, true, 0, dec d.fault⟩, 17)) ∨ (d.fault ≠ 0 ∧ d.fuse ≠ 0 ∧ doo d m = (⟨eff d.files m, false, dec d.fuse, dec d.fault⟩, 0)) := by
  have e : doo d m = run d m := doo_right hR hk
  rw [e]
  unfold run
  rw [if_neg (by rw [hd]; decide), if_neg (by rw [h0]; decide)]
  by_cases c1 : d.fault = 0
  · rw [if_pos c1, hd]; exact .inl ⟨c1, rfl⟩
  · rw [if_neg c1]
    by_cases c2 : d.fuse = 0
    · rw [if_pos c2]; exact .inr (.inl ⟨c1, c2, rfl⟩)
    · rw [if_neg c2]; exact .inr (.inr ⟨c1, c2, rfl⟩)
theorem pos_last {fs0 : List F} {f : F} (hR : Right (fs0 ++ [f])) : pos (fs0 ++ [f]) f.name = fs0.length ∧ found (fs0 ++ [f]) f.name = some f := by
  have h1 : pos (fs0 ++ [f]) f.name = fs0.length := by
    refine pos_unique fs0.length (by simp) (fun i g hi hg => ?_) (fun g hg => ?_)
    · exact hR.rise fs0.length i g f hi hg (by simp)
    · simp at hg; subst hg; exact lt_irrefl _
  refine ⟨h1, ?_⟩
  unfold found
  rw [h1]
  simp
theorem eff_last2 {fs0 : List F} {f : F} (hR : Right (fs0 ++ [f])) (x : ByteArray) (hx : f.data.size + x.size ≤ 262144) : ref (fs0 ++ [f]) ⟨2, f.name, x, 0⟩ = 0 ∧ eff (fs0 ++ [f]) ⟨2, f.name, x, 0⟩ = fs0 ++ [⟨f.name, f.data ++ x, f.syn⟩] := by
  obtain ⟨h1, h2⟩ := pos_last hR
  constructor
  · unfold ref
    rw [if_neg (by first | decide | (simp only [rmS]; decide))]
    simp only [h2]
    rw [if_pos (by first | decide | (simp only [rmS]; decide)), if_neg (by omega)]
  · unfold eff
    rw [if_neg (by first | decide | (simp only [rmS]; decide))]
    simp only [h2, h1]
    rw [if_pos (by first | decide | (simp only [rmS]; decide)), List.set_append_right _ _ (Nat.le_refl _), Nat.sub_self, List.set_cons_zero]
theorem eff_last3 {fs0 : List F} {f : F} (hR : Right (fs0 ++ [f])) (x : ByteArray) : ref (fs0 ++ [f]) ⟨3, f.name, x, 0⟩ = 0 ∧ eff (fs0 ++ [f]) ⟨3, f.name, x, 0⟩ = fs0 ++ [⟨f.name, f.data, f.data.size⟩] := by
  obtain ⟨h1, h2⟩ := pos_last hR
  constructor
  · unfold ref
    rw [if_neg (by first | decide | (simp only [rmS]; decide))]
    simp only [h2]
    rw [if_neg (by first | decide | (simp only [rmS]; decide)), if_neg (by first | decide | (simp only [rmS]; decide))]
  · unfold eff
    rw [if_neg (by first | decide | (simp only [rmS]; decide))]
    simp only [h2, h1]
    rw [if_neg (by first | decide | (simp only [rmS]; decide)), if_pos (by first | decide | (simp only [rmS]; decide)), List.set_append_right _ _ (Nat.le_refl _), Nat.sub_self, List.set_cons_zero]
/-- what an append comes to -/
structure App (fs : List F) (rs : List Rec) (fuse fault size : Int) (d : ByteArray) (r : L × Int) : Prop where
  R : Right r.1.d.files
  nf : Num r.1.d.fuse
  na : Num r.1.d.fault
  sz : r.1.size = size
  fr : r.1.fr = 1
  n0 : 0 ≤ r.1.nx
  n1 : r.1.nx ≤ 4611686018427387904
  aft : Aft fs rs d r.1.d.files r.2
  ok : r.2 = 0 → ∃ h1 h2, KK r.1.d.files 1 (rs ++ [⟨1 + rs.length, d, h1, h2⟩]) ∧ r.1 = ⟨⟨r.1.d.files, false, r.1.d.fuse, r.1.d.fault⟩, size, 1, ((1 + (rs.length + 1) : Nat) : Int), false⟩
  free : r.2 = 0 → fuse = -1 → fault = -1 → r.1.d.fuse = -1 ∧ r.1.d.fault = -1
  long : 65536 < d.size → r.2 = 4
  full : d.size ≤ 65536 → fuse = -1 → fault = -1 → r.2 = 0 ∨ (r.2 = 8 ∧ fs.length = 64)
theorem add2_kk {fs1 fs : List F} {rs : List Rec} {fu fa fuse fault size : Int} {d : ByteArray} (hk : KK fs1 1 rs) {l0 : List SF} {s : SF} {fs0 : List F} (hl : filesM fs1 = l0 ++ [s]) (h0 : fs1 = fs0 ++ [s.f]) (hf0 : filesM fs0 = l0) (hd : d.size ≤ 65536)
    (hz : s.f.data.size + (16 + d.size) ≤ 262144) (nfu : Num fu) (nfa : Num fa) (hfree : fuse = -1 → fault = -1 → fu = -1 ∧ fa = -1) :
    App fs rs fuse fault size d (add2 (kl fs1 rs fu fa size) (frameB (1 + rs.length) d)) := by
  have hb := kk_bound hk
  have hlast : lastN2 fs1 = s.f.name := by
    unfold lastN2 lastM
    rw [hl, last_snoc]
  have hR0 : Right (fs0 ++ [s.f]) := by rw [← h0]; exact hk.R
  have hok := hk.R.ok s.f (by rw [h0]; simp)
  have hsy := hk.sy s.f (by rw [h0]; simp)
  have hfs := frameB_size (1 + rs.length) d
  have hsz : (s.f.data ++ frameB (1 + rs.length) d).size = s.f.data.size + (16 + d.size) := by rw [size_app, hfs]
  obtain ⟨a1, a2⟩ := eff_last2 hR0 (frameB (1 + rs.length) d) (by rw [hfs]; exact hz)
  have hR1 : Right (fs0 ++ [⟨s.f.name, s.f.data ++ frameB (1 + rs.length) d, s.f.syn⟩]) := by rw [← a2]; exact right_eff hR0 ⟨by first | decide | (simp only [rmS]; decide), by first | decide | (simp only [rmS]; decide)⟩ a1
  obtain ⟨b1, b2⟩ := eff_last3 (f := ⟨s.f.name, s.f.data ++ frameB (1 + rs.length) d, s.f.syn⟩) hR1 ⟨#[]⟩
  have hR2 : Right (fs0 ++ [⟨s.f.name, s.f.data ++ frameB (1 + rs.length) d, ((s.f.data ++ frameB (1 + rs.length) d).size : Int)⟩]) := by rw [← b2]; exact right_eff hR1 ⟨by first | decide | (simp only [rmS]; decide), by first | decide | (simp only [rmS]; decide)⟩ b1
  simp only at b1 b2
  have hAft1 : ∀ c : Int, c ≠ 0 → Aft fs rs d (fs0 ++ [⟨s.f.name, s.f.data ++ frameB (1 + rs.length) d, s.f.syn⟩]) c := fun c hc =>
    .inr ⟨fs1, fs0, l0, s, s.f.data.size, hk, hl, h0, hf0, hd, by omega, hz, by rw [hsy], .inl ⟨hc, rfl⟩⟩
  have hn1 : ((1 + rs.length : Nat) : Int) ≤ 4611686018427387904 := by omega
  have hlast' : lastN2 (fs0 ++ [s.f]) = s.f.name := by rw [← h0]; exact hlast
  unfold add2
  simp only [h0, hlast']
  rcases doo3 (d := ⟨fs0 ++ [s.f], false, fu, fa⟩) (m := ⟨2, s.f.name, frameB (1 + rs.length) d, 0⟩) hR0 rfl ⟨by first | decide | (simp only [rmS]; decide), by first | decide | (simp only [rmS]; decide)⟩ a1 with ⟨c1, e⟩ | ⟨c1, c2, e⟩ | ⟨c1, c2, e⟩
  · have e3 : doS (kl (fs0 ++ [s.f]) rs fu fa size) [⟨2, s.f.name, frameB (1 + rs.length) d, 0⟩, ⟨3, s.f.name, ⟨#[]⟩, 0⟩] = (⟨⟨fs0 ++ [s.f], false, fu, -1⟩, size, 1, ((1 + rs.length : Nat) : Int), true⟩, 18) := by
      unfold doS; rw [e]; rfl
    rw [e3, if_neg (by first | decide | (simp only [rmS]; decide))]
    exact ⟨hR0, nfu, by show Num (-1); unfold Num; omega, rfl, rfl, by show (0 : Int) ≤ ((1 + rs.length : Nat) : Int); omega, hn1, .inl ⟨by show (18 : Int) ≠ 0; decide, by show KK (fs0 ++ [s.f]) 1 rs; rw [← h0]; exact hk⟩, (fun h => by cases h), (fun h => by cases h), (fun h => by omega), fun _ h1 h2 => by have := (hfree h1 h2).2; simp only at c1; omega⟩
  · have e3 : doS (kl (fs0 ++ [s.f]) rs fu fa size) [⟨2, s.f.name, frameB (1 + rs.length) d, 0⟩, ⟨3, s.f.name, ⟨#[]⟩, 0⟩] = (⟨⟨fs0 ++ [⟨s.f.name, s.f.data ++ frameB (1 + rs.length) d, s.f.syn⟩], true, 0, dec fa⟩, size, 1, ((1 + rs.length : Nat) : Int), true⟩, 17) := by
      have hh : half (fs0 ++ [s.f]) ⟨2, s.f.name, frameB (1 + rs.length) d, 0⟩ = fs0 ++ [⟨s.f.name, s.f.data ++ frameB (1 + rs.length) d, s.f.syn⟩] := by unfold half; rw [if_pos rfl]; exact a2
      simp only [hh] at e
      unfold doS; rw [e]; rfl
    rw [e3, if_neg (by first | decide | (simp only [rmS]; decide))]
    exact ⟨hR1, by show Num 0; unfold Num; omega, num_dec nfa, rfl, rfl, by show (0 : Int) ≤ ((1 + rs.length : Nat) : Int); omega, hn1, hAft1 17 (by first | decide | (simp only [rmS]; decide)), (fun h => by cases h), (fun h => by cases h), (fun h => by omega), fun _ h1 h2 => by have := (hfree h1 h2).1; simp only at c2; omega⟩
  · simp only [a2] at e
    rcases doo3 (d := ⟨fs0 ++ [⟨s.f.name, s.f.data ++ frameB (1 + rs.length) d, s.f.syn⟩], false, dec fu, dec fa⟩) (m := ⟨3, s.f.name, ⟨#[]⟩, 0⟩) hR1 rfl ⟨by first | decide | (simp only [rmS]; decide), by first | decide | (simp only [rmS]; decide)⟩ b1 with ⟨g1, e2⟩ | ⟨g1, g2, e2⟩ | ⟨g1, g2, e2⟩
    · have e3 : doS (kl (fs0 ++ [s.f]) rs fu fa size) [⟨2, s.f.name, frameB (1 + rs.length) d, 0⟩, ⟨3, s.f.name, ⟨#[]⟩, 0⟩] = (⟨⟨fs0 ++ [⟨s.f.name, s.f.data ++ frameB (1 + rs.length) d, s.f.syn⟩], false, dec fu, -1⟩, size, 1, ((1 + rs.length : Nat) : Int), true⟩, 18) := by
        unfold doS; rw [e, if_pos rfl]; unfold doS; rw [e2]; rfl
      rw [e3, if_neg (by first | decide | (simp only [rmS]; decide))]
      exact ⟨hR1, num_dec nfu, by show Num (-1); unfold Num; omega, rfl, rfl, by show (0 : Int) ≤ ((1 + rs.length : Nat) : Int); omega, hn1, hAft1 18 (by first | decide | (simp only [rmS]; decide)), (fun h => by cases h), (fun h => by cases h), (fun h => by omega), fun _ h1 h2 => by
        have h3 := (hfree h1 h2).2
        simp only [h3] at g1
        exact absurd g1 (by first | decide | (simp only [rmS]; decide))⟩
    · have e3 : doS (kl (fs0 ++ [s.f]) rs fu fa size) [⟨2, s.f.name, frameB (1 + rs.length) d, 0⟩, ⟨3, s.f.name, ⟨#[]⟩, 0⟩] = (⟨⟨fs0 ++ [⟨s.f.name, s.f.data ++ frameB (1 + rs.length) d, s.f.syn⟩], true, 0, dec (dec fa)⟩, size, 1, ((1 + rs.length : Nat) : Int), true⟩, 17) := by
        have hh : half (fs0 ++ [⟨s.f.name, s.f.data ++ frameB (1 + rs.length) d, s.f.syn⟩]) ⟨3, s.f.name, ⟨#[]⟩, 0⟩ = fs0 ++ [⟨s.f.name, s.f.data ++ frameB (1 + rs.length) d, s.f.syn⟩] := by unfold half; exact if_neg (c := (3 : Int) = 2) (by decide)
        simp only [hh] at e2
        unfold doS; rw [e, if_pos rfl]; unfold doS; rw [e2]; rfl
      rw [e3, if_neg (by first | decide | (simp only [rmS]; decide))]
      exact ⟨hR1, by show Num 0; unfold Num; omega, num_dec (num_dec nfa), rfl, rfl, by show (0 : Int) ≤ ((1 + rs.length : Nat) : Int); omega, hn1, hAft1 17 (by first | decide | (simp only [rmS]; decide)), (fun h => by cases h), (fun h => by cases h), (fun h => by omega), fun _ h1 h2 => by
        have h3 := (hfree h1 h2).1
        simp only [h3] at g2
        exact absurd g2 (by first | decide | (simp only [rmS]; decide))⟩
    · simp only [b2] at e2
      have e3 : doS (kl (fs0 ++ [s.f]) rs fu fa size) [⟨2, s.f.name, frameB (1 + rs.length) d, 0⟩, ⟨3, s.f.name, ⟨#[]⟩, 0⟩] = (⟨⟨fs0 ++ [⟨s.f.name, s.f.data ++ frameB (1 + rs.length) d, ((s.f.data ++ frameB (1 + rs.length) d).size : Int)⟩], false, dec (dec fu), dec (dec fa)⟩, size, 1, ((1 + rs.length : Nat) : Int), false⟩, 0) := by
        unfold doS; rw [e, if_pos rfl]; unfold doS; rw [e2, if_pos rfl]; unfold doS; rfl
      rw [e3, if_pos (by rfl)]
      have hK : KK (fs0 ++ [⟨s.f.name, s.f.data ++ frameB (1 + rs.length) d, ((s.f.data ++ frameB (1 + rs.length) d).size : Int)⟩]) 1 (rs ++ [⟨1 + rs.length, d, by omega, hd⟩]) := by
        obtain ⟨_, _, t3⟩ := kk_torn hk hl h0 hf0 d hd (by omega) hz (16 + d.size) (Nat.le_refl _) _ rfl
        rcases t3 with ⟨_, t⟩ | ⟨t, _⟩ | ⟨t, _, _⟩
        · rw [frame_whole] at t
          rw [hsz]
          exact t
        · omega
        · exfalso
          have hm : s ∈ filesM fs1 := by rw [hl]; simp
          have hfm := files_last hf0 (filesM_mem hm).2.2 (f' := ⟨s.f.name, s.f.data ++ (frameB (1 + rs.length) d).extract 0 (16 + d.size), ((s.f.data.size + (16 + d.size) : Nat) : Int)⟩) rfl
          have hmore := kk_more hk hl ((frameB (1 + rs.length) d).extract 0 (16 + d.size)) ⟨s.f.name, s.f.data ++ (frameB (1 + rs.length) d).extract 0 (16 + d.size), ((s.f.data.size + (16 + d.size) : Nat) : Int)⟩ rfl rfl
          obtain ⟨_, hfr, _⟩ := kk_torn hk hl h0 hf0 d hd (by omega) hz (16 + d.size) (Nat.le_refl _) _ rfl
          unfold rdF at t
          rw [hfr, hfm, hmore, frame_whole, frames_frame (by omega) hd, hfs, if_neg (by simp [sumL])] at t
          simp at t
      refine ⟨hR2, num_dec (num_dec nfu), num_dec (num_dec nfa), rfl, rfl, ?_, ?_, ?_, fun _ => ⟨by omega, hd, hK, ?_⟩, fun _ h1 h2 => ?_, (fun h => by omega), fun _ _ _ => .inl rfl⟩
      · show (0 : Int) ≤ ((1 + rs.length : Nat) : Int) + 1
        omega
      · show ((1 + rs.length : Nat) : Int) + 1 ≤ 4611686018427387904
        omega
      · exact .inr ⟨fs1, fs0, l0, s, s.f.data.size + (16 + d.size), hk, hl, h0, hf0, hd, by omega, hz, by rw [← hsz], .inr ⟨rfl, rfl⟩⟩
      · simp only [L.mk.injEq, true_and, and_true]
        omega
      · obtain ⟨q1, q2⟩ := hfree h1 h2
        subst q1 q2
        exact ⟨rfl, rfl⟩
theorem app_kk {fs : List F} {rs : List Rec} {fuse fault size : Int} {d : ByteArray} (hk : KK fs 1 rs) (hs : 1 ≤ size ∧ size ≤ 262144) (nfu : Num fuse) (nfa : Num fault) : App fs rs fuse fault size d (appM (kl fs rs fuse fault size) d) := by
  have hb := kk_bound hk
  have hn0 : (0 : Int) ≤ ((1 + rs.length : Nat) : Int) := by omega
  have hn1 : ((1 + rs.length : Nat) : Int) ≤ 4611686018427387904 := by omega
  unfold appM
  by_cases hd : 65536 < d.size
  · rw [if_pos hd]
    exact ⟨hk.R, nfu, nfa, rfl, rfl, hn0, hn1, .inl ⟨by show (4 : Int) ≠ 0; decide, hk⟩, (fun h => by cases h), (fun h => by cases h), (fun _ => rfl), fun h => by omega⟩
  rw [if_neg hd, if_neg (by show ¬ ((1 + rs.length : Nat) : Int) = 4611686018427387904; omega)]
  have hfb : frB (kl fs rs fuse fault size) d = frameB (1 + rs.length) d := by
    unfold frB frameB
    rw [show (kl fs rs fuse fault size).nx.toNat = 1 + rs.length from Int.toNat_natCast _]
  have hfs := frameB_size (1 + rs.length) d
  unfold addM
  rw [hfb]
  by_cases hroom : roomM fs size ((16 + d.size : Nat) : Int) = true
  · have h1 : add1 (kl fs rs fuse fault size) d = (kl fs rs fuse fault size, 0) := by
      unfold add1
      rw [hfb, hfs, if_pos hroom]
    rw [h1, if_pos rfl]
    unfold roomM at hroom
    cases hl : lastM fs with
    | none => rw [hl] at hroom; cases hroom
    | some s =>
      rw [hl] at hroom
      simp only [Bool.and_eq_true, decide_eq_true_eq] at hroom
      rcases List.eq_nil_or_concat (filesM fs) with e | ⟨l0, s', e⟩
      · unfold lastM at hl; rw [e] at hl; cases hl
      · rw [List.concat_eq_append] at e
        have hss : s' = s := by
          unfold lastM at hl
          rw [e, last_snoc] at hl
          injection hl
        subst hss
        obtain ⟨fs0, g1, g2⟩ := last_at hk.lg e
        exact add2_kk hk e g1 g2 (by omega) (by omega) nfu nfa (fun a b => ⟨a, b⟩)
  · have h1 : add1 (kl fs rs fuse fault size) d = doS (kl fs rs fuse fault size) [⟨1, nameB (1 + rs.length), ⟨#[]⟩, 0⟩] := by
      unfold add1
      rw [hfb, hfs, if_neg hroom]
      rw [show (kl fs rs fuse fault size).nx.toNat = 1 + rs.length from Int.toNat_natCast _]
    have hne : ∀ l0 s, filesM fs = l0 ++ [s] → s.f.data.size ≠ 0 := fun l0 s e h0 => by
      apply hroom
      unfold roomM lastM
      rw [e, last_snoc]
      simp only [h0, Bool.and_eq_true, decide_eq_true_eq]
      omega
    obtain ⟨k1, k2, k3⟩ := kk_new hk (by omega) hne 0 ⟨#[]⟩
    rw [h1]
    by_cases h64 : fs.length = 64
    · rw [if_pos h64] at k1
      have e3 : doS (kl fs rs fuse fault size) [⟨1, nameB (1 + rs.length), ⟨#[]⟩, 0⟩] = (⟨⟨fs, false, fuse, fault⟩, size, 1, ((1 + rs.length : Nat) : Int), true⟩, 8) := by
        have e : doo ⟨fs, false, fuse, fault⟩ ⟨1, nameB (1 + rs.length), ⟨#[]⟩, 0⟩ = (⟨fs, false, fuse, fault⟩, 8) := by
          rw [doo_right hk.R ⟨by first | decide | (simp only [rmS]; decide), by first | decide | (simp only [rmS]; decide)⟩]
          unfold run
          rw [if_neg (by first | decide | (simp only [rmS]; decide))]
          simp only [k1]
          rfl
        unfold doS; rw [e]; rfl
      rw [e3, if_neg (by first | decide | (simp only [rmS]; decide))]
      exact ⟨hk.R, nfu, nfa, rfl, rfl, hn0, hn1, .inl ⟨by show (8 : Int) ≠ 0; decide, hk⟩, (fun h => by cases h), (fun h => by cases h), (fun h => by omega), fun _ _ _ => .inr ⟨rfl, h64⟩⟩
    · rw [if_neg h64] at k1
      obtain ⟨k4, k5⟩ := k3 h64
      rcases doo3 (d := ⟨fs, false, fuse, fault⟩) (m := ⟨1, nameB (1 + rs.length), ⟨#[]⟩, 0⟩) hk.R rfl ⟨by first | decide | (simp only [rmS]; decide), by first | decide | (simp only [rmS]; decide)⟩ k1 with ⟨c1, e⟩ | ⟨c1, c2, e⟩ | ⟨c1, c2, e⟩
      · have e3 : doS (kl fs rs fuse fault size) [⟨1, nameB (1 + rs.length), ⟨#[]⟩, 0⟩] = (⟨⟨fs, false, fuse, -1⟩, size, 1, ((1 + rs.length : Nat) : Int), true⟩, 18) := by
          unfold doS; rw [e]; rfl
        rw [e3, if_neg (by first | decide | (simp only [rmS]; decide))]
        exact ⟨hk.R, nfu, by show Num (-1); unfold Num; omega, rfl, rfl, hn0, hn1, .inl ⟨by show (18 : Int) ≠ 0; decide, hk⟩, (fun h => by cases h), (fun h => by cases h), (fun h => by omega), fun _ h1 h2 => by simp only at c1; omega⟩
      · have e3 : doS (kl fs rs fuse fault size) [⟨1, nameB (1 + rs.length), ⟨#[]⟩, 0⟩] = (⟨⟨fs, true, 0, dec fault⟩, size, 1, ((1 + rs.length : Nat) : Int), true⟩, 17) := by
          have hh : half fs ⟨1, nameB (1 + rs.length), ⟨#[]⟩, 0⟩ = fs := by unfold half; exact if_neg (c := (1 : Int) = 2) (by decide)
          simp only [hh] at e
          unfold doS; rw [e]; rfl
        rw [e3, if_neg (by first | decide | (simp only [rmS]; decide))]
        exact ⟨hk.R, by show Num 0; unfold Num; omega, num_dec nfa, rfl, rfl, hn0, hn1, .inl ⟨by show (17 : Int) ≠ 0; decide, hk⟩, (fun h => by cases h), (fun h => by cases h), (fun h => by omega), fun _ h1 h2 => by simp only at c2; omega⟩
      · simp only [k2] at e
        have e3 : doS (kl fs rs fuse fault size) [⟨1, nameB (1 + rs.length), ⟨#[]⟩, 0⟩] = (kl (fs ++ [⟨nameB (1 + rs.length), ⟨#[]⟩, 0⟩]) rs (dec fuse) (dec fault) size, 0) := by
          unfold doS; rw [e, if_pos rfl]; unfold doS; rfl
        rw [e3, if_pos rfl]
        obtain ⟨fs0, g1, g2⟩ := last_at k4.lg k5
        refine add2_kk k4 k5 g1 g2 (by omega) ?_ (num_dec nfu) (num_dec nfa) (fun a b => ?_)
        · show (⟨#[]⟩ : ByteArray).size + (16 + d.size) ≤ 262144
          have : (⟨#[]⟩ : ByteArray).size = 0 := rfl
          omega
        · subst a b; exact ⟨rfl, rfl⟩
end Go.Proofs.YtcefhcailhediaaDoor

/- SEGMENT: THE WALK OVER lives. -/
namespace Go.Proofs.YtcefhcailhediaaDoor
open Go.RowKit
set_option maxRecDepth 100000
set_option linter.unusedVariables false
set_option linter.unusedSimpArgs false
/-- a log in a variable -/
structure LVar (w : World) (q : Nat) (ad : Option Addr) (n cap : Nat) (l : L) : Prop where
  b : w.heap[q]? = some (.cells (l.cells (.slice ad n cap)) 30 (0, 0))
  i : LIn w ad n cap l
theorem LVar.under {w w' : World} {q : Nat} {ad : Option Addr} {n cap : Nat} {l : L} (h : LVar w q ad n cap l) (hb : Below w.heap.size w w') : LVar w' q ad n cap l :=
  ⟨(hb.block _ (Array.getElem?_eq_some_iff.1 h.b).1).trans h.b, h.i.under hb⟩
theorem LVar.lt {w : World} {q : Nat} {ad : Option Addr} {n cap : Nat} {l : L} (h : LVar w q ad n cap l) : q < w.heap.size := (Array.getElem?_eq_some_iff.1 h.b).1
theorem blk_put8 {w : World} {g : Nat} {x0 x1 x2 x3 x4 x5 x6 x7 : Value} {t : TypeId} (h : w.heap[g]? = some (.cells #[x0, x1, x2, x3, x4, x5, x6, x7] t (0, 0))) (v0 v1 v2 v3 v4 v5 v6 v7 : Value) :
    ((((((((w.setCell ⟨g, 0, none⟩ v0).setCell ⟨g, 1, none⟩ v1).setCell ⟨g, 2, none⟩ v2).setCell ⟨g, 3, none⟩ v3).setCell ⟨g, 4, none⟩ v4).setCell ⟨g, 5, none⟩ v5).setCell ⟨g, 6, none⟩ v6).setCell ⟨g, 7, none⟩ v7).heap[g]? = some (.cells #[v0, v1, v2, v3, v4, v5, v6, v7] t (0, 0)) := by
  have h0 : (w.setCell ⟨g, 0, none⟩ v0).heap[g]? = some (.cells #[v0, x1, x2, x3, x4, x5, x6, x7] t (0, 0)) := heap_setCell_same _ g 0 _ t _ h
  have h1 : ((w.setCell ⟨g, 0, none⟩ v0).setCell ⟨g, 1, none⟩ v1).heap[g]? = some (.cells #[v0, v1, x2, x3, x4, x5, x6, x7] t (0, 0)) := heap_setCell_same _ g 1 _ t _ h0
  have h2 : (((w.setCell ⟨g, 0, none⟩ v0).setCell ⟨g, 1, none⟩ v1).setCell ⟨g, 2, none⟩ v2).heap[g]? = some (.cells #[v0, v1, v2, x3, x4, x5, x6, x7] t (0, 0)) := heap_setCell_same _ g 2 _ t _ h1
  have h3 : ((((w.setCell ⟨g, 0, none⟩ v0).setCell ⟨g, 1, none⟩ v1).setCell ⟨g, 2, none⟩ v2).setCell ⟨g, 3, none⟩ v3).heap[g]? = some (.cells #[v0, v1, v2, v3, x4, x5, x6, x7] t (0, 0)) := heap_setCell_same _ g 3 _ t _ h2
  have h4 : (((((w.setCell ⟨g, 0, none⟩ v0).setCell ⟨g, 1, none⟩ v1).setCell ⟨g, 2, none⟩ v2).setCell ⟨g, 3, none⟩ v3).setCell ⟨g, 4, none⟩ v4).heap[g]? = some (.cells #[v0, v1, v2, v3, v4, x5, x6, x7] t (0, 0)) := heap_setCell_same _ g 4 _ t _ h3
  have h5 : ((((((w.setCell ⟨g, 0, none⟩ v0).setCell ⟨g, 1, none⟩ v1).setCell ⟨g, 2, none⟩ v2).setCell ⟨g, 3, none⟩ v3).setCell ⟨g, 4, none⟩ v4).setCell ⟨g, 5, none⟩ v5).heap[g]? = some (.cells #[v0, v1, v2, v3, v4, v5, x6, x7] t (0, 0)) := heap_setCell_same _ g 5 _ t _ h4
  have h6 : (((((((w.setCell ⟨g, 0, none⟩ v0).setCell ⟨g, 1, none⟩ v1).setCell ⟨g, 2, none⟩ v2).setCell ⟨g, 3, none⟩ v3).setCell ⟨g, 4, none⟩ v4).setCell ⟨g, 5, none⟩ v5).setCell ⟨g, 6, none⟩ v6).heap[g]? = some (.cells #[v0, v1, v2, v3, v4, v5, v6, x7] t (0, 0)) := heap_setCell_same _ g 6 _ t _ h5
  exact heap_setCell_same _ g 7 _ t _ h6
/-- a log is stored in a variable -/
abbrev putL (w : World) (g : Nat) (l : L) (v : Value) : World := (((((((w.setCell ⟨g, 0, none⟩ v).setCell ⟨g, 1, none⟩ (.bool l.d.down)).setCell ⟨g, 2, none⟩ (.int .i64 l.d.fuse)).setCell ⟨g, 3, none⟩ (.int .i64 l.d.fault)).setCell ⟨g, 4, none⟩ (.int .i64 l.size)).setCell ⟨g, 5, none⟩ (.int .u64 l.fr)).setCell ⟨g, 6, none⟩ (.int .u64 l.nx)).setCell ⟨g, 7, none⟩ (.bool l.broken)
theorem Inp.own_lt {w : World} {B : Nat} {ad : Option Addr} {n cap : Nat} {fs : List F} (h : Inp w B ad n cap fs) (hne : fs ≠ []) : ∀ b, (Value.slice ad n cap).ownBlock = some b → b < B := fun b e => by
  obtain ⟨g, off, rfl, hg, _⟩ := h.2.2.2 hne
  simp [Value.ownBlock] at e
  omega
theorem DIn.put8' {w : World} {ad : Option Addr} {n cap : Nat} {fu fa : Int} {fs : List F} (h : DIn w ad n cap fu fa fs) {g : Nat} (ho : fs ≠ [] → (Value.slice ad n cap).ownBlock ≠ some g) (v0 v1 v2 v3 v4 v5 v6 v7 : Value) :
    DIn ((((((((w.setCell ⟨g, 0, none⟩ v0).setCell ⟨g, 1, none⟩ v1).setCell ⟨g, 2, none⟩ v2).setCell ⟨g, 3, none⟩ v3).setCell ⟨g, 4, none⟩ v4).setCell ⟨g, 5, none⟩ v5).setCell ⟨g, 6, none⟩ v6).setCell ⟨g, 7, none⟩ v7) ad n cap fu fa fs := by
  by_cases e : fs = []
  · subst e
    exact ⟨⟨h.i.1, h.i.2.1, h.i.2.2.1, fun h => absurd rfl h⟩, h.fit, h.u0, h.u1, h.f0, h.f1⟩
  · exact h.put8 (ho e) _ _ _ _ _ _ _ _
theorem LVar.put {w : World} {g : Nat} {x0 x1 x2 x3 x4 x5 x6 x7 : Value} (h : w.heap[g]? = some (.cells #[x0, x1, x2, x3, x4, x5, x6, x7] 30 (0, 0))) {ad : Option Addr} {n cap : Nat} {l : L} (hl : LIn w ad n cap l) (hne : l.d.files ≠ [] → (Value.slice ad n cap).ownBlock ≠ some g) : LVar (putL w g l (.slice ad n cap)) g ad n cap l :=
  ⟨blk_put8 h _ _ _ _ _ _ _ _, ⟨hl.d.put8' hne _ _ _ _ _ _ _ _, hl.s0, hl.s1, hl.f0, hl.f1, hl.n0, hl.n1⟩⟩
/-- .. in a new one -/
theorem LVar.new {w : World} {ad : Option Addr} {n cap : Nat} {l : L} (hl : LIn w ad n cap l) : LVar (putL (w.alloc (.cells zlog 30)) w.heap.size l (.slice ad n cap)) w.heap.size ad n cap l :=
  LVar.put (blk_new w _) (hl.under ((Below.refl _ w).alloc (Nat.le_refl _) _)) (fun h e => by have := hl.d.i.own_lt h _ e; omega)
theorem putL_below {B : Nat} {w0 w : World} {g : Nat} (h : Below B w0 w) (hg : B ≤ g) (l : L) (v : Value) : Below B w0 (putL w g l v) := below_put8 h hg _ _ _ _ _ _ _ _
theorem newL_below {B : Nat} {w0 w : World} (h : Below B w0 w) (hB : B ≤ w.heap.size) (l : L) (v : Value) : Below B w0 (putL (w.alloc (.cells zlog 30)) w.heap.size l v) := putL_below (h.alloc hB _) hB l v
end Go.Proofs.YtcefhcailhediaaDoor

/- SEGMENT: THE WALK OVER lives. -/
namespace Go.Proofs.YtcefhcailhediaaDoor
open Go.RowKit
set_option maxRecDepth 100000
set_option linter.unusedVariables false
set_option linter.unusedSimpArgs false
abbrev hiB : ByteArray := ⟨#[104, 105]⟩
abbrev hiF : F := ⟨nameB 1, frameB 1 hiB, 18⟩
theorem files_name {n : Nat} (hn : n ≤ 4611686018427387904) (d : ByteArray) (s : Int) : filesM [⟨nameB n, d, s⟩] = [⟨⟨nameB n, d, s⟩, n, hn⟩] := by
  rw [filesM_cons, sf1_some (n := n) (numB_name hn)]; rfl
theorem last_name {n : Nat} (hn : n ≤ 4611686018427387904) (d : ByteArray) (s : Int) : lastN2 [⟨nameB n, d, s⟩] = nameB n := by
  unfold lastN2 lastM; rw [files_name hn]; rfl
theorem app_hi : appM (kl [] [] (-1) (-1) 100) hiB = (⟨⟨[hiF], false, -1, -1⟩, 100, 1, 2, false⟩, 0) := by
  have hz : (frameB 1 hiB).size = 18 := frameB_size 1 hiB
  unfold appM
  rw [if_neg (by decide), if_neg (by show ¬ ((1 : Int) = 4611686018427387904); decide)]
  have hfb : frB (kl [] [] (-1) (-1) 100) hiB = frameB 1 hiB := rfl
  have h1 : add1 (kl [] [] (-1) (-1) 100) hiB = (⟨⟨[⟨nameB 1, ⟨#[]⟩, 0⟩], false, -1, -1⟩, 100, 1, 1, false⟩, 0) := by
    unfold add1
    rw [if_neg (by show ¬ roomM [] _ _ = true; unfold roomM lastM filesM; simp)]
    have e := doo_create (okN_name 1) (z := 0) (d := ⟨#[]⟩)
    show doS ⟨⟨[], false, -1, -1⟩, 100, 1, 1, false⟩ [⟨1, nameB 1, ⟨#[]⟩, 0⟩] = _
    unfold doS; rw [e, if_pos rfl]; unfold doS; rfl
  unfold addM
  rw [h1, hfb, if_pos rfl]
  unfold add2
  have hl : lastN2 [⟨nameB 1, ⟨#[]⟩, 0⟩] = nameB 1 := last_name (by omega) _ _
  have e1 := doo_append (f := ⟨nameB 1, ⟨#[]⟩, 0⟩) ⟨okN_name 1, by decide, by decide, by decide⟩ (d := frameB 1 hiB) (z := 0) (by rw [hz]; decide)
  have e2 := doo_sync (f := ⟨nameB 1, (⟨#[]⟩ : ByteArray) ++ frameB 1 hiB, 0⟩) ⟨okN_name 1, by simp only [size_app, hz]; decide, by decide, by simp only [size_app, hz]; decide⟩ (d := ⟨#[]⟩) (z := 0)
  have hd : (⟨#[]⟩ : ByteArray) ++ frameB 1 hiB = frameB 1 hiB := app_nil_left (by rfl) _
  rw [hd] at e1 e2
  have e3 : doS ⟨⟨[⟨nameB 1, ⟨#[]⟩, 0⟩], false, -1, -1⟩, 100, 1, 1, false⟩ [⟨2, nameB 1, frameB 1 hiB, 0⟩, ⟨3, nameB 1, ⟨#[]⟩, 0⟩] = (⟨⟨[hiF], false, -1, -1⟩, 100, 1, 1, false⟩, 0) := by
    unfold doS; rw [e1, if_pos rfl]; unfold doS; rw [e2, if_pos rfl]; unfold doS
    simp only [hz]
    rfl
  simp only [hl, e3]
  rfl
theorem kk_hi : KK [hiF] 1 [⟨1, hiB, by omega, by decide⟩] := by
  have h := app_kk (fs := []) (rs := []) (fuse := -1) (fault := -1) (size := 100) (d := hiB) kk_nil (by omega) (by unfold Num; omega) (by unfold Num; omega)
  rw [app_hi] at h
  obtain ⟨_, _, hk, _⟩ := h.ok rfl
  exact hk
theorem rd_hi : (rdF [hiF]).rs = [⟨1, hiB, by omega, by decide⟩] := by rw [kk_rdF kk_hi]
/-- Open's and Append's contracts, the answer named -/
theorem open_is {d : D} {size : Int} {r : L × List Rec × Int} (hr : openM d size = r) (w : World) (ad : Option Addr) (n cap : Nat) (h : DIn w ad n cap d.fuse d.fault d.files) (hT : Tabs w) (hw : 3 < w.heap.size) :
    Calls Tryd.prog 12 #[.agg (dcells (.slice ad n cap) d.down d.fuse d.fault), .int .i64 size] w fun e w' => ∃ ad2 n2 cap2 ad3 cap3, e = .returned (.tuple #[.agg (r.1.cells (.slice ad2 n2 cap2)), .slice ad3 r.2.1.length cap3, .int .i64 r.2.2]) ∧
      DIn w' ad2 n2 cap2 r.1.d.fuse r.1.d.fault r.1.d.files ∧ RAt w' w'.heap.size ad3 r.2.1 ∧ CapOk ad3 r.2.1.length cap3 ∧ Below w.heap.size w w' := by
  subst hr
  exact (open_any w ad n cap d size h hT hw).mono fun _ _ ⟨hb, ad2, n2, cap2, ad3, cap3, he, hd, ho, hR, hc⟩ => ⟨ad2, n2, cap2, ad3, cap3, he, hd, hR, hc, hb⟩
theorem append_is {l : L} {data : ByteArray} {r : L × Int} (hr : appM l data = r) (w : World) (ad : Option Addr) (n cap : Nat) (hR : LRight l) (hbk : l.broken = false) (hds : data.size ≤ 9223372036854775807) (h : LIn w ad n cap l) (hT : Tabs w) (hw : 3 < w.heap.size) :
    Calls Tryd.prog 15 #[.agg (l.cells (.slice ad n cap)), .string data] w fun e w' => ∃ ad2 n2 cap2, e = .returned (.tuple #[.agg (r.1.cells (.slice ad2 n2 cap2)), .int .i64 r.2]) ∧ DIn w' ad2 n2 cap2 r.1.d.fuse r.1.d.fault r.1.d.files ∧ Below w.heap.size w w' := by
  subst hr
  have hn : n ≤ 1000 := by have h1 := h.d.i.1; have h2 := hR.1.1; omega
  have hc : chM (fun l => appM l data) l = appM l data := by unfold chM; rw [if_neg (by rw [hbk]; decide)]
  refine (append_any w ad n cap l data hds h hn hT hw).mono fun e w' hP => ?_
  rcases hP with ⟨hb, ⟨hno, _⟩ | ⟨_, ad2, n2, cap2, he, hd, _⟩⟩
  · exact absurd hR hno
  · rw [hc] at he hd
    exact ⟨ad2, n2, cap2, he, hd, hb⟩
/-- a log that came back, in a new variable -/
theorem LVar.alloc {w : World} {ad : Option Addr} {n cap : Nat} {l : L} (hl : LIn w ad n cap l) : LVar (w.alloc (.cells (l.cells (.slice ad n cap)) 30)) w.heap.size ad n cap l :=
  ⟨blk_new w _, hl.under ((Below.refl _ w).alloc (Nat.le_refl _) _)⟩

abbrev l0L : L := ⟨⟨[], false, -1, -1⟩, 100, 1, 1, false⟩
abbrev l1L : L := ⟨⟨[hiF], false, -1, -1⟩, 100, 1, 2, false⟩
theorem open_l0 : openM ⟨[], false, -1, -1⟩ 100 = (l0L, [], 0) := open_kk kk_nil (by omega)
theorem nm_one : (⟨#[48, 48, 48, 48, 48, 48, 48, 48, 48, 48, 48, 48, 48, 48, 48, 49]⟩ : ByteArray) = nameB 1 := by rfl
theorem read_hi : rdv ⟨[hiF], false, -1, -1⟩ ⟨#[48, 48, 48, 48, 48, 48, 48, 48, 48, 48, 48, 48, 48, 48, 48, 49]⟩ = (frameB 1 hiB, 0) := by
  rw [nm_one]
  exact rdv_one (f := hiF) (kk_hi.R.ok _ (by simp))
theorem zl_no : ¬ LRight zl := fun h => by have := h.2.1.1; simp [zl] at this
set_option maxHeartbeats 2000000 in
theorem slives_any (w : World) (hT : Tabs w) (hw : 3 < w.heap.size) : Calls Tryd.prog 9 #[] w fun e w' => e = .returned (.bool true) ∧ Below w.heap.size w w' := by
  have HT := Lib.hid hT
  clear hT
  go_enter Tryd.func9, Tryd.ntmps9
  go_wp2_with fail
  refine (swhole_any w).mono ?_
  rintro e w1 ⟨rfl, hb1⟩
  have HT1 := Lib.hid (HT.out.under hb1)
  have Hb1 := Lib.hid hb1
  have hw1 : 3 < w1.heap.size := by have := hb1.size; omega
  clear hb1
  go_wp2_with fail
  refine (open_is open_l0 w1 none 0 0 (DIn.nothing w1 (fu := -1) (fa := -1) (by unfold Num; omega) (by unfold Num; omega)) HT1.out hw1).mono ?_
  rintro e w2 ⟨ad2, n2, cap2, ad3, cap3, rfl, hd2, _, _, hb2⟩
  have HT2 := Lib.hid (HT1.out.under hb2)
  have Hb2 := Lib.hid (Hb1.out.trans (hb2.mono Hb1.out.size))
  have hI2 : LIn w2 ad2 n2 cap2 l0L := ⟨hd2, by decide, by decide, by decide, by decide, by decide, by decide⟩
  have HV2 := Lib.hid (LVar.alloc hI2)
  obtain ⟨W2, hW2⟩ : ∃ W, W = w2.alloc (.cells #[.slice ad2 n2 cap2, .bool false, .int .i64 (-1), .int .i64 (-1), .int .i64 100, .int .u64 1, .int .u64 1, .bool false] 30) := ⟨_, rfl⟩
  rw [← hW2] at HV2
  have hbW2 : Below w2.heap.size w2 W2 := by rw [hW2]; exact (Below.refl _ w2).alloc (Nat.le_refl _) _
  have HTW2 := Lib.hid (HT2.out.under hbW2)
  have HbW2 := Lib.hid (Hb2.out.trans (hbW2.mono Hb2.out.size))
  have hwW2 : 3 < W2.heap.size := by have := HbW2.out.size; have := Hb2.out.size; omega
  clear hd2 hb2 hI2 hbW2 HT2 Hb2 HT1 Hb1
  go_upto_region 2 with (fail)
  rw [← hW2]
  clear hW2
  obtain ⟨c0, c1, c2, c3, c4, c5, c6, c7⟩ := box8 HV2.out.b
  have hl2 := HV2.out.lt
  go_wp2_with fail
  refine (append_is app_hi W2 ad2 n2 cap2 ⟨right_nil, by decide, by decide, by decide⟩ rfl (by decide) HV2.out.i HTW2.out hwW2).mono ?_
  rintro e w3 ⟨ad4, n4, cap4, rfl, hd3, hb3⟩
  have HT3 := Lib.hid (HTW2.out.under hb3)
  have Hb3 := Lib.hid (HbW2.out.trans (hb3.mono HbW2.out.size))
  have HV23 := Lib.hid (HV2.out.under hb3)
  have hI3 : LIn w3 ad4 n4 cap4 l1L := ⟨hd3, by decide, by decide, by decide, by decide, by decide, by decide⟩
  have HV3 := Lib.hid (LVar.alloc hI3)
  obtain ⟨W3, hW3⟩ : ∃ W, W = w3.alloc (.cells #[.slice ad4 n4 cap4, .bool false, .int .i64 (-1), .int .i64 (-1), .int .i64 100, .int .u64 1, .int .u64 2, .bool false] 30) := ⟨_, rfl⟩
  rw [← hW3] at HV3
  have hbW3 : Below w3.heap.size w3 W3 := by rw [hW3]; exact (Below.refl _ w3).alloc (Nat.le_refl _) _
  have HTW3 := Lib.hid (HT3.out.under hbW3)
  have HbW3 := Lib.hid (Hb3.out.trans (hbW3.mono Hb3.out.size))
  have HV2W := Lib.hid (HV23.out.under hbW3)
  clear hd3 hb3 hI3 hbW3 HT3 Hb3 HV23 HV2 HTW2 HbW2 c0 c1 c2 c3 c4 c5 c6 c7 hl2
  go_upto_region 3 with (fail)
  rw [← hW3]
  clear hW3
  obtain ⟨c0, c1, c2, c3, c4, c5, c6, c7⟩ := box8 HV3.out.b
  have hl3 := HV3.out.lt
  have hRd := Read_any W3 ad4 n4 cap4 false (-1) (-1) [hiF] ⟨#[48, 48, 48, 48, 48, 48, 48, 48, 48, 48, 48, 48, 48, 48, 48, 49]⟩ HV3.out.i.d (by decide)
  rw [read_hi] at hRd
  have HRd := Lib.hid hRd
  clear hRd
  obtain ⟨fb, hfb⟩ : ∃ x, frameB 1 hiB = x := ⟨_, rfl⟩
  have hz : fb.size = 18 := by rw [← hfb]; exact frameB_size 1 hiB
  have Hfb := Lib.hid hfb
  rw [hfb] at HRd
  clear hfb
  go_wp2_with fail
  refine HRd.out.mono ?_
  rintro e w4 ⟨rfl, hb4⟩
  clear HRd c0 c1 c2 c3 c4 c5 c6 c7 hl3
  have HV24 := Lib.hid (HV2W.out.under hb4)
  have HV34 := Lib.hid (HV3.out.under hb4)
  have HT4 := Lib.hid (HTW3.out.under hb4)
  have Hb4 := Lib.hid (HbW3.out.trans (hb4.mono HbW3.out.size))
  have hw4 : 3 < w4.heap.size := by have := Hb4.out.size; omega
  clear hb4 HV2W HV3 HTW3 HbW3
  obtain ⟨c0, c1, c2, c3, c4, c5, c6, c7⟩ := box8 HV34.out.b
  have hl3 := HV34.out.lt
  go_wp2_with fail
  refine (records_any w4 ad4 n4 cap4 l1L HV34.out.i HT4.out hw4).mono ?_
  rintro e w5 ⟨hb5, ⟨hno, _⟩ | ⟨_, _, _, ad5, cap5, rfl, hat⟩⟩
  · exact absurd ⟨⟨kk_hi.R, by decide, by decide, by decide⟩, rfl, rfl⟩ hno
  have hlen : (rdF l1L.d.files).rs.length = 1 := by show (rdF [hiF]).rs.length = 1; rw [rd_hi]; rfl
  rw [hlen]
  have hat2 : RAt w5 w5.heap.size ad5 [⟨1, hiB, by omega, by decide⟩] := by rw [← rd_hi]; exact hat
  obtain ⟨g5, off5, rfl, hg5, hc5⟩ := hat2 (by simp)
  obtain ⟨k0, k1⟩ := hc5 0 _ rfl
  rw [Nat.zero_mul, Nat.add_zero] at k0 k1
  have HV25 := Lib.hid (HV24.out.under hb5)
  have HV35 := Lib.hid (HV34.out.under hb5)
  have Hb5 := Lib.hid (Hb4.out.trans (hb5.mono Hb4.out.size))
  clear hb5 HV24 HV34 HT4 Hb4 c0 c1 c2 c3 c4 c5 c6 c7 hl3 hlen hat hat2 hc5
  obtain ⟨c0, c1, c2, c3, c4, c5, c6, c7⟩ := box8 HV25.out.b
  obtain ⟨d0, d1, d2, d3, d4, d5, d6, d7⟩ := box8 HV35.out.b
  have hl2 := HV25.out.lt
  have hl3 := HV35.out.lt
  have k0' : w5.cell? ⟨g5, off5, none⟩ = some (.int .u64 1) := k0
  clear k0
  simp only at c5 c6 d5 d6
  go_wp2_with fail
  refine (lcheck_any _ none 0 0 zl (by exact ⟨DIn.nothing _ (fu := 0) (fa := 0) (by unfold Num; omega) (by unfold Num; omega), by decide, by decide, by decide, by decide, by decide, by decide⟩)).mono ?_
  rintro e w6 ⟨c, rfl, hc, hb6⟩
  obtain rfl : c = 6 := by
    rcases hc with ⟨h, _⟩ | ⟨_, h⟩
    · exact absurd h zl_no
    · exact h
  have Hb6 := Lib.hid (Hb5.out.trans (hb6.mono Hb5.out.size))
  clear hb6 hc
  go_wp2
  go_ret
  exact ⟨rfl, Hb6.out⟩
end Go.Proofs.YtcefhcailhediaaDoor
