/- SEGMENT, MATHEMATICS: a log that was appended to, and nothing else; what a crash leaves of it. -/
import Derived.Test.YtkhmdofeonlnpaaGreatDoorGal
namespace Go.Proofs.YtkhmdofeonlnpaaGreatDoor
open Go.RowKit
set_option maxRecDepth 100000
set_option linter.unusedVariables false
set_option linter.unusedSimpArgs false

/-- the files of a log without anything else, all synced, whole -/
structure KK (fs : List F) (fr : Nat) (rs : List Rec) : Prop where
  R : Right fs
  lg : ∀ f ∈ fs, numB f.name ≠ none
  sy : ∀ f ∈ fs, f.syn = (f.data.size : Int)
  rd : rdM fr (filesM fs) = ⟨rs, fr + rs.length, [], []⟩
  fm : fromM (filesM fs) = fr
theorem kk_nil : KK [] 1 [] := ⟨right_nil, (fun _ h => by cases h), (fun _ h => by cases h), rfl, rfl⟩
theorem rdM_empty {n : Nat} {s : SF} (h : s.n = n) (hz : s.f.data.size = 0) : rdM n [s] = ⟨[], n, [], []⟩ := by
  have e : framesL s.f.data n = [] := framesL_nil hz _
  rw [rdM_on h (by rw [hz]; exact Nat.not_lt_zero _), e]
  rfl
theorem files_map : ∀ (fs : List F), (∀ f ∈ fs, numB f.name ≠ none) → (filesM fs).map SF.f = fs
  | [], _ => rfl
  | f :: fs, h => by
    rw [filesM_cons, List.map_append, files_map fs (fun g hg => h g (List.mem_cons_of_mem _ hg))]
    cases hn : numB f.name with
    | none => exact absurd hn (h f (by simp))
    | some n => rw [sf1_some hn]; rfl
theorem rdM_count : ∀ (l : List SF) (n : Nat), (∀ s ∈ l, s.f.data.size ≤ 262144) → (rdM n l).rs.length ≤ 262144 * l.length
  | [], n, _ => by simp [rdM]
  | s :: t, n, h => by
    have h0 := framesL_len s.f.data n
    have hs := h s (by simp)
    by_cases h1 : s.n = n
    · by_cases h2 : sumL (framesL s.f.data n) < s.f.data.size
      · rw [rdM_torn h1 h2, List.length_cons]; simp only; omega
      · rw [rdM_on h1 h2, List.length_cons]
        have := rdM_count t (n + (framesL s.f.data n).length) (fun x hx => h x (List.mem_cons_of_mem _ hx))
        simp only [List.length_append]
        omega
    · rw [rdM_end h1]; simp
theorem kk_bound {fs : List F} {fr : Nat} {rs : List Rec} (h : KK fs fr rs) : rs.length ≤ 16777216 := by
  have h1 := rdM_count (filesM fs) fr (fun s hs => (h.R.ok _ (filesM_mem hs).1).2.1)
  rw [h.rd] at h1
  have h2 := filesM_len fs
  have h3 := h.R.1
  simp only at h1
  omega
theorem kk_rdF {fs : List F} {fr : Nat} {rs : List Rec} (h : KK fs fr rs) : rdF fs = ⟨rs, fr + rs.length, [], []⟩ := by unfold rdF; rw [h.fm, h.rd]
theorem kk_mend {fs : List F} {fr : Nat} {rs : List Rec} (h : KK fs fr rs) : mendM fs = [] := by unfold mendM; rw [kk_rdF h]; rfl
theorem crash_synced {fs : List F} (hR : Right fs) (hs : ∀ f ∈ fs, f.syn = (f.data.size : Int)) (ks : List Int) : crashL ks fs = fs := by
  apply List.ext_getElem?
  intro i
  cases hf : fs[i]? with
  | none =>
    rw [List.getElem?_eq_none_iff] at hf ⊢
    rw [crashL_len]; exact hf
  | some f =>
    rw [crashL_at ks fs i f hf]
    have hm := List.mem_of_getElem? hf
    have h1 := keptS_bd (hR.ok f hm) ks[i]?
    have h2 := hs f hm
    have h3 : keptS ks[i]? f = (f.data.size : Int) := by omega
    unfold crash1
    rw [h3]
    have h4 : f.data.extract 0 ((f.data.size : Int)).toNat = f.data := by
      apply bs_inj; rw [bs_ext, List.drop_zero, List.take_of_length_le (by rw [bs_len]; simp)]
    rw [h4, ← h2]
theorem kk_crash {fs : List F} {fr : Nat} {rs : List Rec} (h : KK fs fr rs) (ks : List Int) : crashL ks fs = fs := crash_synced h.R h.sy ks
/-- the last file, in both lists -/
theorem last_at {fs : List F} (hlg : ∀ f ∈ fs, numB f.name ≠ none) {l0 : List SF} {s : SF} (h : filesM fs = l0 ++ [s]) : ∃ fs0, fs = fs0 ++ [s.f] ∧ filesM fs0 = l0 := by
  have hm := files_map fs hlg
  rw [h, List.map_append, List.map_singleton] at hm
  refine ⟨l0.map SF.f, hm.symm, ?_⟩
  have hm2 : s ∈ filesM fs := by rw [h]; simp
  obtain ⟨_, _, h3⟩ := filesM_mem hm2
  rw [← hm, filesM_app, filesM_cons, h3] at h
  exact (snoc_inj h).1
/-- of the last file of a whole log -/
theorem kk_last {fs : List F} {fr : Nat} {rs : List Rec} (h : KK fs fr rs) {l0 : List SF} {s : SF} (hl : filesM fs = l0 ++ [s]) :
    ∃ r0, rdM fr l0 = ⟨r0, fr + r0.length, [], []⟩ ∧ s.n = fr + r0.length ∧ sumL (framesL s.f.data s.n) = s.f.data.size ∧ rs = r0 ++ framesL s.f.data s.n := by
  have h1 := h.rd
  rw [hl] at h1
  have h2 := rdM_pre l0 [s] fr (by rw [h1]) (by rw [h1])
  have h3 := rdM_app l0 [s] fr h2.1 h2.2
  have h4 := rdM_len l0 fr
  obtain ⟨r, hr⟩ : ∃ r, rdM fr l0 = r := ⟨_, rfl⟩
  rw [hr] at h2 h3 h4
  obtain ⟨rr, rn, rc, rt⟩ := r
  simp only at h2 h3 h4
  obtain ⟨rfl, rfl⟩ := h2
  subst h4
  rw [h1] at h3
  by_cases e1 : s.n = fr + rr.length
  · by_cases e2 : sumL (framesL s.f.data (fr + rr.length)) < s.f.data.size
    · rw [rdM_torn e1 e2] at h3; simp at h3
    · rw [rdM_on e1 e2] at h3
      simp [rdM] at h3
      have := sum_le s.f.data (fr + rr.length)
      exact ⟨rr, hr, e1, by rw [e1]; omega, by rw [e1]; exact h3.1⟩
  · rw [rdM_end e1] at h3; simp at h3
/-- all numbers lie ahead of the one to come, if the last file has something -/
theorem kk_ahead {fs : List F} {fr : Nat} {rs : List Rec} (h : KK fs fr rs) (hne : ∀ l0 s, filesM fs = l0 ++ [s] → s.f.data.size ≠ 0) : ∀ s ∈ filesM fs, s.n < fr + rs.length := by
  intro x hx
  rcases List.eq_nil_or_concat (filesM fs) with e | ⟨l0, s, e⟩
  · rw [e] at hx; cases hx
  · rw [List.concat_eq_append] at e
    obtain ⟨r0, h1, h2, h3, h4⟩ := kk_last h e
    have hz := hne l0 s e
    have hlen : 0 < (framesL s.f.data s.n).length := by
      rcases Nat.eq_zero_or_pos (framesL s.f.data s.n).length with q | q
      · rw [List.eq_nil_of_length_eq_zero q] at h3; simp [sumL] at h3; omega
      · exact q
    have hs : s.n < fr + rs.length := by rw [h4, List.length_append]; omega
    rw [e] at hx
    rcases List.mem_append.1 hx with q | q
    · have hu := filesM_up h.R
      rw [e, List.pairwise_append] at hu
      have := hu.2.2 x q s (by simp)
      omega
    · rw [List.mem_singleton] at q; subst q; exact hs
theorem okN_name (n : Nat) : okN (nameB n) := by unfold okN; rw [nameB_size]; exact ⟨by first | decide | (simp only [rmS]; decide), by first | decide | (simp only [rmS]; decide)⟩
theorem log_name {fs : List F} (hlg : ∀ f ∈ fs, numB f.name ≠ none) {f : F} (hf : f ∈ fs) : ∃ s ∈ filesM fs, s.f = f := by
  have hm := files_map fs hlg
  rw [← hm] at hf
  obtain ⟨s, hs, rfl⟩ := List.mem_map.1 hf
  exact ⟨s, hs, rfl⟩
theorem pos_end {fs : List F} {n : ByteArray} (h : ∀ f ∈ fs, lt f.name n = true) : pos fs n = fs.length :=
  pos_unique fs.length (Nat.le_refl _) (fun i f _ hf => h f (List.mem_of_getElem? hf)) (fun f hf => by simp at hf)
/-- a file for the number to come -/
theorem kk_new {fs : List F} {fr : Nat} {rs : List Rec} (h : KK fs fr rs) (hn : fr + rs.length < 4611686018427387904) (hne : ∀ l0 s, filesM fs = l0 ++ [s] → s.f.data.size ≠ 0) (z : Int) (d : ByteArray) :
    (ref fs ⟨1, nameB (fr + rs.length), d, z⟩ = if fs.length = 64 then 8 else 0) ∧ eff fs ⟨1, nameB (fr + rs.length), d, z⟩ = fs ++ [⟨nameB (fr + rs.length), ⟨#[]⟩, 0⟩] ∧
    (fs.length ≠ 64 → KK (fs ++ [⟨nameB (fr + rs.length), ⟨#[]⟩, 0⟩]) fr rs ∧ filesM (fs ++ [⟨nameB (fr + rs.length), ⟨#[]⟩, 0⟩]) = filesM fs ++ [⟨⟨nameB (fr + rs.length), ⟨#[]⟩, 0⟩, fr + rs.length, by omega⟩]) := by
  have ha := kk_ahead h hne
  have hlt : ∀ f ∈ fs, lt f.name (nameB (fr + rs.length)) = true := fun f hf => by
    obtain ⟨s, hs, rfl⟩ := log_name h.lg hf
    rw [(filesM_mem hs).2.1]
    exact nameB_lt (ha s hs) (by omega)
  have hp := pos_end hlt
  have hfn : found fs (nameB (fr + rs.length)) = none := by
    unfold found; rw [hp]; simp
  have heff : eff fs ⟨1, nameB (fr + rs.length), d, z⟩ = fs ++ [⟨nameB (fr + rs.length), ⟨#[]⟩, 0⟩] := by
    unfold eff
    rw [if_pos rfl]
    simp only [hp, List.take_length, List.drop_length]
  have hsf : sf1 ⟨nameB (fr + rs.length), ⟨#[]⟩, 0⟩ = [⟨⟨nameB (fr + rs.length), ⟨#[]⟩, 0⟩, fr + rs.length, by omega⟩] := sf1_some (numB_name (by omega))
  have hfm : filesM (fs ++ [⟨nameB (fr + rs.length), ⟨#[]⟩, 0⟩]) = filesM fs ++ [⟨⟨nameB (fr + rs.length), ⟨#[]⟩, 0⟩, fr + rs.length, by omega⟩] := by
    rw [filesM_app, filesM_cons, hsf]; rfl
  have href : ref fs ⟨1, nameB (fr + rs.length), d, z⟩ = if fs.length = 64 then 8 else 0 := by
    unfold ref
    rw [if_pos rfl, if_pos (okN_name _)]
    simp only [hfn]
    rfl
  refine ⟨href, heff, fun h64 => ⟨⟨?_, ?_, ?_, ?_, ?_⟩, hfm⟩⟩
  · rw [← heff]
    exact right_eff h.R ⟨by first | decide | (simp only [rmS]; decide), by first | decide | (simp only [rmS]; decide)⟩ (by rw [href, if_neg h64])
  · intro f hf
    rcases List.mem_append.1 hf with q | q
    · exact h.lg f q
    · rw [List.mem_singleton] at q; subst q; simp only; rw [numB_name (by omega)]; simp
  · intro f hf
    rcases List.mem_append.1 hf with q | q
    · exact h.sy f q
    · rw [List.mem_singleton] at q; subst q; rfl
  · rw [hfm, rdM_app _ _ _ (by rw [h.rd]) (by rw [h.rd]), h.rd]
    simp only
    rw [rdM_empty (by rfl) (by rfl)]
    simp
  · rw [hfm]
    cases hx : filesM fs with
    | nil =>
      have h1 := h.rd
      rw [hx] at h1
      have h2 : [] = rs := congrArg RD.rs h1
      show fr + rs.length = fr
      rw [← h2]; rfl
    | cons y t => have := h.fm; rw [hx] at this; exact this
/-- the frames of the last file, with a beginning of the next one behind them -/
theorem kk_more {fs : List F} {fr : Nat} {rs : List Rec} (h : KK fs fr rs) {l0 : List SF} {s : SF} (hl : filesM fs = l0 ++ [s]) (p : ByteArray) (f' : F) (hn : f'.name = s.f.name) (hd : f'.data = s.f.data ++ p) :
    rdM fr (l0 ++ [⟨f', s.n, s.hn⟩]) = if sumL (framesL p (fr + rs.length)) < p.size then ⟨rs ++ framesL p (fr + rs.length), fr + rs.length + (framesL p (fr + rs.length)).length, [⟨4, s.f.name, ⟨#[]⟩, (s.f.data.size + sumL (framesL p (fr + rs.length)) : Nat)⟩], []⟩
      else ⟨rs ++ framesL p (fr + rs.length), fr + rs.length + (framesL p (fr + rs.length)).length, [], []⟩ := by
  obtain ⟨r0, h1, h2, h3, h4⟩ := kk_last h hl
  have hnx : s.n + (framesL s.f.data s.n).length = fr + rs.length := by rw [h4, List.length_append]; omega
  have hfr : framesL f'.data s.n = framesL s.f.data s.n ++ framesL p (fr + rs.length) := by rw [hd, framesL_join h3, hnx]
  rw [rdM_app _ _ _ (by rw [h1]) (by rw [h1]), h1]
  simp only
  have hsum : sumL (framesL f'.data s.n) = s.f.data.size + sumL (framesL p (fr + rs.length)) := by rw [hfr, sumL_app, h3]
  have hsz : f'.data.size = s.f.data.size + p.size := by rw [hd, size_app]
  have hlen : (framesL f'.data s.n).length = (framesL s.f.data s.n).length + (framesL p (fr + rs.length)).length := by rw [hfr, List.length_append]
  have e2 : fr + r0.length = s.n := h2.symm
  rw [e2]
  by_cases c : sumL (framesL p (fr + rs.length)) < p.size
  · rw [if_pos c, rdM_torn (by rfl) (by show sumL (framesL f'.data s.n) < f'.data.size; rw [hsum, hsz]; omega)]
    simp only
    rw [hsum, hlen, hfr, hn, ← List.append_assoc, ← h4]
    congr 1
    omega
  · rw [if_neg c, rdM_on (by rfl) (by show ¬ sumL (framesL f'.data s.n) < f'.data.size; rw [hsum, hsz]; omega)]
    simp only [rdM]
    rw [hlen, hfr, List.append_nil, ← List.append_assoc, ← h4]
    congr 1
    omega
theorem right_last {fs0 : List F} {f f' : F} (h : Right (fs0 ++ [f])) (hn : f'.name = f.name) (ho : okF f') : Right (fs0 ++ [f']) := by
  have := right_set h (i := fs0.length) (f := f) (g := f') (by simp) hn ho
  simpa using this
theorem files_last {fs0 : List F} {l0 : List SF} {s : SF} {f' : F} (h0 : filesM fs0 = l0) (hs : sf1 s.f = [s]) (hn : f'.name = s.f.name) : filesM (fs0 ++ [f']) = l0 ++ [⟨f', s.n, s.hn⟩] := by
  rw [filesM_app, filesM_cons, sf1_name hn hs, h0]; rfl
/-- what may lie there when a frame was appended: its beginning is there behind a crash -/
theorem kk_torn {fs : List F} {fr : Nat} {rs : List Rec} (h : KK fs fr rs) {l0 : List SF} {s : SF} (hl : filesM fs = l0 ++ [s]) {fs0 : List F} (h0 : fs = fs0 ++ [s.f]) (hf0 : filesM fs0 = l0) (d : ByteArray) (hd : d.size ≤ 65536) (hn : fr + rs.length < 4611686018427387904)
    (hz : s.f.data.size + (16 + d.size) ≤ 262144) (k : Nat) (hk : k ≤ 16 + d.size) (f' : F) (hf' : f' = ⟨s.f.name, s.f.data ++ (frameB (fr + rs.length) d).extract 0 k, ((s.f.data.size + k : Nat) : Int)⟩) :
    Right (fs0 ++ [f']) ∧ fromM (filesM (fs0 ++ [f'])) = fr ∧
    ((k = 16 + d.size ∧ KK (fs0 ++ [f']) fr (rs ++ [⟨fr + rs.length, d, hn, hd⟩])) ∨
     (k = 0 ∧ fs0 ++ [f'] = fs) ∨
     (rdF (fs0 ++ [f']) = ⟨rs, fr + rs.length, [⟨4, s.f.name, ⟨#[]⟩, (s.f.data.size : Nat)⟩], []⟩ ∧ ref (fs0 ++ [f']) ⟨4, s.f.name, ⟨#[]⟩, (s.f.data.size : Nat)⟩ = 0 ∧ eff (fs0 ++ [f']) ⟨4, s.f.name, ⟨#[]⟩, (s.f.data.size : Nat)⟩ = fs)) := by
  subst hf'
  have hps : ((frameB (fr + rs.length) d).extract 0 k).size = k := by rw [ByteArray.size_extract, frameB_size]; omega
  have hm : s ∈ filesM fs := by rw [hl]; simp
  obtain ⟨hsf, hsn, hs1⟩ := filesM_mem hm
  have hok := h.R.ok _ hsf
  have hR : Right (fs0 ++ [⟨s.f.name, s.f.data ++ (frameB (fr + rs.length) d).extract 0 k, ((s.f.data.size + k : Nat) : Int)⟩]) := by
    refine right_last (f := s.f) (by rw [← h0]; exact h.R) rfl ⟨hok.1, ?_, ?_, ?_⟩
    · show (s.f.data ++ _).size ≤ _
      rw [size_app, hps]; omega
    · show (0 : Int) ≤ ((s.f.data.size + k : Nat) : Int)
      omega
    · show ((s.f.data.size + k : Nat) : Int) ≤ ((s.f.data ++ _).size : Int)
      rw [size_app, hps]; exact Int.le_refl _
  have hfm := files_last hf0 hs1 (f' := ⟨s.f.name, s.f.data ++ (frameB (fr + rs.length) d).extract 0 k, ((s.f.data.size + k : Nat) : Int)⟩) rfl
  have hfrom : fromM (filesM (fs0 ++ [⟨s.f.name, s.f.data ++ (frameB (fr + rs.length) d).extract 0 k, ((s.f.data.size + k : Nat) : Int)⟩])) = fr := by
    rw [hfm]
    have := h.fm
    rw [hl] at this
    cases l0 with
    | nil => exact this
    | cons y t => exact this
  have hmore := kk_more h hl ((frameB (fr + rs.length) d).extract 0 k) ⟨s.f.name, s.f.data ++ (frameB (fr + rs.length) d).extract 0 k, ((s.f.data.size + k : Nat) : Int)⟩ rfl rfl
  have hlg : ∀ f ∈ fs0 ++ [⟨s.f.name, s.f.data ++ (frameB (fr + rs.length) d).extract 0 k, ((s.f.data.size + k : Nat) : Int)⟩], numB f.name ≠ none := fun f hf => by
    rcases List.mem_append.1 hf with q | q
    · exact h.lg f (by rw [h0]; exact List.mem_append_left _ q)
    · rw [List.mem_singleton] at q; subst q; exact h.lg s.f hsf
  have hsy : ∀ f ∈ fs0 ++ [⟨s.f.name, s.f.data ++ (frameB (fr + rs.length) d).extract 0 k, ((s.f.data.size + k : Nat) : Int)⟩], f.syn = (f.data.size : Int) := fun f hf => by
    rcases List.mem_append.1 hf with q | q
    · exact h.sy f (by rw [h0]; exact List.mem_append_left _ q)
    · rw [List.mem_singleton] at q; subst q
      show ((s.f.data.size + k : Nat) : Int) = ((s.f.data ++ _).size : Int)
      rw [size_app, hps]
  refine ⟨hR, hfrom, ?_⟩
  by_cases c1 : k = 16 + d.size
  · refine .inl ⟨c1, hR, hlg, hsy, ?_, hfrom⟩
    rw [hfm, hmore]
    have e : framesL ((frameB (fr + rs.length) d).extract 0 k) (fr + rs.length) = [⟨fr + rs.length, d, hn, hd⟩] := by rw [c1, frame_whole, frames_frame hn hd]
    rw [e, hps, if_neg (by simp [sumL]; omega)]
    simp
    omega
  · by_cases c2 : k = 0
    · refine .inr (.inl ⟨c2, ?_⟩)
      rw [h0]
      congr 2
      have e : (frameB (fr + rs.length) d).extract 0 k = ⟨#[]⟩ := by
        apply bs_inj
        apply List.eq_nil_of_length_eq_zero
        rw [bs_len, hps, c2]
      have e2 : s.f.data ++ (⟨#[]⟩ : ByteArray) = s.f.data := by apply bs_inj; rw [bs_app]; simp
      rw [e, e2, c2, Nat.add_zero, ← h.sy _ hsf]
    · refine .inr (.inr ?_)
      have e : framesL ((frameB (fr + rs.length) d).extract 0 k) (fr + rs.length) = [] := frames_cut (by omega) hd
      have hrd : rdF (fs0 ++ [⟨s.f.name, s.f.data ++ (frameB (fr + rs.length) d).extract 0 k, ((s.f.data.size + k : Nat) : Int)⟩]) = ⟨rs, fr + rs.length, [⟨4, s.f.name, ⟨#[]⟩, (s.f.data.size : Nat)⟩], []⟩ := by
        unfold rdF
        rw [hfrom, hfm, hmore, e, hps, if_pos (by simp [sumL]; omega)]
        simp [sumL]
      obtain ⟨g1, g2⟩ := files_cut hR hfm s.f.data.size (by show _ ≤ (s.f.data ++ _).size; rw [size_app]; omega) ⟨#[]⟩
      refine ⟨hrd, g1, ?_⟩
      obtain ⟨q1, q2, q3, _, _⟩ := file_at hR hfm
      unfold eff
      rw [if_neg (by first | decide | (simp only [rmS]; decide))]
      simp only at q1 q2 q3 ⊢
      rw [q1]
      simp only
      rw [if_neg (by first | decide | (simp only [rmS]; decide)), if_neg (by first | decide | (simp only [rmS]; decide)), if_pos (by first | decide | (simp only [rmS]; decide))]
      have hpos : pos (fs0 ++ [⟨s.f.name, s.f.data ++ (frameB (fr + rs.length) d).extract 0 k, ((s.f.data.size + k : Nat) : Int)⟩]) s.f.name = fs0.length := by
        refine pos_unique fs0.length (by simp) (fun i f hi hf => ?_) (fun f hf => ?_)
        · exact hR.rise fs0.length i f ⟨s.f.name, s.f.data ++ (frameB (fr + rs.length) d).extract 0 k, ((s.f.data.size + k : Nat) : Int)⟩ hi hf (by simp)
        · simp at hf; subst hf; exact lt_irrefl _
      rw [hpos, h0]
      simp only [List.set_append_right _ _ (Nat.le_refl _), Nat.sub_self, List.set_cons_zero]
      congr 2
      have e3 : (s.f.data ++ (frameB (fr + rs.length) d).extract 0 k).extract 0 s.f.data.size = s.f.data := by
        rw [ext_app _ _ _ _ (Nat.le_refl _)]
        apply bs_inj; rw [bs_ext, List.drop_zero, List.take_of_length_le (by rw [bs_len]; exact Nat.le_refl _)]
      simp only [Int.toNat_natCast, e3]
      rw [← h.sy _ hsf]
end Go.Proofs.YtkhmdofeonlnpaaGreatDoor

/- SEGMENT, MATHEMATICS: Open; an opening that is cut off; what a log holds behind an append and a crash. -/
namespace Go.Proofs.YtkhmdofeonlnpaaGreatDoor
open Go.RowKit
set_option maxRecDepth 100000
set_option linter.unusedVariables false
set_option linter.unusedSimpArgs false

def zl : L := ⟨⟨[], false, 0, 0⟩, 0, 0, 0, false⟩
open Classical in
/-- what Open answers -/
noncomputable def openM (d : D) (size : Int) : L × List Rec × Int :=
  if ¬ Right d.files then (zl, [], 6) else if ¬ (1 ≤ size ∧ size ≤ 262144) then (zl, [], 2) else if d.down = true then (zl, [], 17)
  else if (doS ⟨d, size, 0, 0, false⟩ (mendM d.files)).2 = 0 then ({ (doS ⟨d, size, 0, 0, false⟩ (mendM d.files)).1 with fr := (fromM (filesM d.files) : Int), nx := ((rdF d.files).nx : Int) }, (rdF d.files).rs, 0)
  else ((doS ⟨d, size, 0, 0, false⟩ (mendM d.files)).1, [], (doS ⟨d, size, 0, 0, false⟩ (mendM d.files)).2)
/-- the files when all is mended -/
noncomputable def mended (fs : List F) : List F := (mendM fs).foldl eff fs
def Syn (fs : List F) : Prop := ∀ f ∈ fs, f.syn = (f.data.size : Int)
theorem syn_eff {fs : List F} {m : S} (h : Syn fs) (hk : m.kind = 4 ∨ m.kind = 5) (h0 : ref fs m = 0) : Syn (eff fs m) := by
  have hk1 : ¬ m.kind = 1 := by omega
  have hk2 : ¬ m.kind = 2 := by omega
  have hk3 : ¬ m.kind = 3 := by omega
  unfold ref at h0
  unfold eff
  rw [if_neg hk1] at h0 ⊢
  cases hf : found fs m.name with
  | none => exact h
  | some f =>
    rw [hf] at h0
    simp only at h0 ⊢
    rw [if_neg hk2] at h0 ⊢
    rw [if_neg hk3]
    rcases hk with hk | hk
    · rw [if_pos hk] at h0 ⊢
      split at h0
      · cases h0
      · rename_i hz
        intro g hg
        rcases List.mem_or_eq_of_mem_set hg with q | q
        · exact h g q
        · subst q
          show m.size = ((f.data.extract 0 m.size.toNat).size : Int)
          rw [ByteArray.size_extract]
          omega
    · rw [if_neg (by omega)]
      intro g hg
      exact h g ((rem_sub fs _).subset hg)
/-- how a mend goes: what is left to be mended lies there then -/
theorem doo_mend {d : D} {m : S} (hR : Right d.files) (hd : d.down = false) (hk : m.kind = 4 ∨ m.kind = 5) (h0 : ref d.files m = 0) :
    (d.fault = 0 ∧ doo d m = (⟨d.files, false, d.fuse, -1⟩, 18)) ∨ (d.fault ≠ 0 ∧ d.fuse = 0 ∧ doo d m = (⟨d.files, true, 0, dec d.fault⟩, 17)) ∨ (d.fault ≠ 0 ∧ d.fuse ≠ 0 ∧ doo d m = (⟨eff d.files m, false, dec d.fuse, dec d.fault⟩, 0)) := by
  have e : doo d m = run d m := doo_right hR (by omega)
  rw [e]
  unfold run
  rw [if_neg (by rw [hd]; decide), if_neg (by rw [h0]; decide)]
  by_cases c1 : d.fault = 0
  · rw [if_pos c1, hd]; exact .inl ⟨c1, rfl⟩
  · rw [if_neg c1]
    by_cases c2 : d.fuse = 0
    · rw [if_pos c2]
      refine .inr (.inl ⟨c1, c2, ?_⟩)
      unfold half
      rw [if_neg (by omega)]
    · rw [if_neg c2]; exact .inr (.inr ⟨c1, c2, rfl⟩)
/-- what holds of a log whose mends went so far -/
structure Mend (l : L) (fs : List F) (r : L × Int) : Prop where
  R : Right r.1.d.files
  md : mended r.1.d.files = mended fs
  rs : (rdF r.1.d.files).rs = (rdF fs).rs
  nx : (rdF r.1.d.files).nx = (rdF fs).nx
  fm : fromM (filesM r.1.d.files) = fromM (filesM fs)
  sz : r.1.size = l.size
  fr : r.1.fr = l.fr
  nx2 : r.1.nx = l.nx
  ok : r.2 = 0 → mendM r.1.d.files = [] ∧ r.1.d.down = false ∧ r.1.broken = l.broken ∧ r.1.d.files = mended fs
  free : l.d.fault = -1 → r.1.d.fault = -1 ∧ (r.2 = 0 ∨ r.2 = 17) ∧ (l.d.fuse = -1 → r.2 = 0 ∧ r.1.d.fuse = -1)
  syn : Syn fs → Syn r.1.d.files
  nu : Num l.d.fuse → Num l.d.fault → Num r.1.d.fuse ∧ Num r.1.d.fault
theorem mend_run : ∀ (ms : List S) (l : L), Right l.d.files → l.d.down = false → mendM l.d.files = ms → Mend l l.d.files (doS l ms)
  | [], l, hR, hd, hm => by
    refine ⟨hR, rfl, rfl, rfl, rfl, rfl, rfl, rfl, fun _ => ⟨hm, hd, rfl, ?_⟩, fun hf => ⟨hf, .inl rfl, fun hu => ⟨rfl, hu⟩⟩, fun h => h, fun a b => ⟨a, b⟩⟩
    show l.d.files = mended l.d.files
    unfold mended; rw [hm]; rfl
  | m :: ms, l, hR, hd, hm => by
    obtain ⟨g1, g2, g3, g4, g5, g6, g7, g8, g9, g10⟩ := mend_one hR hm
    have hmd : mended (eff l.d.files m) = mended l.d.files := by unfold mended; rw [g4, hm]; rfl
    rcases doo_mend hR hd g10 g2 with ⟨c1, e⟩ | ⟨c1, c2, e⟩ | ⟨c1, c2, e⟩
    · unfold doS
      rw [e, if_neg (by first | decide | (simp only [rmS]; decide))]
      exact ⟨hR, rfl, rfl, rfl, rfl, rfl, rfl, rfl, (fun h => by cases h), (fun h => by omega), fun h => h, fun a b => ⟨a, by show Num (-1); unfold Num; omega⟩⟩
    · unfold doS
      rw [e, if_neg (by first | decide | (simp only [rmS]; decide))]
      refine ⟨hR, rfl, rfl, rfl, rfl, rfl, rfl, rfl, fun h => (by cases h), fun h => ⟨by show dec l.d.fault = -1; rw [h]; rfl, .inr rfl, fun h2 => by omega⟩, fun h => h, fun a b => ⟨by show Num 0; unfold Num; omega, num_dec b⟩⟩
    · unfold doS
      rw [e, if_pos rfl]
      have ih := mend_run ms { l with d := ⟨eff l.d.files m, false, dec l.d.fuse, dec l.d.fault⟩ } g3 rfl g4
      obtain ⟨i1, i2, i3, i4, i5, i6, i7, i8, i9, i10, i11, i12⟩ := ih
      refine ⟨i1, i2.trans hmd, i3.trans g5, i4.trans g6, i5.trans g7, i6, i7, i8, fun h => ?_, fun h => ?_, fun h => i11 (syn_eff h g10 g2), fun a b => i12 (num_dec a) (num_dec b)⟩
      · obtain ⟨a, b, c, d⟩ := i9 h
        exact ⟨a, b, c, d.trans hmd⟩
      · obtain ⟨a, b, c⟩ := i10 (by show dec l.d.fault = -1; rw [h]; rfl)
        exact ⟨a, b, fun hu => c (by show dec l.d.fuse = -1; rw [hu]; rfl)⟩
theorem rd_mended {fs : List F} (h : mendM fs = []) : (rdF fs).cut = [] ∧ (rdF fs).rest = [] := by
  unfold mendM at h
  have h1 := List.append_eq_nil_iff.1 h
  exact ⟨h1.2, by simpa using h1.1⟩
/-- an opening that is OK -/
theorem open_ok {d : D} {size : Int} (hR : Right d.files) (hs : 1 ≤ size ∧ size ≤ 262144) (hd : d.down = false) :
    ∃ r, doS ⟨d, size, 0, 0, false⟩ (mendM d.files) = r ∧ Mend ⟨d, size, 0, 0, false⟩ d.files r ∧ openM d size = (if r.2 = 0 then ({ r.1 with fr := (fromM (filesM d.files) : Int), nx := ((rdF d.files).nx : Int) }, (rdF d.files).rs, 0) else (r.1, [], r.2)) := by
  refine ⟨_, rfl, mend_run _ ⟨d, size, 0, 0, false⟩ hR hd rfl, ?_⟩
  unfold openM
  rw [if_neg (fun h => h hR), if_neg (fun h => h hs), if_neg (by rw [hd]; decide)]
/-- an opening of a disk that never fails -/
theorem open_free {fs : List F} {size : Int} (hR : Right fs) (hs : 1 ≤ size ∧ size ≤ 262144) :
    openM ⟨fs, false, -1, -1⟩ size = (⟨⟨mended fs, false, -1, -1⟩, size, fromM (filesM fs), (rdF fs).nx, false⟩, (rdF fs).rs, 0) ∧ Right (mended fs) ∧ mendM (mended fs) = [] ∧ (rdF (mended fs)).rs = (rdF fs).rs ∧ (rdF (mended fs)).nx = (rdF fs).nx ∧ fromM (filesM (mended fs)) = fromM (filesM fs) := by
  obtain ⟨r, hr, hM, ho⟩ := open_ok (d := ⟨fs, false, -1, -1⟩) hR hs rfl
  obtain ⟨f1, _, f2⟩ := hM.free rfl
  obtain ⟨f3, f4⟩ := f2 rfl
  obtain ⟨k1, k2, k3, k4⟩ := hM.ok f3
  rw [ho, if_pos f3]
  obtain ⟨⟨⟨gs, dn, fu, fa⟩, sz, fr, nx, br⟩, c⟩ := r
  simp only at f1 f3 f4 k1 k2 k3 k4
  have h1 := hM.R
  have h2 := hM.rs
  have h3 := hM.nx
  have h4 := hM.fm
  have h5 := hM.sz
  simp only at h1 h2 h3 h4 h5
  subst f1 f3 f4 k2 k3 k4 h5
  exact ⟨rfl, h1, k1, h2, h3, h4⟩
theorem open_kk {fs : List F} {rs : List Rec} {size : Int} (h : KK fs 1 rs) (hs : 1 ≤ size ∧ size ≤ 262144) : openM ⟨fs, false, -1, -1⟩ size = (⟨⟨fs, false, -1, -1⟩, size, 1, ((1 + rs.length : Nat) : Int), false⟩, rs, 0) := by
  have h1 := (open_free h.R hs).1
  have h2 : mended fs = fs := by unfold mended; rw [kk_mend h]; rfl
  rw [h2, kk_rdF h, h.fm] at h1
  exact h1
/-- the log that goes on -/
abbrev kl (fs : List F) (rs : List Rec) (fuse fault size : Int) : L := ⟨⟨fs, false, fuse, fault⟩, size, 1, ((1 + rs.length : Nat) : Int), false⟩
/-- what an append leaves, for a crash -/
def Aft (fs : List F) (rs : List Rec) (d : ByteArray) (gs : List F) (c : Int) : Prop :=
  (c ≠ 0 ∧ KK gs 1 rs) ∨
  (∃ (fs1 : List F) (fs0 : List F) (l0 : List SF) (s : SF) (syn : Nat), KK fs1 1 rs ∧ filesM fs1 = l0 ++ [s] ∧ fs1 = fs0 ++ [s.f] ∧ filesM fs0 = l0 ∧ d.size ≤ 65536 ∧ 1 + rs.length < 4611686018427387904 ∧ s.f.data.size + (16 + d.size) ≤ 262144 ∧
    gs = fs0 ++ [⟨s.f.name, s.f.data ++ frameB (1 + rs.length) d, (syn : Int)⟩] ∧ ((c ≠ 0 ∧ syn = s.f.data.size) ∨ (c = 0 ∧ syn = s.f.data.size + (16 + d.size))))
end Go.Proofs.YtkhmdofeonlnpaaGreatDoor

/- SEGMENT: THE WALKS OVER Append's and Drop's closures. -/
namespace Go.Proofs.YtkhmdofeonlnpaaGreatDoor
open Go.RowKit
set_option maxRecDepth 100000
set_option linter.unusedVariables false
set_option linter.unusedSimpArgs false
noncomputable def appM (l : L) (data : ByteArray) : L × Int := if 65536 < data.size then (l, 4) else if l.nx = 4611686018427387904 then (l, 2) else addM l data
noncomputable def cutM (l : L) (q : Int) : L × Int := if l.nx < q then (l, 2) else dropM l q

set_option maxHeartbeats 4000000 in
theorem append1_any (w : World) (g bx : Nat) (ad : Option Addr) (n cap : Nat) (l : L) (data : ByteArray) (h : LAt w g ad n cap l) (hR : Right l.d.files) (hT : Tabs w) (hg3 : 5 < g) (hds : data.size ≤ 9223372036854775807) (hn0 : 0 ≤ l.nx) (hn1 : l.nx ≤ 4611686018427387904)
    (hb : w.cell? ⟨bx, 0, none⟩ = some (.string data)) :
    Calls Tryz.prog 154 #[.pointer (some ⟨g, 0, none⟩), .pointer (some ⟨bx, 0, none⟩)] w fun e w' => ∃ ad2 n2 cap2, e = .returned (.int .i64 (appM l data).2) ∧ LAt w' g ad2 n2 cap2 (appM l data).1 ∧ w.grownBy w' (some g) ∧
      ∀ b, (Value.slice ad2 n2 cap2).ownBlock = some b → (Value.slice ad n cap).ownBlock = some b ∨ w.heap.size ≤ b := by
  have HL := Lib.hid h
  have HR := Lib.hid hR
  have HT := Lib.hid hT
  clear hR hT
  obtain ⟨⟨fs, down, fuse, fault⟩, size, fr, nx, broken⟩ := l
  simp only at hn0 hn1
  obtain ⟨d0, d1, d2, d3, d4, d5, d6, d7⟩ := box8 h.h
  have hlg := (Array.getElem?_eq_some_iff.1 h.h).1
  clear h
  go_enter Tryz.func154, Tryz.ntmps154
  by_cases h1 : 65536 < data.size
  · have h1I : (65536 : Int) < (data.size : Int) := by omega
    have hA : appM ⟨⟨fs, down, fuse, fault⟩, size, fr, nx, broken⟩ data = (⟨⟨fs, down, fuse, fault⟩, size, fr, nx, broken⟩, 4) := if_pos h1
    have HA := Lib.hid hA
    clear hA
    go_wp2
    exact bodyPost_ret (v := .int .i64 4) (by simp [results, Tryz.results154, go_sem]) rfl ⟨by rw [HA.out], ad, n, cap, by rw [HA.out]; exact HL.out, kd_refl g w, fun b hb => .inl hb⟩
  · have h1I : ¬ (65536 : Int) < (data.size : Int) := by omega
    by_cases h2 : nx = 4611686018427387904
    · have hA : appM ⟨⟨fs, down, fuse, fault⟩, size, fr, nx, broken⟩ data = (⟨⟨fs, down, fuse, fault⟩, size, fr, nx, broken⟩, 2) := by
        unfold appM
        rw [if_neg h1]
        exact if_pos h2
      have HA := Lib.hid hA
      clear hA
      subst h2
      go_wp2
      exact bodyPost_ret (v := .int .i64 2) (by simp [results, Tryz.results154, go_sem]) rfl ⟨by rw [HA.out], ad, n, cap, by rw [HA.out]; exact HL.out, kd_refl g w, fun b hb => .inl hb⟩
    · have hA : appM ⟨⟨fs, down, fuse, fault⟩, size, fr, nx, broken⟩ data = addM ⟨⟨fs, down, fuse, fault⟩, size, fr, nx, broken⟩ data := by
        unfold appM
        rw [if_neg h1]
        exact if_neg h2
      have HA := Lib.hid hA
      have h2e : (nx == 4611686018427387904) = false := by simp [h2]
      clear hA
      go_wp2_with fail
      refine (ladd_any w g ad n cap _ data HL.out HR.out HT.out hg3 (by omega) hn0 (by show nx < _; omega)).mono ?_
      rintro e w2 ⟨ad2, n2, cap2, rfl, hL, hg, ho⟩
      rw [← HA.out] at hL ⊢
      have HL2 := Lib.hid hL
      have Hg := Lib.hid hg
      have Ho := Lib.hid ho
      clear hL hg ho d0 d1 d2 d3 d4 d5 d6 d7
      go_wp2
      exact bodyPost_ret (v := .int .i64 (appM ⟨⟨fs, down, fuse, fault⟩, size, fr, nx, broken⟩ data).2) (by simp [results, Tryz.results154, go_sem]) rfl ⟨ad2, n2, cap2, rfl, HL2.out, Hg.out, Ho.out⟩

set_option maxHeartbeats 4000000 in
theorem drop1_any (w : World) (g bx : Nat) (ad : Option Addr) (n cap : Nat) (l : L) (q : Int) (h : LAt w g ad n cap l) (hR : Right l.d.files) (hT : Tabs w) (hg3 : 5 < g) (hq0 : 0 ≤ q) (hq1 : q ≤ 18446744073709551615)
    (hb : w.cell? ⟨bx, 0, none⟩ = some (.int .u64 q)) :
    Calls Tryz.prog 156 #[.pointer (some ⟨g, 0, none⟩), .pointer (some ⟨bx, 0, none⟩)] w fun e w' => ∃ ad2 n2 cap2, e = .returned (.int .i64 (cutM l q).2) ∧ LAt w' g ad2 n2 cap2 (cutM l q).1 ∧ w.grownBy w' (some g) ∧
      ∀ b, (Value.slice ad2 n2 cap2).ownBlock = some b → (Value.slice ad n cap).ownBlock = some b ∨ w.heap.size ≤ b := by
  have HL := Lib.hid h
  have HR := Lib.hid hR
  have HT := Lib.hid hT
  clear hR hT
  obtain ⟨⟨fs, down, fuse, fault⟩, size, fr, nx, broken⟩ := l
  obtain ⟨d0, d1, d2, d3, d4, d5, d6, d7⟩ := box8 h.h
  have hlg := (Array.getElem?_eq_some_iff.1 h.h).1
  clear h
  go_enter Tryz.func156, Tryz.ntmps156
  by_cases h1 : nx < q
  · have hA : cutM ⟨⟨fs, down, fuse, fault⟩, size, fr, nx, broken⟩ q = (⟨⟨fs, down, fuse, fault⟩, size, fr, nx, broken⟩, 2) := if_pos h1
    have HA := Lib.hid hA
    clear hA
    go_upto_region 1 with (fail)
    go_quiet (fail)
    go_wp2
    exact bodyPost_ret (v := .int .i64 2) (by simp [results, Tryz.results156, go_sem]) rfl ⟨by rw [HA.out], ad, n, cap, by rw [HA.out]; exact HL.out.under (below_drewN (Below.refl _ w) _), kd_below (kd_refl g w) (below_drewN (Below.refl _ w) _), fun b hb => .inl hb⟩
  · have hA : cutM ⟨⟨fs, down, fuse, fault⟩, size, fr, nx, broken⟩ q = dropM ⟨⟨fs, down, fuse, fault⟩, size, fr, nx, broken⟩ q := if_neg h1
    have HA := Lib.hid hA
    clear hA
    go_upto_region 1 with (fail)
    go_quiet (fail)
    go_wp2_with fail
    refine (ldrop_any _ g ad n cap _ q (HL.out.under (below_drewN (Below.refl _ w) _)) HR.out (HT.out.under (below_drewN (Below.refl _ w) _)) hg3 hq0 hq1).mono ?_
    rintro e w2 ⟨ad2, n2, cap2, rfl, hL, hg, ho⟩
    replace hg := World.grownBy.trans (kd_below (kd_refl g w) (below_drewN (Below.refl _ w) _)) hg
    replace ho : ∀ b, (Value.slice ad2 n2 cap2).ownBlock = some b → (Value.slice ad n cap).ownBlock = some b ∨ w.heap.size ≤ b := fun b hb => (ho b hb).imp id (fun h => Nat.le_trans (below_drewN (Below.refl 0 w) _).size h)
    rw [← HA.out] at hL ⊢
    have HL2 := Lib.hid hL
    have Hg := Lib.hid hg
    have Ho := Lib.hid ho
    clear hL hg ho d0 d1 d2 d3 d4 d5 d6 d7
    go_wp2
    exact bodyPost_ret (v := .int .i64 (cutM ⟨⟨fs, down, fuse, fault⟩, size, fr, nx, broken⟩ q).2) (by simp [results, Tryz.results156, go_sem]) rfl ⟨ad2, n2, cap2, rfl, HL2.out, Hg.out, Ho.out⟩
end Go.Proofs.YtkhmdofeonlnpaaGreatDoor

/- SEGMENT: THE WALK OVER change. -/
namespace Go.Proofs.YtkhmdofeonlnpaaGreatDoor
open Go.RowKit
set_option maxRecDepth 100000
set_option linter.unusedVariables false
set_option linter.unusedSimpArgs false
/-- what change does -/
noncomputable def chM (f : L → L × Int) (l : L) : L × Int := if l.broken = true then (l, 6) else f l
abbrev zlog : Array Value := lcells (.slice none 0 0) false 0 0 0 0 0 false
/-- what change answers with -/
def ChP (w : World) (l : L) (f : L → L × Int) (e : Ending) (w' : World) : Prop := Below w.heap.size w w' ∧
  ((¬ LRight l ∧ e = .returned (.tuple #[.agg zlog, .int .i64 6])) ∨
   (LRight l ∧ ∃ ad2 n2 cap2, e = .returned (.tuple #[.agg ((chM f l).1.cells (.slice ad2 n2 cap2)), .int .i64 (chM f l).2]) ∧ DIn w' ad2 n2 cap2 (chM f l).1.d.fuse (chM f l).1.d.fault (chM f l).1.d.files ∧ (∀ b, (Value.slice ad2 n2 cap2).ownBlock = some b → w.heap.size ≤ b ∧ Free w' b)))

theorem cell_put8 {w : World} {g : Nat} {x0 x1 x2 x3 x4 x5 x6 x7 : Value} {t : TypeId} (h : w.heap[g]? = some (.cells #[x0, x1, x2, x3, x4, x5, x6, x7] t (0, 0))) (v0 v1 v2 v3 v4 v5 v6 v7 : Value) :
    let W := (((((((w.setCell ⟨g, 0, none⟩ v0).setCell ⟨g, 1, none⟩ v1).setCell ⟨g, 2, none⟩ v2).setCell ⟨g, 3, none⟩ v3).setCell ⟨g, 4, none⟩ v4).setCell ⟨g, 5, none⟩ v5).setCell ⟨g, 6, none⟩ v6).setCell ⟨g, 7, none⟩ v7
    W.cell? ⟨g, 0, none⟩ = some v0 ∧ W.cell? ⟨g, 1, none⟩ = some v1 ∧ W.cell? ⟨g, 2, none⟩ = some v2 ∧ W.cell? ⟨g, 3, none⟩ = some v3 ∧ W.cell? ⟨g, 4, none⟩ = some v4 ∧ W.cell? ⟨g, 5, none⟩ = some v5 ∧ W.cell? ⟨g, 6, none⟩ = some v6 ∧ W.cell? ⟨g, 7, none⟩ = some v7 := by
  intro W
  have h0 : (w.setCell ⟨g, 0, none⟩ v0).heap[g]? = some (.cells #[v0, x1, x2, x3, x4, x5, x6, x7] t (0, 0)) := heap_setCell_same _ g 0 _ t _ h
  have h1 : ((w.setCell ⟨g, 0, none⟩ v0).setCell ⟨g, 1, none⟩ v1).heap[g]? = some (.cells #[v0, v1, x2, x3, x4, x5, x6, x7] t (0, 0)) := heap_setCell_same _ g 1 _ t _ h0
  have h2 : (((w.setCell ⟨g, 0, none⟩ v0).setCell ⟨g, 1, none⟩ v1).setCell ⟨g, 2, none⟩ v2).heap[g]? = some (.cells #[v0, v1, v2, x3, x4, x5, x6, x7] t (0, 0)) := heap_setCell_same _ g 2 _ t _ h1
  have h3 : ((((w.setCell ⟨g, 0, none⟩ v0).setCell ⟨g, 1, none⟩ v1).setCell ⟨g, 2, none⟩ v2).setCell ⟨g, 3, none⟩ v3).heap[g]? = some (.cells #[v0, v1, v2, v3, x4, x5, x6, x7] t (0, 0)) := heap_setCell_same _ g 3 _ t _ h2
  have h4 : (((((w.setCell ⟨g, 0, none⟩ v0).setCell ⟨g, 1, none⟩ v1).setCell ⟨g, 2, none⟩ v2).setCell ⟨g, 3, none⟩ v3).setCell ⟨g, 4, none⟩ v4).heap[g]? = some (.cells #[v0, v1, v2, v3, v4, x5, x6, x7] t (0, 0)) := heap_setCell_same _ g 4 _ t _ h3
  have h5 : ((((((w.setCell ⟨g, 0, none⟩ v0).setCell ⟨g, 1, none⟩ v1).setCell ⟨g, 2, none⟩ v2).setCell ⟨g, 3, none⟩ v3).setCell ⟨g, 4, none⟩ v4).setCell ⟨g, 5, none⟩ v5).heap[g]? = some (.cells #[v0, v1, v2, v3, v4, v5, x6, x7] t (0, 0)) := heap_setCell_same _ g 5 _ t _ h4
  have h6 : (((((((w.setCell ⟨g, 0, none⟩ v0).setCell ⟨g, 1, none⟩ v1).setCell ⟨g, 2, none⟩ v2).setCell ⟨g, 3, none⟩ v3).setCell ⟨g, 4, none⟩ v4).setCell ⟨g, 5, none⟩ v5).setCell ⟨g, 6, none⟩ v6).heap[g]? = some (.cells #[v0, v1, v2, v3, v4, v5, v6, x7] t (0, 0)) := heap_setCell_same _ g 6 _ t _ h5
  have h7 : ((((((((w.setCell ⟨g, 0, none⟩ v0).setCell ⟨g, 1, none⟩ v1).setCell ⟨g, 2, none⟩ v2).setCell ⟨g, 3, none⟩ v3).setCell ⟨g, 4, none⟩ v4).setCell ⟨g, 5, none⟩ v5).setCell ⟨g, 6, none⟩ v6).setCell ⟨g, 7, none⟩ v7).heap[g]? = some (.cells #[v0, v1, v2, v3, v4, v5, v6, v7] t (0, 0)) := heap_setCell_same _ g 7 _ t _ h6
  exact box8 h7
theorem below_put8 {B : Nat} {w0 w : World} {g : Nat} (h : Below B w0 w) (hg : B ≤ g) (v0 v1 v2 v3 v4 v5 v6 v7 : Value) :
    Below B w0 ((((((((w.setCell ⟨g, 0, none⟩ v0).setCell ⟨g, 1, none⟩ v1).setCell ⟨g, 2, none⟩ v2).setCell ⟨g, 3, none⟩ v3).setCell ⟨g, 4, none⟩ v4).setCell ⟨g, 5, none⟩ v5).setCell ⟨g, 6, none⟩ v6).setCell ⟨g, 7, none⟩ v7) :=
  (((((((h.setCell (p := ⟨g, 0, none⟩) hg v0).setCell (p := ⟨g, 1, none⟩) hg v1).setCell (p := ⟨g, 2, none⟩) hg v2).setCell (p := ⟨g, 3, none⟩) hg v3).setCell (p := ⟨g, 4, none⟩) hg v4).setCell (p := ⟨g, 5, none⟩) hg v5).setCell (p := ⟨g, 6, none⟩) hg v6).setCell (p := ⟨g, 7, none⟩) hg v7
theorem Free.put8 {w : World} {b : Nat} (h : Free w b) (g : Nat) (v0 v1 v2 v3 v4 v5 v6 v7 : Value) :
    Free ((((((((w.setCell ⟨g, 0, none⟩ v0).setCell ⟨g, 1, none⟩ v1).setCell ⟨g, 2, none⟩ v2).setCell ⟨g, 3, none⟩ v3).setCell ⟨g, 4, none⟩ v4).setCell ⟨g, 5, none⟩ v5).setCell ⟨g, 6, none⟩ v6).setCell ⟨g, 7, none⟩ v7) b :=
  (((((((h.set g 0 v0).set g 1 v1).set g 2 v2).set g 3 v3).set g 4 v4).set g 5 v5).set g 6 v6).set g 7 v7
theorem DIn.put8 {w : World} {ad : Option Addr} {n cap : Nat} {fu fa : Int} {fs : List F} (h : DIn w ad n cap fu fa fs) {g : Nat} (ho : (Value.slice ad n cap).ownBlock ≠ some g) (v0 v1 v2 v3 v4 v5 v6 v7 : Value) :
    DIn ((((((((w.setCell ⟨g, 0, none⟩ v0).setCell ⟨g, 1, none⟩ v1).setCell ⟨g, 2, none⟩ v2).setCell ⟨g, 3, none⟩ v3).setCell ⟨g, 4, none⟩ v4).setCell ⟨g, 5, none⟩ v5).setCell ⟨g, 6, none⟩ v6).setCell ⟨g, 7, none⟩ v7) ad n cap fu fa fs :=
  ⟨(Inp.set (Inp.set (Inp.set (Inp.set (Inp.set (Inp.set (Inp.set (Inp.set h.i ho) ho) ho) ho) ho) ho) ho) ho).mono (by simp [World.setCell]), h.fit, h.u0, h.u1, h.f0, h.f1⟩
theorem kd_to_below {g B : Nat} {w w' w0 : World} (h0 : Below B w0 w) (h : w.grownBy w' (some g)) (hg : B ≤ g) (hs : B ≤ w.heap.size) : Below B w0 w' :=
  h0.trans ⟨h.os, h.tape, h.output, h.size, fun k hk => h.block k (by omega) (fun e => by injection e with e; omega)⟩

set_option maxHeartbeats 4000000 in
theorem change29_any (w : World) (bx : Nat) (ad : Option Addr) (n cap : Nat) (l : L) (data : ByteArray) (hds : data.size ≤ 9223372036854775807) (h : LIn w ad n cap l) (h64 : n ≤ 1000) (hT : Tabs w) (hw : 5 < w.heap.size) (hbx : bx < w.heap.size)
    (hb : w.cell? ⟨bx, 0, none⟩ = some (.string data)) :
    Calls Tryz.prog 153 #[.agg (l.cells (.slice ad n cap)), .func (.func 154) #[] #[.pointer (some ⟨bx, 0, none⟩)]] w fun e w' => ChP w l (fun l => appM l data) e w' := by
  have HI := Lib.hid h
  have HT := Lib.hid hT
  clear h hT
  obtain ⟨⟨fs, down, fuse, fault⟩, size, fr, nx, broken⟩ := l
  have hb0 : Below w.heap.size w ((w.alloc (.cells (lcells (.slice ad n cap) down fuse fault size fr nx broken) 27)).alloc (.cells zlog 27)) := ((Below.refl _ w).alloc (Nat.le_refl _) _).alloc (by rw [sz_alloc]; omega) _
  have hx0 : ((w.alloc (.cells (lcells (.slice ad n cap) down fuse fault size fr nx broken) 27)).alloc (.cells zlog 27)).heap[w.heap.size]? = some (.cells (lcells (.slice ad n cap) down fuse fault size fr nx broken) 27 (0, 0)) := (((Below.refl _ (w.alloc (.cells (lcells (.slice ad n cap) down fuse fault size fr nx broken) 27))).alloc (Nat.le_refl _) (.cells zlog 27)).block _ (by rw [sz_alloc]; omega)).trans (blk_new w _)
  have hx1 : ((w.alloc (.cells (lcells (.slice ad n cap) down fuse fault size fr nx broken) 27)).alloc (.cells zlog 27)).heap[w.heap.size + 1]? = some (.cells zlog 27 (0, 0)) := by
    have := blk_new (w.alloc (.cells (lcells (.slice ad n cap) down fuse fault size fr nx broken) 27)) (.cells zlog 27)
    rwa [sz_alloc] at this
  have HB0 := Lib.hid hb0
  have Hx0 := Lib.hid hx0
  have Hx1 := Lib.hid hx1
  clear hb0 hx0 hx1
  go_enter Tryz.func153, Tryz.ntmps153
  go_wp2_with fail
  refine (lcheck_any _ ad n cap _ (HI.out.under HB0.out)).mono ?_
  rintro e w1 ⟨c, rfl, hc, hb1⟩
  replace Hx0 := Lib.hid ((hb1.block _ (Array.getElem?_eq_some_iff.1 Hx0.out).1).trans Hx0.out)
  have Hx1' := Lib.hid ((hb1.block _ (Array.getElem?_eq_some_iff.1 Hx1.out).1).trans Hx1.out)
  have hz1 := (Array.getElem?_eq_some_iff.1 Hx1'.out).1
  have Hb1 := Lib.hid (HB0.out.trans (hb1.mono HB0.out.size))
  clear hb1
  rcases hc with ⟨hR, rfl⟩ | ⟨hR, rfl⟩
  · have HRt := Lib.hid hR
    clear hR
    obtain ⟨d0, d1, d2, d3, d4, d5, d6, d7⟩ := box8 Hx0.out
    have hz0 := (Array.getElem?_eq_some_iff.1 Hx0.out).1
    go_wp2_with fail
    refine (lbegin_any w1 ad cap n _ (HI.out.d.i.under Hb1.out) h64).mono ?_
    rintro e w2 ⟨g, ad2, n2, cap2, rfl, hg, hi2, ho2, hlow, hof, hb2⟩
    have HL := Lib.hid (show LAt w2 g ad2 n2 cap2 ⟨⟨fs, down, fuse, fault⟩, size, fr, nx, broken⟩ from ⟨hg, ⟨hi2, HI.out.d.fit, HI.out.d.u0, HI.out.d.u1, HI.out.d.f0, HI.out.d.f1⟩, ho2, fun b e => (hof b e).2⟩)
    have Hof := Lib.hid (fun b e => (hof b e).1)
    have hgB : w.heap.size + 1 < g := by omega
    have HgB := Lib.hid hgB
    have Hz1 := Lib.hid hz1
    have hb2w : w2.cell? ⟨bx, 0, none⟩ = some (.string data) := (World.cell?_of_block ((Hb1.out.trans (hb2.mono Hb1.out.size)).block bx hbx)).trans hb
    have Hbw := Lib.hid hb2w
    have hT2 := HT.out.under (Hb1.out.trans (hb2.mono Hb1.out.size))
    have HT2 := Lib.hid hT2
    clear hb2w hT2
    have Hx2 := Lib.hid ((hb2.block _ hz1).trans Hx1'.out)
    have Hb2 := Lib.hid (Hb1.out.trans (hb2.mono Hb1.out.size))
    have Hb2w := Lib.hid hb2.size
    clear d0 d1 d2 d3 d4 d5 d6 d7 hz0 hz1 hg hi2 ho2 hof hb2 hgB Hx0 Hx1 Hx1'
    obtain ⟨d0, d1, d2, d3, d4, d5, d6, d7⟩ := box8 HL.out.h
    have hlg := (Array.getElem?_eq_some_iff.1 HL.out.h).1
    cases broken with
    | true =>
      have hz := (Array.getElem?_eq_some_iff.1 Hx2.out).1
      have f0 := frozen_of_row w2 (w.heap.size + 1) 0 _ 27 Hx2.out
      have f1 := frozen_of_row w2 (w.heap.size + 1) 1 _ 27 Hx2.out
      have f2 := frozen_of_row w2 (w.heap.size + 1) 2 _ 27 Hx2.out
      have f3 := frozen_of_row w2 (w.heap.size + 1) 3 _ 27 Hx2.out
      have f4 := frozen_of_row w2 (w.heap.size + 1) 4 _ 27 Hx2.out
      have f5 := frozen_of_row w2 (w.heap.size + 1) 5 _ 27 Hx2.out
      have f6 := frozen_of_row w2 (w.heap.size + 1) 6 _ 27 Hx2.out
      have f7 := frozen_of_row w2 (w.heap.size + 1) 7 _ 27 Hx2.out
      obtain ⟨y0, y1, y2, y3, y4, y5, y6, y7⟩ := box8 Hx2.out
      have Hput := Lib.hid (cell_put8 Hx2.out (.slice ad2 n2 cap2) (.bool down) (.int .i64 fuse) (.int .i64 fault) (.int .i64 size) (.int .u64 fr) (.int .u64 nx) (.bool true))
      go_wp2
      exact bodyPost_ret (v := .tuple #[.agg (lcells (.slice ad2 n2 cap2) down fuse fault size fr nx true), .int .i64 6]) (by simp [results, Tryz.results153, go_sem, y0, y1, y2, y3, y4, y5, y6, y7, Hput.out.1, Hput.out.2.1, Hput.out.2.2.1, Hput.out.2.2.2.1, Hput.out.2.2.2.2.1, Hput.out.2.2.2.2.2.1, Hput.out.2.2.2.2.2.2.1, Hput.out.2.2.2.2.2.2.2]) rfl
        ⟨below_put8 Hb2.out (by omega) _ _ _ _ _ _ _ _, .inr ⟨HRt.out, ad2, n2, cap2, rfl, HL.out.d.put8 (fun e => by have h1 := Hof.out _ e; have h2 := Hz1.out; omega) _ _ _ _ _ _ _ _, fun b hb => ⟨by have h1 := Hof.out _ hb; have h2 := Hb1.out.size; omega, (HL.out.f b hb).put8 _ _ _ _ _ _ _ _ _⟩⟩⟩
    | false =>
      go_wp2_with fail
      refine (append1_any w2 g bx ad2 n2 cap2 _ data HL.out HRt.out.1 HT2.out (by have := HgB.out; omega) hds HI.out.n0 HRt.out.2.2.2 Hbw.out).mono ?_
      rintro e w3 ⟨ad3, n3, cap3, rfl, hL3, hg3, ho3⟩
      have Hx3 := Lib.hid ((hg3.block _ (Nat.lt_of_lt_of_le Hz1.out (by have := Hb2w.out; omega)) (fun e => by injection e with e; have := HgB.out; omega)).trans Hx2.out)
      obtain ⟨⟨⟨⟨fs3, dn3, fu3, fa3⟩, sz3, fr3, nx3, br3⟩, c3⟩, hr⟩ : ∃ r, appM ⟨⟨fs, down, fuse, fault⟩, size, fr, nx, false⟩ data = r := ⟨_, rfl⟩
      rw [hr] at hL3 ⊢
      have hch : chM (fun l => appM l data) ⟨⟨fs, down, fuse, fault⟩, size, fr, nx, false⟩ = (⟨⟨fs3, dn3, fu3, fa3⟩, sz3, fr3, nx3, br3⟩, c3) := by unfold chM; rw [if_neg (by simp)]; exact hr
      have Hch := Lib.hid hch
      have HL3 := Lib.hid hL3
      have Hb3 := Lib.hid (kd_to_below Hb2.out hg3 (by have := HgB.out; omega) Hb2.out.size)
      have Ho3 := Lib.hid (show ∀ b, (Value.slice ad3 n3 cap3).ownBlock = some b → w1.heap.size ≤ b from fun b hb => (ho3 b hb).elim (fun h => Hof.out b h) (fun h => by have := Hb2w.out; omega))
      clear hr hch hL3 hg3 ho3 d0 d1 d2 d3 d4 d5 d6 d7
      have hz := (Array.getElem?_eq_some_iff.1 Hx3.out).1
      have f0 := frozen_of_row w3 (w.heap.size + 1) 0 _ 27 Hx3.out
      have f1 := frozen_of_row w3 (w.heap.size + 1) 1 _ 27 Hx3.out
      have f2 := frozen_of_row w3 (w.heap.size + 1) 2 _ 27 Hx3.out
      have f3 := frozen_of_row w3 (w.heap.size + 1) 3 _ 27 Hx3.out
      have f4 := frozen_of_row w3 (w.heap.size + 1) 4 _ 27 Hx3.out
      have f5 := frozen_of_row w3 (w.heap.size + 1) 5 _ 27 Hx3.out
      have f6 := frozen_of_row w3 (w.heap.size + 1) 6 _ 27 Hx3.out
      have f7 := frozen_of_row w3 (w.heap.size + 1) 7 _ 27 Hx3.out
      obtain ⟨y0, y1, y2, y3, y4, y5, y6, y7⟩ := box8 Hx3.out
      have Hput := Lib.hid (cell_put8 Hx3.out (.slice ad3 n3 cap3) (.bool dn3) (.int .i64 fu3) (.int .i64 fa3) (.int .i64 sz3) (.int .u64 fr3) (.int .u64 nx3) (.bool br3))
      obtain ⟨d0, d1, d2, d3, d4, d5, d6, d7⟩ := box8 HL3.out.h
      have hlg3 := (Array.getElem?_eq_some_iff.1 HL3.out.h).1
      go_wp2
      exact bodyPost_ret (v := .tuple #[.agg (lcells (.slice ad3 n3 cap3) dn3 fu3 fa3 sz3 fr3 nx3 br3), .int .i64 c3]) (by simp [results, Tryz.results153, go_sem, y0, y1, y2, y3, y4, y5, y6, y7, Hput.out.1, Hput.out.2.1, Hput.out.2.2.1, Hput.out.2.2.2.1, Hput.out.2.2.2.2.1, Hput.out.2.2.2.2.2.1, Hput.out.2.2.2.2.2.2.1, Hput.out.2.2.2.2.2.2.2]) rfl
        ⟨below_put8 Hb3.out (by omega) _ _ _ _ _ _ _ _, .inr ⟨HRt.out, ad3, n3, cap3, by rw [Hch.out], by rw [Hch.out]; exact HL3.out.d.put8 (fun e => by have h1 := Ho3.out _ e; have h2 := Hz1.out; omega) _ _ _ _ _ _ _ _, fun b hb => ⟨by have h1 := Ho3.out _ hb; have h2 := Hb1.out.size; omega, (HL3.out.f b hb).put8 _ _ _ _ _ _ _ _ _⟩⟩⟩
  · have HR := Lib.hid hR
    clear hR
    have f0 := frozen_of_row w1 (w.heap.size + 1) 0 _ 27 Hx1'.out
    have f1 := frozen_of_row w1 (w.heap.size + 1) 1 _ 27 Hx1'.out
    have f2 := frozen_of_row w1 (w.heap.size + 1) 2 _ 27 Hx1'.out
    have f3 := frozen_of_row w1 (w.heap.size + 1) 3 _ 27 Hx1'.out
    have f4 := frozen_of_row w1 (w.heap.size + 1) 4 _ 27 Hx1'.out
    have f5 := frozen_of_row w1 (w.heap.size + 1) 5 _ 27 Hx1'.out
    have f6 := frozen_of_row w1 (w.heap.size + 1) 6 _ 27 Hx1'.out
    have f7 := frozen_of_row w1 (w.heap.size + 1) 7 _ 27 Hx1'.out
    obtain ⟨y0, y1, y2, y3, y4, y5, y6, y7⟩ := box8 Hx1'.out
    have Hput := Lib.hid (cell_put8 Hx1'.out (.slice none 0 0) (.bool false) (.int .i64 0) (.int .i64 0) (.int .i64 0) (.int .u64 0) (.int .u64 0) (.bool false))
    go_wp2
    exact bodyPost_ret (v := .tuple #[.agg zlog, .int .i64 6]) (by simp [results, Tryz.results153, go_sem, y0, y1, y2, y3, y4, y5, y6, y7, Hput.out.1, Hput.out.2.1, Hput.out.2.2.1, Hput.out.2.2.2.1, Hput.out.2.2.2.2.1, Hput.out.2.2.2.2.2.1, Hput.out.2.2.2.2.2.2.1, Hput.out.2.2.2.2.2.2.2]) rfl
      ⟨below_put8 Hb1.out (by omega) _ _ _ _ _ _ _ _, .inl ⟨HR.out, rfl⟩⟩

set_option maxHeartbeats 4000000 in
theorem change32_any (w : World) (bx : Nat) (ad : Option Addr) (n cap : Nat) (l : L) (q : Int) (hq0 : 0 ≤ q) (hq1 : q ≤ 18446744073709551615) (h : LIn w ad n cap l) (h64 : n ≤ 1000) (hT : Tabs w) (hw : 5 < w.heap.size) (hbx : bx < w.heap.size)
    (hb : w.cell? ⟨bx, 0, none⟩ = some (.int .u64 q)) :
    Calls Tryz.prog 153 #[.agg (l.cells (.slice ad n cap)), .func (.func 156) #[] #[.pointer (some ⟨bx, 0, none⟩)]] w fun e w' => ChP w l (fun l => cutM l q) e w' := by
  have HI := Lib.hid h
  have HT := Lib.hid hT
  clear h hT
  obtain ⟨⟨fs, down, fuse, fault⟩, size, fr, nx, broken⟩ := l
  have hb0 : Below w.heap.size w ((w.alloc (.cells (lcells (.slice ad n cap) down fuse fault size fr nx broken) 27)).alloc (.cells zlog 27)) := ((Below.refl _ w).alloc (Nat.le_refl _) _).alloc (by rw [sz_alloc]; omega) _
  have hx0 : ((w.alloc (.cells (lcells (.slice ad n cap) down fuse fault size fr nx broken) 27)).alloc (.cells zlog 27)).heap[w.heap.size]? = some (.cells (lcells (.slice ad n cap) down fuse fault size fr nx broken) 27 (0, 0)) := (((Below.refl _ (w.alloc (.cells (lcells (.slice ad n cap) down fuse fault size fr nx broken) 27))).alloc (Nat.le_refl _) (.cells zlog 27)).block _ (by rw [sz_alloc]; omega)).trans (blk_new w _)
  have hx1 : ((w.alloc (.cells (lcells (.slice ad n cap) down fuse fault size fr nx broken) 27)).alloc (.cells zlog 27)).heap[w.heap.size + 1]? = some (.cells zlog 27 (0, 0)) := by
    have := blk_new (w.alloc (.cells (lcells (.slice ad n cap) down fuse fault size fr nx broken) 27)) (.cells zlog 27)
    rwa [sz_alloc] at this
  have HB0 := Lib.hid hb0
  have Hx0 := Lib.hid hx0
  have Hx1 := Lib.hid hx1
  clear hb0 hx0 hx1
  go_enter Tryz.func153, Tryz.ntmps153
  go_wp2_with fail
  refine (lcheck_any _ ad n cap _ (HI.out.under HB0.out)).mono ?_
  rintro e w1 ⟨c, rfl, hc, hb1⟩
  replace Hx0 := Lib.hid ((hb1.block _ (Array.getElem?_eq_some_iff.1 Hx0.out).1).trans Hx0.out)
  have Hx1' := Lib.hid ((hb1.block _ (Array.getElem?_eq_some_iff.1 Hx1.out).1).trans Hx1.out)
  have hz1 := (Array.getElem?_eq_some_iff.1 Hx1'.out).1
  have Hb1 := Lib.hid (HB0.out.trans (hb1.mono HB0.out.size))
  clear hb1
  rcases hc with ⟨hR, rfl⟩ | ⟨hR, rfl⟩
  · have HRt := Lib.hid hR
    clear hR
    obtain ⟨d0, d1, d2, d3, d4, d5, d6, d7⟩ := box8 Hx0.out
    have hz0 := (Array.getElem?_eq_some_iff.1 Hx0.out).1
    go_wp2_with fail
    refine (lbegin_any w1 ad cap n _ (HI.out.d.i.under Hb1.out) h64).mono ?_
    rintro e w2 ⟨g, ad2, n2, cap2, rfl, hg, hi2, ho2, hlow, hof, hb2⟩
    have HL := Lib.hid (show LAt w2 g ad2 n2 cap2 ⟨⟨fs, down, fuse, fault⟩, size, fr, nx, broken⟩ from ⟨hg, ⟨hi2, HI.out.d.fit, HI.out.d.u0, HI.out.d.u1, HI.out.d.f0, HI.out.d.f1⟩, ho2, fun b e => (hof b e).2⟩)
    have Hof := Lib.hid (fun b e => (hof b e).1)
    have hgB : w.heap.size + 1 < g := by omega
    have HgB := Lib.hid hgB
    have Hz1 := Lib.hid hz1
    have hb2w : w2.cell? ⟨bx, 0, none⟩ = some (.int .u64 q) := (World.cell?_of_block ((Hb1.out.trans (hb2.mono Hb1.out.size)).block bx hbx)).trans hb
    have Hbw := Lib.hid hb2w
    have hT2 := HT.out.under (Hb1.out.trans (hb2.mono Hb1.out.size))
    have HT2 := Lib.hid hT2
    clear hb2w hT2
    have Hx2 := Lib.hid ((hb2.block _ hz1).trans Hx1'.out)
    have Hb2 := Lib.hid (Hb1.out.trans (hb2.mono Hb1.out.size))
    have Hb2w := Lib.hid hb2.size
    clear d0 d1 d2 d3 d4 d5 d6 d7 hz0 hz1 hg hi2 ho2 hof hb2 hgB Hx0 Hx1 Hx1'
    obtain ⟨d0, d1, d2, d3, d4, d5, d6, d7⟩ := box8 HL.out.h
    have hlg := (Array.getElem?_eq_some_iff.1 HL.out.h).1
    cases broken with
    | true =>
      have hz := (Array.getElem?_eq_some_iff.1 Hx2.out).1
      have f0 := frozen_of_row w2 (w.heap.size + 1) 0 _ 27 Hx2.out
      have f1 := frozen_of_row w2 (w.heap.size + 1) 1 _ 27 Hx2.out
      have f2 := frozen_of_row w2 (w.heap.size + 1) 2 _ 27 Hx2.out
      have f3 := frozen_of_row w2 (w.heap.size + 1) 3 _ 27 Hx2.out
      have f4 := frozen_of_row w2 (w.heap.size + 1) 4 _ 27 Hx2.out
      have f5 := frozen_of_row w2 (w.heap.size + 1) 5 _ 27 Hx2.out
      have f6 := frozen_of_row w2 (w.heap.size + 1) 6 _ 27 Hx2.out
      have f7 := frozen_of_row w2 (w.heap.size + 1) 7 _ 27 Hx2.out
      obtain ⟨y0, y1, y2, y3, y4, y5, y6, y7⟩ := box8 Hx2.out
      have Hput := Lib.hid (cell_put8 Hx2.out (.slice ad2 n2 cap2) (.bool down) (.int .i64 fuse) (.int .i64 fault) (.int .i64 size) (.int .u64 fr) (.int .u64 nx) (.bool true))
      go_wp2
      exact bodyPost_ret (v := .tuple #[.agg (lcells (.slice ad2 n2 cap2) down fuse fault size fr nx true), .int .i64 6]) (by simp [results, Tryz.results153, go_sem, y0, y1, y2, y3, y4, y5, y6, y7, Hput.out.1, Hput.out.2.1, Hput.out.2.2.1, Hput.out.2.2.2.1, Hput.out.2.2.2.2.1, Hput.out.2.2.2.2.2.1, Hput.out.2.2.2.2.2.2.1, Hput.out.2.2.2.2.2.2.2]) rfl
        ⟨below_put8 Hb2.out (by omega) _ _ _ _ _ _ _ _, .inr ⟨HRt.out, ad2, n2, cap2, rfl, HL.out.d.put8 (fun e => by have h1 := Hof.out _ e; have h2 := Hz1.out; omega) _ _ _ _ _ _ _ _, fun b hb => ⟨by have h1 := Hof.out _ hb; have h2 := Hb1.out.size; omega, (HL.out.f b hb).put8 _ _ _ _ _ _ _ _ _⟩⟩⟩
    | false =>
      go_wp2_with fail
      refine (drop1_any w2 g bx ad2 n2 cap2 _ q HL.out HRt.out.1 HT2.out (by have := HgB.out; omega) hq0 hq1 Hbw.out).mono ?_
      rintro e w3 ⟨ad3, n3, cap3, rfl, hL3, hg3, ho3⟩
      have Hx3 := Lib.hid ((hg3.block _ (Nat.lt_of_lt_of_le Hz1.out (by have := Hb2w.out; omega)) (fun e => by injection e with e; have := HgB.out; omega)).trans Hx2.out)
      obtain ⟨⟨⟨⟨fs3, dn3, fu3, fa3⟩, sz3, fr3, nx3, br3⟩, c3⟩, hr⟩ : ∃ r, cutM ⟨⟨fs, down, fuse, fault⟩, size, fr, nx, false⟩ q = r := ⟨_, rfl⟩
      rw [hr] at hL3 ⊢
      have hch : chM (fun l => cutM l q) ⟨⟨fs, down, fuse, fault⟩, size, fr, nx, false⟩ = (⟨⟨fs3, dn3, fu3, fa3⟩, sz3, fr3, nx3, br3⟩, c3) := by unfold chM; rw [if_neg (by simp)]; exact hr
      have Hch := Lib.hid hch
      have HL3 := Lib.hid hL3
      have Hb3 := Lib.hid (kd_to_below Hb2.out hg3 (by have := HgB.out; omega) Hb2.out.size)
      have Ho3 := Lib.hid (show ∀ b, (Value.slice ad3 n3 cap3).ownBlock = some b → w1.heap.size ≤ b from fun b hb => (ho3 b hb).elim (fun h => Hof.out b h) (fun h => by have := Hb2w.out; omega))
      clear hr hch hL3 hg3 ho3 d0 d1 d2 d3 d4 d5 d6 d7
      have hz := (Array.getElem?_eq_some_iff.1 Hx3.out).1
      have f0 := frozen_of_row w3 (w.heap.size + 1) 0 _ 27 Hx3.out
      have f1 := frozen_of_row w3 (w.heap.size + 1) 1 _ 27 Hx3.out
      have f2 := frozen_of_row w3 (w.heap.size + 1) 2 _ 27 Hx3.out
      have f3 := frozen_of_row w3 (w.heap.size + 1) 3 _ 27 Hx3.out
      have f4 := frozen_of_row w3 (w.heap.size + 1) 4 _ 27 Hx3.out
      have f5 := frozen_of_row w3 (w.heap.size + 1) 5 _ 27 Hx3.out
      have f6 := frozen_of_row w3 (w.heap.size + 1) 6 _ 27 Hx3.out
      have f7 := frozen_of_row w3 (w.heap.size + 1) 7 _ 27 Hx3.out
      obtain ⟨y0, y1, y2, y3, y4, y5, y6, y7⟩ := box8 Hx3.out
      have Hput := Lib.hid (cell_put8 Hx3.out (.slice ad3 n3 cap3) (.bool dn3) (.int .i64 fu3) (.int .i64 fa3) (.int .i64 sz3) (.int .u64 fr3) (.int .u64 nx3) (.bool br3))
      obtain ⟨d0, d1, d2, d3, d4, d5, d6, d7⟩ := box8 HL3.out.h
      have hlg3 := (Array.getElem?_eq_some_iff.1 HL3.out.h).1
      go_wp2
      exact bodyPost_ret (v := .tuple #[.agg (lcells (.slice ad3 n3 cap3) dn3 fu3 fa3 sz3 fr3 nx3 br3), .int .i64 c3]) (by simp [results, Tryz.results153, go_sem, y0, y1, y2, y3, y4, y5, y6, y7, Hput.out.1, Hput.out.2.1, Hput.out.2.2.1, Hput.out.2.2.2.1, Hput.out.2.2.2.2.1, Hput.out.2.2.2.2.2.1, Hput.out.2.2.2.2.2.2.1, Hput.out.2.2.2.2.2.2.2]) rfl
        ⟨below_put8 Hb3.out (by omega) _ _ _ _ _ _ _ _, .inr ⟨HRt.out, ad3, n3, cap3, by rw [Hch.out], by rw [Hch.out]; exact HL3.out.d.put8 (fun e => by have h1 := Ho3.out _ e; have h2 := Hz1.out; omega) _ _ _ _ _ _ _ _, fun b hb => ⟨by have h1 := Ho3.out _ hb; have h2 := Hb1.out.size; omega, (HL3.out.f b hb).put8 _ _ _ _ _ _ _ _ _⟩⟩⟩
  · have HR := Lib.hid hR
    clear hR
    have f0 := frozen_of_row w1 (w.heap.size + 1) 0 _ 27 Hx1'.out
    have f1 := frozen_of_row w1 (w.heap.size + 1) 1 _ 27 Hx1'.out
    have f2 := frozen_of_row w1 (w.heap.size + 1) 2 _ 27 Hx1'.out
    have f3 := frozen_of_row w1 (w.heap.size + 1) 3 _ 27 Hx1'.out
    have f4 := frozen_of_row w1 (w.heap.size + 1) 4 _ 27 Hx1'.out
    have f5 := frozen_of_row w1 (w.heap.size + 1) 5 _ 27 Hx1'.out
    have f6 := frozen_of_row w1 (w.heap.size + 1) 6 _ 27 Hx1'.out
    have f7 := frozen_of_row w1 (w.heap.size + 1) 7 _ 27 Hx1'.out
    obtain ⟨y0, y1, y2, y3, y4, y5, y6, y7⟩ := box8 Hx1'.out
    have Hput := Lib.hid (cell_put8 Hx1'.out (.slice none 0 0) (.bool false) (.int .i64 0) (.int .i64 0) (.int .i64 0) (.int .u64 0) (.int .u64 0) (.bool false))
    go_wp2
    exact bodyPost_ret (v := .tuple #[.agg zlog, .int .i64 6]) (by simp [results, Tryz.results153, go_sem, y0, y1, y2, y3, y4, y5, y6, y7, Hput.out.1, Hput.out.2.1, Hput.out.2.2.1, Hput.out.2.2.2.1, Hput.out.2.2.2.2.1, Hput.out.2.2.2.2.2.1, Hput.out.2.2.2.2.2.2.1, Hput.out.2.2.2.2.2.2.2]) rfl
      ⟨below_put8 Hb1.out (by omega) _ _ _ _ _ _ _ _, .inl ⟨HR.out, rfl⟩⟩
end Go.Proofs.YtkhmdofeonlnpaaGreatDoor

/- SEGMENT, MATHEMATICS: an append to a log that was appended to, and nothing else. -/
namespace Go.Proofs.YtkhmdofeonlnpaaGreatDoor
open Go.RowKit
set_option maxRecDepth 100000
set_option linter.unusedVariables false
set_option linter.unusedSimpArgs false

theorem last_snoc {α : Type} (l : List α) (x : α) : (l ++ [x]).getLast? = some x := by simp
theorem doo3 {d : D} {m : S} (hR : Right d.files) (hd : d.down = false) (hk : 1 ≤ m.kind ∧ m.kind ≤ 5) (h0 : ref d.files m = 0) :
    (d.fault = 0 ∧ doo d m = (⟨d.files, false, d.fuse, -1⟩, 18)) ∨ (d.fault ≠ 0 ∧ d.fuse = 0 ∧ doo d m = (⟨half d.files m, true, 0, dec d.fault⟩, 17)) ∨ (d.fault ≠ 0 ∧ d.fuse ≠ 0 ∧ doo d m = (⟨eff d.files m, false, dec d.fuse, dec d.fault⟩, 0)) := by
  have e : doo d m = run d m := doo_right hR hk
  rw [e]
  unfold run
  rw [if_neg (by rw [hd]; decide), if_neg (by rw [h0]; decide)]
  by_cases c1 : d.fault = 0
  · rw [if_pos c1, hd]; exact .inl ⟨c1, rfl⟩
  · rw [if_neg c1]
    by_cases c2 : d.fuse = 0
    · rw [if_pos c2]; exact .inr (.inl ⟨c1, c2, rfl⟩)
    · rw [if_neg c2]; exact .inr (.inr ⟨c1, c2, rfl⟩)
theorem pos_last {fs0 : List F} {f : F} (hR : Right (fs0 ++ [f])) : pos (fs0 ++ [f]) f.name = fs0.length ∧ found (fs0 ++ [f]) f.name = some f := by
  have h1 : pos (fs0 ++ [f]) f.name = fs0.length := by
    refine pos_unique fs0.length (by simp) (fun i g hi hg => ?_) (fun g hg => ?_)
    · exact hR.rise fs0.length i g f hi hg (by simp)
    · simp at hg; subst hg; exact lt_irrefl _
  refine ⟨h1, ?_⟩
  unfold found
  rw [h1]
  simp
theorem eff_last2 {fs0 : List F} {f : F} (hR : Right (fs0 ++ [f])) (x : ByteArray) (hx : f.data.size + x.size ≤ 262144) : ref (fs0 ++ [f]) ⟨2, f.name, x, 0⟩ = 0 ∧ eff (fs0 ++ [f]) ⟨2, f.name, x, 0⟩ = fs0 ++ [⟨f.name, f.data ++ x, f.syn⟩] := by
  obtain ⟨h1, h2⟩ := pos_last hR
  constructor
  · unfold ref
    rw [if_neg (by first | decide | (simp only [rmS]; decide))]
    simp only [h2]
    rw [if_pos (by first | decide | (simp only [rmS]; decide)), if_neg (by omega)]
  · unfold eff
    rw [if_neg (by first | decide | (simp only [rmS]; decide))]
    simp only [h2, h1]
    rw [if_pos (by first | decide | (simp only [rmS]; decide)), List.set_append_right _ _ (Nat.le_refl _), Nat.sub_self, List.set_cons_zero]
theorem eff_last3 {fs0 : List F} {f : F} (hR : Right (fs0 ++ [f])) (x : ByteArray) : ref (fs0 ++ [f]) ⟨3, f.name, x, 0⟩ = 0 ∧ eff (fs0 ++ [f]) ⟨3, f.name, x, 0⟩ = fs0 ++ [⟨f.name, f.data, f.data.size⟩] := by
  obtain ⟨h1, h2⟩ := pos_last hR
  constructor
  · unfold ref
    rw [if_neg (by first | decide | (simp only [rmS]; decide))]
    simp only [h2]
    rw [if_neg (by first | decide | (simp only [rmS]; decide)), if_neg (by first | decide | (simp only [rmS]; decide))]
  · unfold eff
    rw [if_neg (by first | decide | (simp only [rmS]; decide))]
    simp only [h2, h1]
    rw [if_neg (by first | decide | (simp only [rmS]; decide)), if_pos (by first | decide | (simp only [rmS]; decide)), List.set_append_right _ _ (Nat.le_refl _), Nat.sub_self, List.set_cons_zero]
/-- what an append comes to -/
structure App (fs : List F) (rs : List Rec) (fuse fault size : Int) (d : ByteArray) (r : L × Int) : Prop where
  R : Right r.1.d.files
  nf : Num r.1.d.fuse
  na : Num r.1.d.fault
  sz : r.1.size = size
  fr : r.1.fr = 1
  n0 : 0 ≤ r.1.nx
  n1 : r.1.nx ≤ 4611686018427387904
  aft : Aft fs rs d r.1.d.files r.2
  ok : r.2 = 0 → ∃ h1 h2, KK r.1.d.files 1 (rs ++ [⟨1 + rs.length, d, h1, h2⟩]) ∧ r.1 = ⟨⟨r.1.d.files, false, r.1.d.fuse, r.1.d.fault⟩, size, 1, ((1 + (rs.length + 1) : Nat) : Int), false⟩
  free : r.2 = 0 → fuse = -1 → fault = -1 → r.1.d.fuse = -1 ∧ r.1.d.fault = -1
  long : 65536 < d.size → r.2 = 4
  full : d.size ≤ 65536 → fuse = -1 → fault = -1 → r.2 = 0 ∨ (r.2 = 8 ∧ fs.length = 64)
theorem add2_kk {fs1 fs : List F} {rs : List Rec} {fu fa fuse fault size : Int} {d : ByteArray} (hk : KK fs1 1 rs) {l0 : List SF} {s : SF} {fs0 : List F} (hl : filesM fs1 = l0 ++ [s]) (h0 : fs1 = fs0 ++ [s.f]) (hf0 : filesM fs0 = l0) (hd : d.size ≤ 65536)
    (hz : s.f.data.size + (16 + d.size) ≤ 262144) (nfu : Num fu) (nfa : Num fa) (hfree : fuse = -1 → fault = -1 → fu = -1 ∧ fa = -1) :
    App fs rs fuse fault size d (add2 (kl fs1 rs fu fa size) (frameB (1 + rs.length) d)) := by
  have hb := kk_bound hk
  have hlast : lastN2 fs1 = s.f.name := by
    unfold lastN2 lastM
    rw [hl, last_snoc]
  have hR0 : Right (fs0 ++ [s.f]) := by rw [← h0]; exact hk.R
  have hok := hk.R.ok s.f (by rw [h0]; simp)
  have hsy := hk.sy s.f (by rw [h0]; simp)
  have hfs := frameB_size (1 + rs.length) d
  have hsz : (s.f.data ++ frameB (1 + rs.length) d).size = s.f.data.size + (16 + d.size) := by rw [size_app, hfs]
  obtain ⟨a1, a2⟩ := eff_last2 hR0 (frameB (1 + rs.length) d) (by rw [hfs]; exact hz)
  have hR1 : Right (fs0 ++ [⟨s.f.name, s.f.data ++ frameB (1 + rs.length) d, s.f.syn⟩]) := by rw [← a2]; exact right_eff hR0 ⟨by first | decide | (simp only [rmS]; decide), by first | decide | (simp only [rmS]; decide)⟩ a1
  obtain ⟨b1, b2⟩ := eff_last3 (f := ⟨s.f.name, s.f.data ++ frameB (1 + rs.length) d, s.f.syn⟩) hR1 ⟨#[]⟩
  have hR2 : Right (fs0 ++ [⟨s.f.name, s.f.data ++ frameB (1 + rs.length) d, ((s.f.data ++ frameB (1 + rs.length) d).size : Int)⟩]) := by rw [← b2]; exact right_eff hR1 ⟨by first | decide | (simp only [rmS]; decide), by first | decide | (simp only [rmS]; decide)⟩ b1
  simp only at b1 b2
  have hAft1 : ∀ c : Int, c ≠ 0 → Aft fs rs d (fs0 ++ [⟨s.f.name, s.f.data ++ frameB (1 + rs.length) d, s.f.syn⟩]) c := fun c hc =>
    .inr ⟨fs1, fs0, l0, s, s.f.data.size, hk, hl, h0, hf0, hd, by omega, hz, by rw [hsy], .inl ⟨hc, rfl⟩⟩
  have hn1 : ((1 + rs.length : Nat) : Int) ≤ 4611686018427387904 := by omega
  have hlast' : lastN2 (fs0 ++ [s.f]) = s.f.name := by rw [← h0]; exact hlast
  unfold add2
  simp only [h0, hlast']
  rcases doo3 (d := ⟨fs0 ++ [s.f], false, fu, fa⟩) (m := ⟨2, s.f.name, frameB (1 + rs.length) d, 0⟩) hR0 rfl ⟨by first | decide | (simp only [rmS]; decide), by first | decide | (simp only [rmS]; decide)⟩ a1 with ⟨c1, e⟩ | ⟨c1, c2, e⟩ | ⟨c1, c2, e⟩
  · have e3 : doS (kl (fs0 ++ [s.f]) rs fu fa size) [⟨2, s.f.name, frameB (1 + rs.length) d, 0⟩, ⟨3, s.f.name, ⟨#[]⟩, 0⟩] = (⟨⟨fs0 ++ [s.f], false, fu, -1⟩, size, 1, ((1 + rs.length : Nat) : Int), true⟩, 18) := by
      unfold doS; rw [e]; rfl
    rw [e3, if_neg (by first | decide | (simp only [rmS]; decide))]
    exact ⟨hR0, nfu, by show Num (-1); unfold Num; omega, rfl, rfl, by show (0 : Int) ≤ ((1 + rs.length : Nat) : Int); omega, hn1, .inl ⟨by show (18 : Int) ≠ 0; decide, by show KK (fs0 ++ [s.f]) 1 rs; rw [← h0]; exact hk⟩, (fun h => by cases h), (fun h => by cases h), (fun h => by omega), fun _ h1 h2 => by have := (hfree h1 h2).2; simp only at c1; omega⟩
  · have e3 : doS (kl (fs0 ++ [s.f]) rs fu fa size) [⟨2, s.f.name, frameB (1 + rs.length) d, 0⟩, ⟨3, s.f.name, ⟨#[]⟩, 0⟩] = (⟨⟨fs0 ++ [⟨s.f.name, s.f.data ++ frameB (1 + rs.length) d, s.f.syn⟩], true, 0, dec fa⟩, size, 1, ((1 + rs.length : Nat) : Int), true⟩, 17) := by
      have hh : half (fs0 ++ [s.f]) ⟨2, s.f.name, frameB (1 + rs.length) d, 0⟩ = fs0 ++ [⟨s.f.name, s.f.data ++ frameB (1 + rs.length) d, s.f.syn⟩] := by unfold half; rw [if_pos rfl]; exact a2
      simp only [hh] at e
      unfold doS; rw [e]; rfl
    rw [e3, if_neg (by first | decide | (simp only [rmS]; decide))]
    exact ⟨hR1, by show Num 0; unfold Num; omega, num_dec nfa, rfl, rfl, by show (0 : Int) ≤ ((1 + rs.length : Nat) : Int); omega, hn1, hAft1 17 (by first | decide | (simp only [rmS]; decide)), (fun h => by cases h), (fun h => by cases h), (fun h => by omega), fun _ h1 h2 => by have := (hfree h1 h2).1; simp only at c2; omega⟩
  · simp only [a2] at e
    rcases doo3 (d := ⟨fs0 ++ [⟨s.f.name, s.f.data ++ frameB (1 + rs.length) d, s.f.syn⟩], false, dec fu, dec fa⟩) (m := ⟨3, s.f.name, ⟨#[]⟩, 0⟩) hR1 rfl ⟨by first | decide | (simp only [rmS]; decide), by first | decide | (simp only [rmS]; decide)⟩ b1 with ⟨g1, e2⟩ | ⟨g1, g2, e2⟩ | ⟨g1, g2, e2⟩
    · have e3 : doS (kl (fs0 ++ [s.f]) rs fu fa size) [⟨2, s.f.name, frameB (1 + rs.length) d, 0⟩, ⟨3, s.f.name, ⟨#[]⟩, 0⟩] = (⟨⟨fs0 ++ [⟨s.f.name, s.f.data ++ frameB (1 + rs.length) d, s.f.syn⟩], false, dec fu, -1⟩, size, 1, ((1 + rs.length : Nat) : Int), true⟩, 18) := by
        unfold doS; rw [e, if_pos rfl]; unfold doS; rw [e2]; rfl
      rw [e3, if_neg (by first | decide | (simp only [rmS]; decide))]
      exact ⟨hR1, num_dec nfu, by show Num (-1); unfold Num; omega, rfl, rfl, by show (0 : Int) ≤ ((1 + rs.length : Nat) : Int); omega, hn1, hAft1 18 (by first | decide | (simp only [rmS]; decide)), (fun h => by cases h), (fun h => by cases h), (fun h => by omega), fun _ h1 h2 => by
        have h3 := (hfree h1 h2).2
        simp only [h3] at g1
        exact absurd g1 (by first | decide | (simp only [rmS]; decide))⟩
    · have e3 : doS (kl (fs0 ++ [s.f]) rs fu fa size) [⟨2, s.f.name, frameB (1 + rs.length) d, 0⟩, ⟨3, s.f.name, ⟨#[]⟩, 0⟩] = (⟨⟨fs0 ++ [⟨s.f.name, s.f.data ++ frameB (1 + rs.length) d, s.f.syn⟩], true, 0, dec (dec fa)⟩, size, 1, ((1 + rs.length : Nat) : Int), true⟩, 17) := by
        have hh : half (fs0 ++ [⟨s.f.name, s.f.data ++ frameB (1 + rs.length) d, s.f.syn⟩]) ⟨3, s.f.name, ⟨#[]⟩, 0⟩ = fs0 ++ [⟨s.f.name, s.f.data ++ frameB (1 + rs.length) d, s.f.syn⟩] := by unfold half; exact if_neg (c := (3 : Int) = 2) (by decide)
        simp only [hh] at e2
        unfold doS; rw [e, if_pos rfl]; unfold doS; rw [e2]; rfl
      rw [e3, if_neg (by first | decide | (simp only [rmS]; decide))]
      exact ⟨hR1, by show Num 0; unfold Num; omega, num_dec (num_dec nfa), rfl, rfl, by show (0 : Int) ≤ ((1 + rs.length : Nat) : Int); omega, hn1, hAft1 17 (by first | decide | (simp only [rmS]; decide)), (fun h => by cases h), (fun h => by cases h), (fun h => by omega), fun _ h1 h2 => by
        have h3 := (hfree h1 h2).1
        simp only [h3] at g2
        exact absurd g2 (by first | decide | (simp only [rmS]; decide))⟩
    · simp only [b2] at e2
      have e3 : doS (kl (fs0 ++ [s.f]) rs fu fa size) [⟨2, s.f.name, frameB (1 + rs.length) d, 0⟩, ⟨3, s.f.name, ⟨#[]⟩, 0⟩] = (⟨⟨fs0 ++ [⟨s.f.name, s.f.data ++ frameB (1 + rs.length) d, ((s.f.data ++ frameB (1 + rs.length) d).size : Int)⟩], false, dec (dec fu), dec (dec fa)⟩, size, 1, ((1 + rs.length : Nat) : Int), false⟩, 0) := by
        unfold doS; rw [e, if_pos rfl]; unfold doS; rw [e2, if_pos rfl]; unfold doS; rfl
      rw [e3, if_pos (by rfl)]
      have hK : KK (fs0 ++ [⟨s.f.name, s.f.data ++ frameB (1 + rs.length) d, ((s.f.data ++ frameB (1 + rs.length) d).size : Int)⟩]) 1 (rs ++ [⟨1 + rs.length, d, by omega, hd⟩]) := by
        obtain ⟨_, _, t3⟩ := kk_torn hk hl h0 hf0 d hd (by omega) hz (16 + d.size) (Nat.le_refl _) _ rfl
        rcases t3 with ⟨_, t⟩ | ⟨t, _⟩ | ⟨t, _, _⟩
        · rw [frame_whole] at t
          rw [hsz]
          exact t
        · omega
        · exfalso
          have hm : s ∈ filesM fs1 := by rw [hl]; simp
          have hfm := files_last hf0 (filesM_mem hm).2.2 (f' := ⟨s.f.name, s.f.data ++ (frameB (1 + rs.length) d).extract 0 (16 + d.size), ((s.f.data.size + (16 + d.size) : Nat) : Int)⟩) rfl
          have hmore := kk_more hk hl ((frameB (1 + rs.length) d).extract 0 (16 + d.size)) ⟨s.f.name, s.f.data ++ (frameB (1 + rs.length) d).extract 0 (16 + d.size), ((s.f.data.size + (16 + d.size) : Nat) : Int)⟩ rfl rfl
          obtain ⟨_, hfr, _⟩ := kk_torn hk hl h0 hf0 d hd (by omega) hz (16 + d.size) (Nat.le_refl _) _ rfl
          unfold rdF at t
          rw [hfr, hfm, hmore, frame_whole, frames_frame (by omega) hd, hfs, if_neg (by simp [sumL])] at t
          simp at t
      refine ⟨hR2, num_dec (num_dec nfu), num_dec (num_dec nfa), rfl, rfl, ?_, ?_, ?_, fun _ => ⟨by omega, hd, hK, ?_⟩, fun _ h1 h2 => ?_, (fun h => by omega), fun _ _ _ => .inl rfl⟩
      · show (0 : Int) ≤ ((1 + rs.length : Nat) : Int) + 1
        omega
      · show ((1 + rs.length : Nat) : Int) + 1 ≤ 4611686018427387904
        omega
      · exact .inr ⟨fs1, fs0, l0, s, s.f.data.size + (16 + d.size), hk, hl, h0, hf0, hd, by omega, hz, by rw [← hsz], .inr ⟨rfl, rfl⟩⟩
      · simp only [L.mk.injEq, true_and, and_true]
        omega
      · obtain ⟨q1, q2⟩ := hfree h1 h2
        subst q1 q2
        exact ⟨rfl, rfl⟩
theorem app_kk {fs : List F} {rs : List Rec} {fuse fault size : Int} {d : ByteArray} (hk : KK fs 1 rs) (hs : 1 ≤ size ∧ size ≤ 262144) (nfu : Num fuse) (nfa : Num fault) : App fs rs fuse fault size d (appM (kl fs rs fuse fault size) d) := by
  have hb := kk_bound hk
  have hn0 : (0 : Int) ≤ ((1 + rs.length : Nat) : Int) := by omega
  have hn1 : ((1 + rs.length : Nat) : Int) ≤ 4611686018427387904 := by omega
  unfold appM
  by_cases hd : 65536 < d.size
  · rw [if_pos hd]
    exact ⟨hk.R, nfu, nfa, rfl, rfl, hn0, hn1, .inl ⟨by show (4 : Int) ≠ 0; decide, hk⟩, (fun h => by cases h), (fun h => by cases h), (fun _ => rfl), fun h => by omega⟩
  rw [if_neg hd, if_neg (by show ¬ ((1 + rs.length : Nat) : Int) = 4611686018427387904; omega)]
  have hfb : frB (kl fs rs fuse fault size) d = frameB (1 + rs.length) d := by
    unfold frB frameB
    rw [show (kl fs rs fuse fault size).nx.toNat = 1 + rs.length from Int.toNat_natCast _]
  have hfs := frameB_size (1 + rs.length) d
  unfold addM
  rw [hfb]
  by_cases hroom : roomM fs size ((16 + d.size : Nat) : Int) = true
  · have h1 : add1 (kl fs rs fuse fault size) d = (kl fs rs fuse fault size, 0) := by
      unfold add1
      rw [hfb, hfs, if_pos hroom]
    rw [h1, if_pos rfl]
    unfold roomM at hroom
    cases hl : lastM fs with
    | none => rw [hl] at hroom; cases hroom
    | some s =>
      rw [hl] at hroom
      simp only [Bool.and_eq_true, decide_eq_true_eq] at hroom
      rcases List.eq_nil_or_concat (filesM fs) with e | ⟨l0, s', e⟩
      · unfold lastM at hl; rw [e] at hl; cases hl
      · rw [List.concat_eq_append] at e
        have hss : s' = s := by
          unfold lastM at hl
          rw [e, last_snoc] at hl
          injection hl
        subst hss
        obtain ⟨fs0, g1, g2⟩ := last_at hk.lg e
        exact add2_kk hk e g1 g2 (by omega) (by omega) nfu nfa (fun a b => ⟨a, b⟩)
  · have h1 : add1 (kl fs rs fuse fault size) d = doS (kl fs rs fuse fault size) [⟨1, nameB (1 + rs.length), ⟨#[]⟩, 0⟩] := by
      unfold add1
      rw [hfb, hfs, if_neg hroom]
      rw [show (kl fs rs fuse fault size).nx.toNat = 1 + rs.length from Int.toNat_natCast _]
    have hne : ∀ l0 s, filesM fs = l0 ++ [s] → s.f.data.size ≠ 0 := fun l0 s e h0 => by
      apply hroom
      unfold roomM lastM
      rw [e, last_snoc]
      simp only [h0, Bool.and_eq_true, decide_eq_true_eq]
      omega
    obtain ⟨k1, k2, k3⟩ := kk_new hk (by omega) hne 0 ⟨#[]⟩
    rw [h1]
    by_cases h64 : fs.length = 64
    · rw [if_pos h64] at k1
      have e3 : doS (kl fs rs fuse fault size) [⟨1, nameB (1 + rs.length), ⟨#[]⟩, 0⟩] = (⟨⟨fs, false, fuse, fault⟩, size, 1, ((1 + rs.length : Nat) : Int), true⟩, 8) := by
        have e : doo ⟨fs, false, fuse, fault⟩ ⟨1, nameB (1 + rs.length), ⟨#[]⟩, 0⟩ = (⟨fs, false, fuse, fault⟩, 8) := by
          rw [doo_right hk.R ⟨by first | decide | (simp only [rmS]; decide), by first | decide | (simp only [rmS]; decide)⟩]
          unfold run
          rw [if_neg (by first | decide | (simp only [rmS]; decide))]
          simp only [k1]
          rfl
        unfold doS; rw [e]; rfl
      rw [e3, if_neg (by first | decide | (simp only [rmS]; decide))]
      exact ⟨hk.R, nfu, nfa, rfl, rfl, hn0, hn1, .inl ⟨by show (8 : Int) ≠ 0; decide, hk⟩, (fun h => by cases h), (fun h => by cases h), (fun h => by omega), fun _ _ _ => .inr ⟨rfl, h64⟩⟩
    · rw [if_neg h64] at k1
      obtain ⟨k4, k5⟩ := k3 h64
      rcases doo3 (d := ⟨fs, false, fuse, fault⟩) (m := ⟨1, nameB (1 + rs.length), ⟨#[]⟩, 0⟩) hk.R rfl ⟨by first | decide | (simp only [rmS]; decide), by first | decide | (simp only [rmS]; decide)⟩ k1 with ⟨c1, e⟩ | ⟨c1, c2, e⟩ | ⟨c1, c2, e⟩
      · have e3 : doS (kl fs rs fuse fault size) [⟨1, nameB (1 + rs.length), ⟨#[]⟩, 0⟩] = (⟨⟨fs, false, fuse, -1⟩, size, 1, ((1 + rs.length : Nat) : Int), true⟩, 18) := by
          unfold doS; rw [e]; rfl
        rw [e3, if_neg (by first | decide | (simp only [rmS]; decide))]
        exact ⟨hk.R, nfu, by show Num (-1); unfold Num; omega, rfl, rfl, hn0, hn1, .inl ⟨by show (18 : Int) ≠ 0; decide, hk⟩, (fun h => by cases h), (fun h => by cases h), (fun h => by omega), fun _ h1 h2 => by simp only at c1; omega⟩
      · have e3 : doS (kl fs rs fuse fault size) [⟨1, nameB (1 + rs.length), ⟨#[]⟩, 0⟩] = (⟨⟨fs, true, 0, dec fault⟩, size, 1, ((1 + rs.length : Nat) : Int), true⟩, 17) := by
          have hh : half fs ⟨1, nameB (1 + rs.length), ⟨#[]⟩, 0⟩ = fs := by unfold half; exact if_neg (c := (1 : Int) = 2) (by decide)
          simp only [hh] at e
          unfold doS; rw [e]; rfl
        rw [e3, if_neg (by first | decide | (simp only [rmS]; decide))]
        exact ⟨hk.R, by show Num 0; unfold Num; omega, num_dec nfa, rfl, rfl, hn0, hn1, .inl ⟨by show (17 : Int) ≠ 0; decide, hk⟩, (fun h => by cases h), (fun h => by cases h), (fun h => by omega), fun _ h1 h2 => by simp only at c2; omega⟩
      · simp only [k2] at e
        have e3 : doS (kl fs rs fuse fault size) [⟨1, nameB (1 + rs.length), ⟨#[]⟩, 0⟩] = (kl (fs ++ [⟨nameB (1 + rs.length), ⟨#[]⟩, 0⟩]) rs (dec fuse) (dec fault) size, 0) := by
          unfold doS; rw [e, if_pos rfl]; unfold doS; rfl
        rw [e3, if_pos rfl]
        obtain ⟨fs0, g1, g2⟩ := last_at k4.lg k5
        refine add2_kk k4 k5 g1 g2 (by omega) ?_ (num_dec nfu) (num_dec nfa) (fun a b => ?_)
        · show (⟨#[]⟩ : ByteArray).size + (16 + d.size) ≤ 262144
          have : (⟨#[]⟩ : ByteArray).size = 0 := rfl
          omega
        · subst a b; exact ⟨rfl, rfl⟩
end Go.Proofs.YtkhmdofeonlnpaaGreatDoor

/- QUEUE, MATHEMATICS: segment's appends and crashes at any first number. -/
namespace Go.Proofs.YtkhmdofeonlnpaaGreatDoor
open Go.RowKit
set_option maxRecDepth 100000
set_option linter.unusedVariables false
set_option linter.unusedSimpArgs false

theorem open_kkr {fs : List F} {fr : Nat} {rs : List Rec} {size : Int} (h : KK fs fr rs) (hs : 1 ≤ size ∧ size ≤ 262144) : openM ⟨fs, false, -1, -1⟩ size = (⟨⟨fs, false, -1, -1⟩, size, (fr : Int), ((fr + rs.length : Nat) : Int), false⟩, rs, 0) := by
  have h1 := (open_free h.R hs).1
  have h2 : mended fs = fs := by unfold mended; rw [kk_mend h]; rfl
  rw [h2, kk_rdF h, h.fm] at h1
  exact h1
/-- the log that goes on -/
abbrev klr (fs : List F) (fr : Nat) (rs : List Rec) (fuse fault size : Int) : L := ⟨⟨fs, false, fuse, fault⟩, size, (fr : Int), ((fr + rs.length : Nat) : Int), false⟩
/-- what an append leaves, for a crash -/
def AftR (fs : List F) (fr : Nat) (rs : List Rec) (d : ByteArray) (gs : List F) (c : Int) : Prop :=
  (c ≠ 0 ∧ KK gs fr rs) ∨
  (∃ (fs1 : List F) (fs0 : List F) (l0 : List SF) (s : SF) (syn : Nat), KK fs1 fr rs ∧ filesM fs1 = l0 ++ [s] ∧ fs1 = fs0 ++ [s.f] ∧ filesM fs0 = l0 ∧ d.size ≤ 65536 ∧ fr + rs.length < 4611686018427387904 ∧ s.f.data.size + (16 + d.size) ≤ 262144 ∧
    gs = fs0 ++ [⟨s.f.name, s.f.data ++ frameB (fr + rs.length) d, (syn : Int)⟩] ∧ ((c ≠ 0 ∧ syn = s.f.data.size) ∨ (c = 0 ∧ syn = s.f.data.size + (16 + d.size))))
/-- what an append comes to -/
structure AppR (fs : List F) (fr : Nat) (rs : List Rec) (fuse fault size : Int) (d : ByteArray) (r : L × Int) : Prop where
  R : Right r.1.d.files
  nf : Num r.1.d.fuse
  na : Num r.1.d.fault
  sz : r.1.size = size
  frr : r.1.fr = (fr : Int)
  n0 : 0 ≤ r.1.nx
  n1 : r.1.nx ≤ 4611686018427387904
  aft : AftR fs fr rs d r.1.d.files r.2
  ok : r.2 = 0 → ∃ h1 h2, KK r.1.d.files fr (rs ++ [⟨fr + rs.length, d, h1, h2⟩]) ∧ r.1 = ⟨⟨r.1.d.files, false, r.1.d.fuse, r.1.d.fault⟩, size, (fr : Int), ((fr + (rs.length + 1) : Nat) : Int), false⟩
  free : r.2 = 0 → fuse = -1 → fault = -1 → r.1.d.fuse = -1 ∧ r.1.d.fault = -1
  long : 65536 < d.size → r.2 = 4
  len : r.1.d.files.length ≤ fs.length + 1
  full : d.size ≤ 65536 → fuse = -1 → fault = -1 → r.2 = 0 ∨ (r.2 = 8 ∧ fs.length = 64)
theorem add2_kkr {fs1 fs : List F} {fr : Nat} {rs : List Rec} {fu fa fuse fault size : Int} {d : ByteArray} (hB : fr + rs.length < 4611686018427387904) (hlen : fs1.length ≤ fs.length + 1) (hk : KK fs1 fr rs) {l0 : List SF} {s : SF} {fs0 : List F} (hl : filesM fs1 = l0 ++ [s]) (h0 : fs1 = fs0 ++ [s.f]) (hf0 : filesM fs0 = l0) (hd : d.size ≤ 65536)
    (hz : s.f.data.size + (16 + d.size) ≤ 262144) (nfu : Num fu) (nfa : Num fa) (hfree : fuse = -1 → fault = -1 → fu = -1 ∧ fa = -1) :
    AppR fs fr rs fuse fault size d (add2 (klr fs1 fr rs fu fa size) (frameB (fr + rs.length) d)) := by
  have hl1 : fs0.length + 1 ≤ fs.length + 1 := by rw [h0] at hlen; simpa using hlen
  have hlast : lastN2 fs1 = s.f.name := by
    unfold lastN2 lastM
    rw [hl, last_snoc]
  have hR0 : Right (fs0 ++ [s.f]) := by rw [← h0]; exact hk.R
  have hok := hk.R.ok s.f (by rw [h0]; simp)
  have hsy := hk.sy s.f (by rw [h0]; simp)
  have hfs := frameB_size (fr + rs.length) d
  have hsz : (s.f.data ++ frameB (fr + rs.length) d).size = s.f.data.size + (16 + d.size) := by rw [size_app, hfs]
  obtain ⟨a1, a2⟩ := eff_last2 hR0 (frameB (fr + rs.length) d) (by rw [hfs]; exact hz)
  have hR1 : Right (fs0 ++ [⟨s.f.name, s.f.data ++ frameB (fr + rs.length) d, s.f.syn⟩]) := by rw [← a2]; exact right_eff hR0 ⟨by first | decide | (simp only [rmS]; decide), by first | decide | (simp only [rmS]; decide)⟩ a1
  obtain ⟨b1, b2⟩ := eff_last3 (f := ⟨s.f.name, s.f.data ++ frameB (fr + rs.length) d, s.f.syn⟩) hR1 ⟨#[]⟩
  have hR2 : Right (fs0 ++ [⟨s.f.name, s.f.data ++ frameB (fr + rs.length) d, ((s.f.data ++ frameB (fr + rs.length) d).size : Int)⟩]) := by rw [← b2]; exact right_eff hR1 ⟨by first | decide | (simp only [rmS]; decide), by first | decide | (simp only [rmS]; decide)⟩ b1
  simp only at b1 b2
  have hAft1 : ∀ c : Int, c ≠ 0 → AftR fs fr rs d (fs0 ++ [⟨s.f.name, s.f.data ++ frameB (fr + rs.length) d, s.f.syn⟩]) c := fun c hc =>
    .inr ⟨fs1, fs0, l0, s, s.f.data.size, hk, hl, h0, hf0, hd, by omega, hz, by rw [hsy], .inl ⟨hc, rfl⟩⟩
  have hn1 : ((fr + rs.length : Nat) : Int) ≤ 4611686018427387904 := by omega
  have hlast' : lastN2 (fs0 ++ [s.f]) = s.f.name := by rw [← h0]; exact hlast
  unfold add2
  simp only [h0, hlast']
  rcases doo3 (d := ⟨fs0 ++ [s.f], false, fu, fa⟩) (m := ⟨2, s.f.name, frameB (fr + rs.length) d, 0⟩) hR0 rfl ⟨by first | decide | (simp only [rmS]; decide), by first | decide | (simp only [rmS]; decide)⟩ a1 with ⟨c1, e⟩ | ⟨c1, c2, e⟩ | ⟨c1, c2, e⟩
  · have e3 : doS (klr (fs0 ++ [s.f]) fr rs fu fa size) [⟨2, s.f.name, frameB (fr + rs.length) d, 0⟩, ⟨3, s.f.name, ⟨#[]⟩, 0⟩] = (⟨⟨fs0 ++ [s.f], false, fu, -1⟩, size, (fr : Int), ((fr + rs.length : Nat) : Int), true⟩, 18) := by
      unfold doS; rw [e]; rfl
    rw [e3, if_neg (by first | decide | (simp only [rmS]; decide))]
    exact ⟨hR0, nfu, by show Num (-1); unfold Num; omega, rfl, rfl, by show (0 : Int) ≤ ((fr + rs.length : Nat) : Int); omega, hn1, .inl ⟨by show (18 : Int) ≠ 0; decide, by show KK (fs0 ++ [s.f]) fr rs; rw [← h0]; exact hk⟩, (fun h => by cases h), (fun h => by cases h), (fun h => by omega), (by first | (simp only [List.length_append, List.length_singleton]; done) | (simp only [List.length_append, List.length_singleton]; omega) | omega), fun _ h1 h2 => by have := (hfree h1 h2).2; simp only at c1; omega⟩
  · have e3 : doS (klr (fs0 ++ [s.f]) fr rs fu fa size) [⟨2, s.f.name, frameB (fr + rs.length) d, 0⟩, ⟨3, s.f.name, ⟨#[]⟩, 0⟩] = (⟨⟨fs0 ++ [⟨s.f.name, s.f.data ++ frameB (fr + rs.length) d, s.f.syn⟩], true, 0, dec fa⟩, size, (fr : Int), ((fr + rs.length : Nat) : Int), true⟩, 17) := by
      have hh : half (fs0 ++ [s.f]) ⟨2, s.f.name, frameB (fr + rs.length) d, 0⟩ = fs0 ++ [⟨s.f.name, s.f.data ++ frameB (fr + rs.length) d, s.f.syn⟩] := by unfold half; rw [if_pos rfl]; exact a2
      simp only [hh] at e
      unfold doS; rw [e]; rfl
    rw [e3, if_neg (by first | decide | (simp only [rmS]; decide))]
    exact ⟨hR1, by show Num 0; unfold Num; omega, num_dec nfa, rfl, rfl, by show (0 : Int) ≤ ((fr + rs.length : Nat) : Int); omega, hn1, hAft1 17 (by first | decide | (simp only [rmS]; decide)), (fun h => by cases h), (fun h => by cases h), (fun h => by omega), (by first | (simp only [List.length_append, List.length_singleton]; done) | (simp only [List.length_append, List.length_singleton]; omega) | omega), fun _ h1 h2 => by have := (hfree h1 h2).1; simp only at c2; omega⟩
  · simp only [a2] at e
    rcases doo3 (d := ⟨fs0 ++ [⟨s.f.name, s.f.data ++ frameB (fr + rs.length) d, s.f.syn⟩], false, dec fu, dec fa⟩) (m := ⟨3, s.f.name, ⟨#[]⟩, 0⟩) hR1 rfl ⟨by first | decide | (simp only [rmS]; decide), by first | decide | (simp only [rmS]; decide)⟩ b1 with ⟨g1, e2⟩ | ⟨g1, g2, e2⟩ | ⟨g1, g2, e2⟩
    · have e3 : doS (klr (fs0 ++ [s.f]) fr rs fu fa size) [⟨2, s.f.name, frameB (fr + rs.length) d, 0⟩, ⟨3, s.f.name, ⟨#[]⟩, 0⟩] = (⟨⟨fs0 ++ [⟨s.f.name, s.f.data ++ frameB (fr + rs.length) d, s.f.syn⟩], false, dec fu, -1⟩, size, (fr : Int), ((fr + rs.length : Nat) : Int), true⟩, 18) := by
        unfold doS; rw [e, if_pos rfl]; unfold doS; rw [e2]; rfl
      rw [e3, if_neg (by first | decide | (simp only [rmS]; decide))]
      exact ⟨hR1, num_dec nfu, by show Num (-1); unfold Num; omega, rfl, rfl, by show (0 : Int) ≤ ((fr + rs.length : Nat) : Int); omega, hn1, hAft1 18 (by first | decide | (simp only [rmS]; decide)), (fun h => by cases h), (fun h => by cases h), (fun h => by omega), (by first | (simp only [List.length_append, List.length_singleton]; done) | (simp only [List.length_append, List.length_singleton]; omega) | omega), fun _ h1 h2 => by
        have h3 := (hfree h1 h2).2
        simp only [h3] at g1
        exact absurd g1 (by first | decide | (simp only [rmS]; decide))⟩
    · have e3 : doS (klr (fs0 ++ [s.f]) fr rs fu fa size) [⟨2, s.f.name, frameB (fr + rs.length) d, 0⟩, ⟨3, s.f.name, ⟨#[]⟩, 0⟩] = (⟨⟨fs0 ++ [⟨s.f.name, s.f.data ++ frameB (fr + rs.length) d, s.f.syn⟩], true, 0, dec (dec fa)⟩, size, (fr : Int), ((fr + rs.length : Nat) : Int), true⟩, 17) := by
        have hh : half (fs0 ++ [⟨s.f.name, s.f.data ++ frameB (fr + rs.length) d, s.f.syn⟩]) ⟨3, s.f.name, ⟨#[]⟩, 0⟩ = fs0 ++ [⟨s.f.name, s.f.data ++ frameB (fr + rs.length) d, s.f.syn⟩] := by unfold half; exact if_neg (c := (3 : Int) = 2) (by decide)
        simp only [hh] at e2
        unfold doS; rw [e, if_pos rfl]; unfold doS; rw [e2]; rfl
      rw [e3, if_neg (by first | decide | (simp only [rmS]; decide))]
      exact ⟨hR1, by show Num 0; unfold Num; omega, num_dec (num_dec nfa), rfl, rfl, by show (0 : Int) ≤ ((fr + rs.length : Nat) : Int); omega, hn1, hAft1 17 (by first | decide | (simp only [rmS]; decide)), (fun h => by cases h), (fun h => by cases h), (fun h => by omega), (by first | (simp only [List.length_append, List.length_singleton]; done) | (simp only [List.length_append, List.length_singleton]; omega) | omega), fun _ h1 h2 => by
        have h3 := (hfree h1 h2).1
        simp only [h3] at g2
        exact absurd g2 (by first | decide | (simp only [rmS]; decide))⟩
    · simp only [b2] at e2
      have e3 : doS (klr (fs0 ++ [s.f]) fr rs fu fa size) [⟨2, s.f.name, frameB (fr + rs.length) d, 0⟩, ⟨3, s.f.name, ⟨#[]⟩, 0⟩] = (⟨⟨fs0 ++ [⟨s.f.name, s.f.data ++ frameB (fr + rs.length) d, ((s.f.data ++ frameB (fr + rs.length) d).size : Int)⟩], false, dec (dec fu), dec (dec fa)⟩, size, (fr : Int), ((fr + rs.length : Nat) : Int), false⟩, 0) := by
        unfold doS; rw [e, if_pos rfl]; unfold doS; rw [e2, if_pos rfl]; unfold doS; rfl
      rw [e3, if_pos (by rfl)]
      have hK : KK (fs0 ++ [⟨s.f.name, s.f.data ++ frameB (fr + rs.length) d, ((s.f.data ++ frameB (fr + rs.length) d).size : Int)⟩]) fr (rs ++ [⟨fr + rs.length, d, by omega, hd⟩]) := by
        obtain ⟨_, _, t3⟩ := kk_torn hk hl h0 hf0 d hd (by omega) hz (16 + d.size) (Nat.le_refl _) _ rfl
        rcases t3 with ⟨_, t⟩ | ⟨t, _⟩ | ⟨t, _, _⟩
        · rw [frame_whole] at t
          rw [hsz]
          exact t
        · omega
        · exfalso
          have hm : s ∈ filesM fs1 := by rw [hl]; simp
          have hfm := files_last hf0 (filesM_mem hm).2.2 (f' := ⟨s.f.name, s.f.data ++ (frameB (fr + rs.length) d).extract 0 (16 + d.size), ((s.f.data.size + (16 + d.size) : Nat) : Int)⟩) rfl
          have hmore := kk_more hk hl ((frameB (fr + rs.length) d).extract 0 (16 + d.size)) ⟨s.f.name, s.f.data ++ (frameB (fr + rs.length) d).extract 0 (16 + d.size), ((s.f.data.size + (16 + d.size) : Nat) : Int)⟩ rfl rfl
          obtain ⟨_, hfr, _⟩ := kk_torn hk hl h0 hf0 d hd (by omega) hz (16 + d.size) (Nat.le_refl _) _ rfl
          unfold rdF at t
          rw [hfr, hfm, hmore, frame_whole, frames_frame (by omega) hd, hfs, if_neg (by simp [sumL])] at t
          simp at t
      refine ⟨hR2, num_dec (num_dec nfu), num_dec (num_dec nfa), rfl, rfl, ?_, ?_, ?_, fun _ => ⟨by omega, hd, hK, ?_⟩, fun _ h1 h2 => ?_, (fun h => by omega), (by first | (simp only [List.length_append, List.length_singleton]; done) | (simp only [List.length_append, List.length_singleton]; omega) | omega), fun _ _ _ => .inl rfl⟩
      · show (0 : Int) ≤ ((fr + rs.length : Nat) : Int) + 1
        omega
      · show ((fr + rs.length : Nat) : Int) + 1 ≤ 4611686018427387904
        omega
      · exact .inr ⟨fs1, fs0, l0, s, s.f.data.size + (16 + d.size), hk, hl, h0, hf0, hd, by omega, hz, by rw [← hsz], .inr ⟨rfl, rfl⟩⟩
      · simp only [L.mk.injEq, true_and, and_true]
        omega
      · obtain ⟨q1, q2⟩ := hfree h1 h2
        subst q1 q2
        exact ⟨rfl, rfl⟩
theorem app_kkr {fs : List F} {fr : Nat} {rs : List Rec} {fuse fault size : Int} {d : ByteArray} (hB : fr + rs.length < 4611686018427387904) (hk : KK fs fr rs) (hs : 1 ≤ size ∧ size ≤ 262144) (nfu : Num fuse) (nfa : Num fault) : AppR fs fr rs fuse fault size d (appM (klr fs fr rs fuse fault size) d) := by
  have hn0 : (0 : Int) ≤ ((fr + rs.length : Nat) : Int) := by omega
  have hn1 : ((fr + rs.length : Nat) : Int) ≤ 4611686018427387904 := by omega
  unfold appM
  by_cases hd : 65536 < d.size
  · rw [if_pos hd]
    exact ⟨hk.R, nfu, nfa, rfl, rfl, hn0, hn1, .inl ⟨by show (4 : Int) ≠ 0; decide, hk⟩, (fun h => by cases h), (fun h => by cases h), (fun _ => rfl), (by first | (simp only [List.length_append, List.length_singleton]; done) | (simp only [List.length_append, List.length_singleton]; omega) | omega), fun h => by omega⟩
  rw [if_neg hd, if_neg (by show ¬ ((fr + rs.length : Nat) : Int) = 4611686018427387904; omega)]
  have hfb : frB (klr fs fr rs fuse fault size) d = frameB (fr + rs.length) d := by
    unfold frB frameB
    rw [show (klr fs fr rs fuse fault size).nx.toNat = fr + rs.length from Int.toNat_natCast _]
  have hfs := frameB_size (fr + rs.length) d
  unfold addM
  rw [hfb]
  by_cases hroom : roomM fs size ((16 + d.size : Nat) : Int) = true
  · have h1 : add1 (klr fs fr rs fuse fault size) d = (klr fs fr rs fuse fault size, 0) := by
      unfold add1
      rw [hfb, hfs, if_pos hroom]
    rw [h1, if_pos rfl]
    unfold roomM at hroom
    cases hl : lastM fs with
    | none => rw [hl] at hroom; cases hroom
    | some s =>
      rw [hl] at hroom
      simp only [Bool.and_eq_true, decide_eq_true_eq] at hroom
      rcases List.eq_nil_or_concat (filesM fs) with e | ⟨l0, s', e⟩
      · unfold lastM at hl; rw [e] at hl; cases hl
      · rw [List.concat_eq_append] at e
        have hss : s' = s := by
          unfold lastM at hl
          rw [e, last_snoc] at hl
          injection hl
        subst hss
        obtain ⟨fs0, g1, g2⟩ := last_at hk.lg e
        exact add2_kkr hB (by omega) hk e g1 g2 (by omega) (by omega) nfu nfa (fun a b => ⟨a, b⟩)
  · have h1 : add1 (klr fs fr rs fuse fault size) d = doS (klr fs fr rs fuse fault size) [⟨1, nameB (fr + rs.length), ⟨#[]⟩, 0⟩] := by
      unfold add1
      rw [hfb, hfs, if_neg hroom]
      rw [show (klr fs fr rs fuse fault size).nx.toNat = fr + rs.length from Int.toNat_natCast _]
    have hne : ∀ l0 s, filesM fs = l0 ++ [s] → s.f.data.size ≠ 0 := fun l0 s e h0 => by
      apply hroom
      unfold roomM lastM
      rw [e, last_snoc]
      simp only [h0, Bool.and_eq_true, decide_eq_true_eq]
      omega
    obtain ⟨k1, k2, k3⟩ := kk_new hk (by omega) hne 0 ⟨#[]⟩
    rw [h1]
    by_cases h64 : fs.length = 64
    · rw [if_pos h64] at k1
      have e3 : doS (klr fs fr rs fuse fault size) [⟨1, nameB (fr + rs.length), ⟨#[]⟩, 0⟩] = (⟨⟨fs, false, fuse, fault⟩, size, (fr : Int), ((fr + rs.length : Nat) : Int), true⟩, 8) := by
        have e : doo ⟨fs, false, fuse, fault⟩ ⟨1, nameB (fr + rs.length), ⟨#[]⟩, 0⟩ = (⟨fs, false, fuse, fault⟩, 8) := by
          rw [doo_right hk.R ⟨by first | decide | (simp only [rmS]; decide), by first | decide | (simp only [rmS]; decide)⟩]
          unfold run
          rw [if_neg (by first | decide | (simp only [rmS]; decide))]
          simp only [k1]
          rfl
        unfold doS; rw [e]; rfl
      rw [e3, if_neg (by first | decide | (simp only [rmS]; decide))]
      exact ⟨hk.R, nfu, nfa, rfl, rfl, hn0, hn1, .inl ⟨by show (8 : Int) ≠ 0; decide, hk⟩, (fun h => by cases h), (fun h => by cases h), (fun h => by omega), (by first | (simp only [List.length_append, List.length_singleton]; done) | (simp only [List.length_append, List.length_singleton]; omega) | omega), fun _ _ _ => .inr ⟨rfl, h64⟩⟩
    · rw [if_neg h64] at k1
      obtain ⟨k4, k5⟩ := k3 h64
      rcases doo3 (d := ⟨fs, false, fuse, fault⟩) (m := ⟨1, nameB (fr + rs.length), ⟨#[]⟩, 0⟩) hk.R rfl ⟨by first | decide | (simp only [rmS]; decide), by first | decide | (simp only [rmS]; decide)⟩ k1 with ⟨c1, e⟩ | ⟨c1, c2, e⟩ | ⟨c1, c2, e⟩
      · have e3 : doS (klr fs fr rs fuse fault size) [⟨1, nameB (fr + rs.length), ⟨#[]⟩, 0⟩] = (⟨⟨fs, false, fuse, -1⟩, size, (fr : Int), ((fr + rs.length : Nat) : Int), true⟩, 18) := by
          unfold doS; rw [e]; rfl
        rw [e3, if_neg (by first | decide | (simp only [rmS]; decide))]
        exact ⟨hk.R, nfu, by show Num (-1); unfold Num; omega, rfl, rfl, hn0, hn1, .inl ⟨by show (18 : Int) ≠ 0; decide, hk⟩, (fun h => by cases h), (fun h => by cases h), (fun h => by omega), (by first | (simp only [List.length_append, List.length_singleton]; done) | (simp only [List.length_append, List.length_singleton]; omega) | omega), fun _ h1 h2 => by simp only at c1; omega⟩
      · have e3 : doS (klr fs fr rs fuse fault size) [⟨1, nameB (fr + rs.length), ⟨#[]⟩, 0⟩] = (⟨⟨fs, true, 0, dec fault⟩, size, (fr : Int), ((fr + rs.length : Nat) : Int), true⟩, 17) := by
          have hh : half fs ⟨1, nameB (fr + rs.length), ⟨#[]⟩, 0⟩ = fs := by unfold half; exact if_neg (c := (1 : Int) = 2) (by decide)
          simp only [hh] at e
          unfold doS; rw [e]; rfl
        rw [e3, if_neg (by first | decide | (simp only [rmS]; decide))]
        exact ⟨hk.R, by show Num 0; unfold Num; omega, num_dec nfa, rfl, rfl, hn0, hn1, .inl ⟨by show (17 : Int) ≠ 0; decide, hk⟩, (fun h => by cases h), (fun h => by cases h), (fun h => by omega), (by first | (simp only [List.length_append, List.length_singleton]; done) | (simp only [List.length_append, List.length_singleton]; omega) | omega), fun _ h1 h2 => by simp only at c2; omega⟩
      · simp only [k2] at e
        have e3 : doS (klr fs fr rs fuse fault size) [⟨1, nameB (fr + rs.length), ⟨#[]⟩, 0⟩] = (klr (fs ++ [⟨nameB (fr + rs.length), ⟨#[]⟩, 0⟩]) fr rs (dec fuse) (dec fault) size, 0) := by
          unfold doS; rw [e, if_pos rfl]; unfold doS; rfl
        rw [e3, if_pos rfl]
        obtain ⟨fs0, g1, g2⟩ := last_at k4.lg k5
        refine add2_kkr hB (by simp) k4 k5 g1 g2 (by omega) ?_ (num_dec nfu) (num_dec nfa) (fun a b => ?_)
        · show (⟨#[]⟩ : ByteArray).size + (16 + d.size) ≤ 262144
          have : (⟨#[]⟩ : ByteArray).size = 0 := rfl
          omega
        · subst a b; exact ⟨rfl, rfl⟩
end Go.Proofs.YtkhmdofeonlnpaaGreatDoor

/- QUEUE, MATHEMATICS: what records are entries of; what a queue is. -/
namespace Go.Proofs.YtkhmdofeonlnpaaGreatDoor
open Go.RowKit
set_option maxRecDepth 100000
set_option linter.unusedVariables false
set_option linter.unusedSimpArgs false

/-- a text without its first byte -/
def tlB (d : ByteArray) : ByteArray := d.extract 1 d.size
theorem bs_tl (d : ByteArray) : bs (tlB d) = (bs d).drop 1 := by
  unfold tlB
  rw [bs_ext, List.take_of_length_le (by rw [bs_len]; exact Nat.le_refl _)]
theorem tl_size (d : ByteArray) : (tlB d).size = d.size - 1 := by rw [← bs_len, bs_tl, List.length_drop, bs_len]
/-- the bytes of an ack's record, of a put's -/
def ackB (n : Nat) : ByteArray := ⟨(65 :: M.le 8 n).toArray⟩
def putB (d : ByteArray) : ByteArray := ⟨#[80]⟩ ++ d
theorem bs_ack (n : Nat) : bs (ackB n) = 65 :: M.le 8 n := bs_mk _
theorem bs_put (d : ByteArray) : bs (putB d) = 80 :: bs d := by unfold putB; rw [bs_app]; rfl
theorem ack_size (n : Nat) : (ackB n).size = 9 := by rw [← bs_len, bs_ack, List.length_cons, M.le_len]
theorem put_size (d : ByteArray) : (putB d).size = d.size + 1 := by rw [← bs_len, bs_put, List.length_cons, bs_len]
/-- the number that a record acks, what it puts -/
def ackOf (d : ByteArray) : Option Nat := if (bs d).head? = some 65 ∧ d.size = 9 then some (M.unle (bs (tlB d))) else none
def putOf (d : ByteArray) : Option ByteArray := if (bs d).head? = some 80 then some (tlB d) else none
theorem ackOf_ack {n : Nat} (h : n < 18446744073709551616) : ackOf (ackB n) = some n := by
  unfold ackOf
  rw [if_pos ⟨by rw [bs_ack]; rfl, ack_size n⟩, bs_tl, bs_ack]
  show some (M.unle (M.le 8 n)) = some n
  rw [M.unle_le 8 n (by simpa using h)]
theorem ackOf_put (d : ByteArray) : ackOf (putB d) = none := by
  unfold ackOf
  rw [if_neg (fun h => by rw [bs_put] at h; simp at h)]
theorem putOf_put (d : ByteArray) : putOf (putB d) = some d := by
  unfold putOf
  rw [if_pos (by rw [bs_put]; rfl)]
  congr 1
  apply bs_inj
  rw [bs_tl, bs_put]; rfl
theorem putOf_ack (n : Nat) : putOf (ackB n) = none := by
  unfold putOf
  rw [if_neg (fun h => by rw [bs_ack] at h; simp at h)]
theorem ackOf_lt {d : ByteArray} {n : Nat} (h : ackOf d = some n) : n < 18446744073709551616 := by
  unfold ackOf at h
  split at h
  · rename_i hc
    injection h with h
    subst h
    have h1 := M.unle_lt (bs (tlB d))
    rw [bs_len, tl_size, hc.2] at h1
    simpa using h1
  · cases h

/-- an entry -/
structure E where
  seq : Nat
  data : ByteArray
  leased : Bool
deriving DecidableEq
abbrev zE : E := ⟨0, ⟨#[]⟩, false⟩
def goneL (rs : List Rec) : List Nat := rs.filterMap fun r => ackOf r.data
def ent1 (r : Rec) : List E := match putOf r.data with
  | some d => [⟨r.seq, d, false⟩]
  | none => []
/-- the entries of records -/
def entM : List Rec → List E
  | [] => []
  | r :: t => (if r.seq ∈ goneL t then [] else ent1 r) ++ entM t
theorem goneL_app (a b : List Rec) : goneL (a ++ b) = goneL a ++ goneL b := by simp [goneL]
theorem ent1_mem {r : Rec} {e : E} (h : e ∈ ent1 r) : e.seq = r.seq ∧ e.leased = false ∧ putOf r.data = some e.data := by
  unfold ent1 at h
  cases hp : putOf r.data with
  | none => rw [hp] at h; cases h
  | some d => rw [hp] at h; simp only [List.mem_singleton] at h; subst h; exact ⟨rfl, rfl, rfl⟩
theorem ent1_len (r : Rec) : (ent1 r).length ≤ 1 := by
  unfold ent1
  cases putOf r.data <;> simp
theorem entM_app : ∀ (a b : List Rec), entM (a ++ b) = (entM a).filter (fun e => decide (e.seq ∉ goneL b)) ++ entM b
  | [], b => rfl
  | r :: t, b => by
    rw [List.cons_append, entM, entM, entM_app t b, goneL_app, List.filter_append, List.append_assoc]
    congr 1
    by_cases h1 : r.seq ∈ goneL t
    · rw [if_pos (List.mem_append_left _ h1), if_pos h1]; rfl
    · rw [if_neg h1]
      by_cases h2 : r.seq ∈ goneL b
      · rw [if_pos (List.mem_append_right _ h2)]
        refine (List.filter_eq_nil_iff.2 fun e he => ?_).symm
        rw [(ent1_mem he).1]
        simpa using h2
      · rw [if_neg (fun h => (List.mem_append.1 h).elim h1 h2)]
        refine (List.filter_eq_self.2 fun e he => ?_).symm
        rw [(ent1_mem he).1]
        simpa using h2
theorem entM_put (rs : List Rec) (n : Nat) (d : ByteArray) (h1 : n < 4611686018427387904) (h2 : (putB d).size ≤ 65536) : entM (rs ++ [⟨n, putB d, h1, h2⟩]) = entM rs ++ [⟨n, d, false⟩] := by
  have hg : goneL [⟨n, putB d, h1, h2⟩] = [] := by simp [goneL, ackOf_put]
  rw [entM_app, hg]
  congr 1
  · refine List.filter_eq_self.2 fun e he => by simp
  · simp [entM, ent1, putOf_put, goneL]
theorem entM_ack (rs : List Rec) (n s : Nat) (hs : s < 18446744073709551616) (h1 : n < 4611686018427387904) (h2 : (ackB s).size ≤ 65536) : entM (rs ++ [⟨n, ackB s, h1, h2⟩]) = (entM rs).filter (fun e => decide (e.seq ≠ s)) := by
  have hg : goneL [⟨n, ackB s, h1, h2⟩] = [s] := by simp [goneL, ackOf_ack hs]
  rw [entM_app, hg]
  have h3 : entM [⟨n, ackB s, h1, h2⟩] = [] := by simp [entM, ent1, putOf_ack, goneL]
  rw [h3, List.append_nil]
  congr 1
  funext e
  simp
theorem entM_mem : ∀ {rs : List Rec} {e : E}, e ∈ entM rs → ∃ r ∈ rs, e.seq = r.seq ∧ e.leased = false ∧ putOf r.data = some e.data
  | r :: t, e, h => by
    rw [entM] at h
    rcases List.mem_append.1 h with q | q
    · by_cases c : r.seq ∈ goneL t
      · rw [if_pos c] at q; cases q
      · rw [if_neg c] at q; exact ⟨r, List.mem_cons_self, ent1_mem q⟩
    · obtain ⟨r2, h1, h2⟩ := entM_mem q
      exact ⟨r2, List.mem_cons_of_mem _ h1, h2⟩
theorem entM_size {rs : List Rec} {e : E} (h : e ∈ entM rs) : e.data.size ≤ 65535 := by
  obtain ⟨r, _, _, _, h4⟩ := entM_mem h
  unfold putOf at h4
  split at h4
  · injection h4 with h4
    rw [← h4, tl_size]
    have := r.h2
    omega
  · cases h4
theorem entM_len : ∀ rs : List Rec, (entM rs).length ≤ rs.length
  | [] => Nat.le_refl _
  | r :: t => by
    have h1 := entM_len t
    have h2 := ent1_len r
    rw [entM, List.length_append, List.length_cons]
    split
    · simp; omega
    · omega
/-- records whose numbers are in a row -/
def Row (fr : Nat) (rs : List Rec) : Prop := ∀ (i : Nat) (r : Rec), rs[i]? = some r → r.seq = fr + i
theorem Row.tail {fr : Nat} {r : Rec} {t : List Rec} (h : Row fr (r :: t)) : r.seq = fr ∧ Row (fr + 1) t :=
  ⟨h 0 r rfl, fun i x hx => by have := h (i + 1) x (by simpa using hx); omega⟩
theorem kk_row {fs : List F} {fr : Nat} {rs : List Rec} (h : KK fs fr rs) : Row fr rs := fun i r hi => by
  have h1 := rdM_seq (filesM fs) fr i r
  rw [h.rd] at h1
  exact h1 hi
theorem Row.mem {fr : Nat} {rs : List Rec} (h : Row fr rs) {r : Rec} (hr : r ∈ rs) : fr ≤ r.seq ∧ r.seq < fr + rs.length := by
  obtain ⟨i, hi, e⟩ := List.mem_iff_getElem.1 hr
  have := h i r (by rw [List.getElem?_eq_getElem hi, e])
  omega
theorem ent_bd {fr : Nat} {rs : List Rec} (h : Row fr rs) {e : E} (he : e ∈ entM rs) : fr ≤ e.seq ∧ e.seq < fr + rs.length := by
  obtain ⟨r, hr, h2, _⟩ := entM_mem he
  rw [h2]; exact h.mem hr
theorem entM_drop {fr m : Nat} {rs : List Rec} (h : Row fr rs) (hm : ∀ e ∈ entM rs, fr + m ≤ e.seq) : entM (rs.drop m) = entM rs := by
  have h1 : rs = rs.take m ++ rs.drop m := (List.take_append_drop m rs).symm
  have h2 := entM_app (rs.take m) (rs.drop m)
  rw [← h1] at h2
  have h3 : (entM (rs.take m)).filter (fun e => decide (e.seq ∉ goneL (rs.drop m))) = [] := by
    refine List.eq_nil_iff_forall_not_mem.2 fun e he => ?_
    have h4 : e ∈ entM rs := by rw [h2]; exact List.mem_append_left _ he
    have h5 := hm e h4
    obtain ⟨r, hr, h6, _⟩ := entM_mem (List.mem_filter.1 he).1
    obtain ⟨i, hi, e1⟩ := List.mem_iff_getElem.1 hr
    rw [List.length_take] at hi
    rw [List.getElem_take] at e1
    have h7 := h i r (by rw [List.getElem?_eq_getElem (by omega), e1])
    omega
  rw [h3, List.nil_append] at h2
  exact h2.symm
/-- entries whose numbers rise, from a number on, ahead of another one -/
def inM (nx : Nat) : Nat → List E → Prop
  | _, [] => True
  | fr, e :: t => fr ≤ e.seq ∧ e.seq < nx ∧ e.data.size ≤ 65535 ∧ inM nx (e.seq + 1) t
theorem inM_ge {nx : Nat} : ∀ {es : List E} {fr : Nat} {x : E}, inM nx fr es → x ∈ es → fr ≤ x.seq
  | e :: t, fr, x, h, hx => by
    rcases List.mem_cons.1 hx with q | q
    · subst q; exact h.1
    · have := inM_ge h.2.2.2 q
      have := h.1
      omega
theorem inM_lt {nx : Nat} : ∀ {es : List E} {fr : Nat} {x : E}, inM nx fr es → x ∈ es → x.seq < nx ∧ x.data.size ≤ 65535
  | e :: t, fr, x, h, hx => by
    rcases List.mem_cons.1 hx with q | q
    · subst q; exact ⟨h.2.1, h.2.2.1⟩
    · exact inM_lt h.2.2.2 q
theorem inM_iff {nx : Nat} : ∀ {es : List E} {fr : Nat}, inM nx fr es ↔ (∀ e ∈ es, fr ≤ e.seq ∧ e.seq < nx ∧ e.data.size ≤ 65535) ∧ es.Pairwise (fun a b => a.seq < b.seq)
  | [], fr => ⟨fun _ => ⟨(fun _ h => by cases h), List.Pairwise.nil⟩, fun _ => trivial⟩
  | e :: t, fr => by
    rw [List.pairwise_cons]
    constructor
    · intro h
      obtain ⟨h1, h2, h3, h4⟩ := h
      obtain ⟨h5, h6⟩ := inM_iff.1 h4
      refine ⟨fun x hx => ?_, fun x hx => (h5 x hx).1, h6⟩
      rcases List.mem_cons.1 hx with q | q
      · subst q; exact ⟨h1, h2, h3⟩
      · obtain ⟨a, b, c⟩ := h5 x q
        exact ⟨by omega, b, c⟩
    · rintro ⟨h1, h2, h3⟩
      obtain ⟨a, b, c⟩ := h1 e List.mem_cons_self
      refine ⟨a, b, c, inM_iff.2 ⟨fun x hx => ?_, h3⟩⟩
      obtain ⟨d, f, g⟩ := h1 x (List.mem_cons_of_mem _ hx)
      have := h2 x hx
      exact ⟨by omega, f, g⟩
/-- the entries of records in a row are right -/
theorem ent_in : ∀ {rs : List Rec} {fr : Nat}, Row fr rs → inM (fr + rs.length) fr (entM rs)
  | [], fr, h => trivial
  | r :: t, fr, h => by
    obtain ⟨h1, h2⟩ := h.tail
    have ih := ent_in h2
    rw [entM]
    have e1 : fr + (r :: t).length = fr + 1 + t.length := by rw [List.length_cons]; omega
    rw [e1]
    refine inM_iff.2 ⟨fun e he => ?_, ?_⟩
    · have hm : e ∈ entM (r :: t) := by rw [entM]; exact he
      obtain ⟨a, b⟩ := ent_bd h hm
      exact ⟨a, by omega, entM_size hm⟩
    · rw [List.pairwise_append]
      refine ⟨?_, (inM_iff.1 ih).2, fun a ha b hb => ?_⟩
      · split
        · exact List.Pairwise.nil
        · unfold ent1
          split
          · exact List.pairwise_singleton _ _
          · exact List.Pairwise.nil
      · have hs : a.seq = fr := by
          split at ha
          · cases ha
          · rw [(ent1_mem ha).1, h1]
        have := (ent_bd h2 hb).1
        omega

/-- a queue -/
structure Q where
  l : L
  es : List E
  most : Int
def QRight (q : Q) : Prop := LRight q.l ∧ (1 ≤ q.most ∧ q.most ≤ 1024) ∧ q.es.length ≤ 1024 ∧ inM q.l.nx.toNat q.l.fr.toNat q.es
/-- where the first entry is that is free, that is leased and of a number -/
def freeAt (es : List E) : Option Nat := es.findIdx? fun e => !e.leased
def heldAt (es : List E) (s : Nat) : Option Nat := es.findIdx? fun e => e.leased && decide (e.seq = s)
def firstM2 (l : L) (es : List E) : Int := match es with
  | [] => l.nx
  | e :: _ => (e.seq : Int)
abbrev Ans : Type := Q × E × Int
open Classical in
noncomputable def putM (q : Q) (d : ByteArray) : Ans :=
  if q.most ≤ (q.es.length : Int) then (q, zE, 8) else if 65535 < d.size then (q, zE, 4)
  else if (appM q.l (putB d)).2 = 0 then (⟨(appM q.l (putB d)).1, q.es ++ [⟨q.l.nx.toNat, d, false⟩], q.most⟩, ⟨q.l.nx.toNat, ⟨#[]⟩, false⟩, 0)
  else (⟨(appM q.l (putB d)).1, q.es, q.most⟩, zE, (appM q.l (putB d)).2)
def leaseE (e : E) : E := { e with leased := true }
def freeE (e : E) : E := { e with leased := false }
def leaseM (q : Q) : Ans := match freeAt q.es with
  | none => (q, zE, 7)
  | some i => match q.es[i]? with
    | none => (q, zE, 7)
    | some e => (⟨q.l, q.es.set i (leaseE e), q.most⟩, leaseE e, 0)
def releaseM (q : Q) (s : Nat) : Ans := match heldAt q.es s with
  | none => (q, zE, 19)
  | some i => match q.es[i]? with
    | none => (q, zE, 19)
    | some e => (⟨q.l, q.es.set i (freeE e), q.most⟩, zE, 0)
open Classical in
/-- a drop from a log that was just appended to -/
noncomputable def drM (l : L) (s : Int) : L × Int := if LRight l then chM (fun l => cutM l s) l else (zl, 6)
open Classical in
noncomputable def ackM (q : Q) (s : Nat) : Ans := match heldAt q.es s with
  | none => (q, zE, 19)
  | some i =>
    if (appM q.l (ackB s)).2 = 0 then (⟨(drM (appM q.l (ackB s)).1 (firstM2 (appM q.l (ackB s)).1 (q.es.eraseIdx i))).1, q.es.eraseIdx i, q.most⟩, zE, (drM (appM q.l (ackB s)).1 (firstM2 (appM q.l (ackB s)).1 (q.es.eraseIdx i))).2)
    else (⟨(appM q.l (ackB s)).1, q.es, q.most⟩, zE, (appM q.l (ackB s)).2)
/-- what is done with a queue -/
inductive QS where
  | put (d : ByteArray)
  | lease
  | release (s : Nat)
  | ack (s : Nat)
  | none
noncomputable def stM (q : Q) : QS → Ans
  | .put d => putM q d
  | .lease => leaseM q
  | .release s => releaseM q s
  | .ack s => ackM q s
  | .none => (q, zE, 5)
noncomputable def chQ (q : Q) (s : QS) : Ans := if q.l.broken = true then (q, zE, 6) else stM q s
end Go.Proofs.YtkhmdofeonlnpaaGreatDoor

/- QUEUE: ENTRIES IN MEMORY. -/
namespace Go.Proofs.YtkhmdofeonlnpaaGreatDoor
open Go.RowKit
set_option maxRecDepth 100000
set_option linter.unusedVariables false
set_option linter.unusedSimpArgs false

/-- an entry's cells -/
def ec (f : E) : List Value := [.int .u64 (f.seq : Int), .string f.data, .bool f.leased]
theorem ec_one (fs : List E) : ∀ u ∈ fs.flatMap ec, u.oneCell' = true := by
  intro u hu
  obtain ⟨f, _, hu⟩ := List.mem_flatMap.1 hu
  simp only [ec, List.mem_cons, List.not_mem_nil, or_false] at hu
  rcases hu with rfl | rfl | rfl <;> rfl
theorem ec_len (fs : List E) : (fs.flatMap ec).length = fs.length * 3 := by
  induction fs with
  | nil => rfl
  | cons f fs ih => rw [List.flatMap_cons, List.length_append, ih]; simp [ec]; omega
theorem ec_at (fs : List E) : ∀ (i : Nat) (f : E), fs[i]? = some f → ∀ j, j < 3 → (fs.flatMap ec)[i * 3 + j]? = (ec f)[j]? := by
  induction fs with
  | nil => intro i f h; simp at h
  | cons x fs ih =>
    intro i f h j hj
    rw [List.flatMap_cons]
    cases i with
    | zero =>
      simp at h; subst h
      rw [List.getElem?_append_left (by simp [ec]; omega)]
      simp
    | succ i =>
      rw [List.getElem?_append_right (by simp [ec]; omega)]
      have e : (i + 1) * 3 + j - (ec x).length = i * 3 + j := by simp [ec]; omega
      rw [e]
      exact ih i f (by simpa using h) j hj

/-- entry i lies in block g behind off -/
structure Ae3 (w : World) (g off i : Nat) (f : E) : Prop where
  q0 : w.cell? ⟨g, off + i * 3, none⟩ = some (.int .u64 (f.seq : Int))
  q1 : w.cell? ⟨g, off + i * 3 + 1, none⟩ = some (.string f.data)
  q2 : w.cell? ⟨g, off + i * 3 + 2, none⟩ = some (.bool f.leased)

/-- at ad lie the entries fs -/
def Els (w : World) (B : Nat) (ad : Option Addr) (fs : List E) : Prop :=
  fs ≠ [] → ∃ g off, ad = some ⟨g, off, none⟩ ∧ g < B ∧ ∀ i f, fs[i]? = some f → Ae3 w g off i f
theorem Els.nil (w : World) (B : Nat) (ad : Option Addr) : Els w B ad [] := fun h => absurd rfl h
theorem Ae3.keep {w w' : World} {B g off i : Nat} {f : E} (h : Ae3 w g off i f) (hg : g < B) (hb : Below B w w') : Ae3 w' g off i f :=
  ⟨(hb.cell (p := ⟨g, _, none⟩) hg).trans h.q0, (hb.cell (p := ⟨g, _, none⟩) hg).trans h.q1, (hb.cell (p := ⟨g, _, none⟩) hg).trans h.q2⟩
theorem Els.keep {w w' : World} {B : Nat} {ad : Option Addr} {fs : List E} (h : Els w B ad fs) (hb : Below B w w') : Els w' B ad fs := by
  intro hne
  obtain ⟨g, off, e, hg, hi⟩ := h hne
  exact ⟨g, off, e, hg, fun i f hf => (hi i f hf).keep hg hb⟩
theorem Els.mono {w : World} {B B' : Nat} {ad : Option Addr} {fs : List E} (h : Els w B ad fs) (hb : B ≤ B') : Els w B' ad fs := fun hne => by
  obtain ⟨g, off, e, hg, hi⟩ := h hne
  exact ⟨g, off, e, Nat.lt_of_lt_of_le hg hb, hi⟩
theorem Els.cells {w : World} {B : Nat} {ad : Option Addr} {fs : List E} (h : Els w B ad fs) (hne : fs ≠ []) :
    ∃ g off, ad = some ⟨g, off, none⟩ ∧ g < B ∧ ∀ j u, (fs.flatMap ec)[j]? = some u → w.cell? ⟨g, off + j, none⟩ = some u := by
  obtain ⟨g, off, e, hg, hi⟩ := h hne
  refine ⟨g, off, e, hg, fun j u hu => ?_⟩
  have hj : j < fs.length * 3 := by rw [← ec_len]; exact (List.getElem?_eq_some_iff.1 hu).1
  obtain ⟨q, hq⟩ : ∃ q, fs[j / 3]? = some q := ⟨fs[j / 3]'(by omega), by simp⟩
  have hh := hi _ _ hq
  have e3 : j = j / 3 * 3 + j % 3 := by omega
  rw [e3, ec_at fs _ _ hq _ (by omega)] at hu
  have hm : j % 3 = 0 ∨ j % 3 = 1 ∨ j % 3 = 2 := by omega
  rcases hm with hm | hm | hm
  · rw [hm] at hu; simp [ec] at hu; subst hu; rw [e3, hm]; exact hh.q0
  · rw [hm] at hu; simp [ec] at hu; subst hu; rw [e3, hm]; exact hh.q1
  · rw [hm] at hu; simp [ec] at hu; subst hu; rw [e3, hm]; exact hh.q2
theorem Els.of_cells {w : World} {B g off : Nat} {fs : List E} (hg : g < B) (h : ∀ j u, (fs.flatMap ec)[j]? = some u → w.cell? ⟨g, off + j, none⟩ = some u) : Els w B (some ⟨g, off, none⟩) fs := by
  intro _
  refine ⟨g, off, rfl, hg, fun i f hf => ?_⟩
  have at_ : ∀ j u, j < 3 → (ec f)[j]? = some u → w.cell? ⟨g, off + i * 3 + j, none⟩ = some u := fun j u hj hu => by
    rw [Nat.add_assoc]
    exact h _ _ (by rw [ec_at fs i f hf j hj]; exact hu)
  exact ⟨at_ 0 _ (by omega) rfl, at_ 1 _ (by omega) rfl, at_ 2 _ (by omega) rfl⟩

/-- the slice v of the call's own has the entries fs -/
def ERow (w : World) (base : Nat) (v : Value) (fs : List E) : Prop := w.ownsRow base 39 3 v fs.length (fs.flatMap ec)
section
variable {w w' : World} {base : Nat} {v : Value} {fs : List E}
theorem ERow.alloc (h : ERow w base v fs) (o : Obj) : ERow (w.alloc o) base v fs := World.ownsRow.alloc h o
theorem ERow.lt (h : ERow w base v fs) : ∀ k, v.ownBlock = some k → base ≤ k ∧ k < w.heap.size := World.ownsRow.lt h
theorem ERow.kept {row : Option Nat} (h : ERow w base v fs) (hg : w.grownBy w' row) (hne : v.ownBlock = none ∨ v.ownBlock ≠ row) : ERow w' base v fs := World.ownsRow.kept h hg hne
theorem ERow.free (h : ERow w base v fs) : ∀ b, v.ownBlock = some b → Free w b := fun b e => by
  rcases h.2 with ⟨hv, _⟩ | ⟨g, cap, cur, hv, _, hg, _⟩
  · rw [hv] at e; simp [Value.ownBlock] at e
  · rw [hv] at e; simp [Value.ownBlock] at e; subst e; exact ⟨_, _, hg⟩
theorem ERow.fls (h : ERow w base v fs) : ∃ ad cap, v = .slice ad fs.length cap ∧ fs.length ≤ cap ∧ (ad = none → cap = 0) ∧ Els w w.heap.size ad fs := by
  rcases h.2 with ⟨hv, hn⟩ | ⟨g, cap, cur, hv, hbg, hg, hnc, hcm, hcs, htake⟩
  · have hx : fs = [] := List.eq_nil_of_length_eq_zero hn
    subst hx
    exact ⟨none, 0, hv, Nat.le_refl _, fun _ => rfl, fun h => absurd rfl h⟩
  · refine ⟨some ⟨g, 0, none⟩, cap, hv, hnc, (fun h => by cases h), Els.of_cells (Array.getElem?_eq_some_iff.1 hg).1 fun j u hu => ?_⟩
    have := World.ownsRow.cells h (g := g) (by rw [hv]; rfl) j u hu
    rwa [show (⟨g, 0, none⟩ : Addr).add j = ⟨g, 0 + j, none⟩ by unfold Addr.add; split <;> simp_all] at this
/-- the row, by its cells -/
def ERowAt (w : World) (base : Nat) (v : Value) (n : Nat) (xs : List Value) : Prop := w.ownsRow base 39 3 v n xs
/-- the row's block -/
theorem ERow.blk (h : ERow w base v fs) (hne : fs ≠ []) : ∃ g cap, v = .slice (some ⟨g, 0, none⟩) fs.length cap ∧ base ≤ g ∧ g < w.heap.size ∧ fs.length ≤ cap ∧ (∀ i f, fs[i]? = some f → Ae3 w g 0 i f) ∧ (∀ j, w.frozen? ⟨g, j, none⟩ = false) ∧
    (∀ j u, ERowAt (w.setCell ⟨g, j, none⟩ u) base v fs.length ((fs.flatMap ec).set j u) ∧ w.grownBy (w.setCell ⟨g, j, none⟩ u) (some g)) := by
  obtain ⟨ad, cap, hv, hc, _, hf⟩ := h.fls
  obtain ⟨g, off, rfl, hg, hi⟩ := hf hne
  rcases h.2 with ⟨hv', hn⟩ | ⟨g', cap', cur, hv', hbg, hg', hnc, hcm, hcs, htake⟩
  · rw [hv] at hv'; simp at hv'
  · rw [hv] at hv'
    simp only [Value.slice.injEq, Option.some.injEq, Addr.mk.injEq, and_true, true_and] at hv'
    obtain ⟨⟨rfl, rfl⟩, rfl⟩ := hv'
    subst hv
    exact ⟨g, cap, rfl, hbg, hg, hc, hi, fun j => World.ownsRow.frozenAt h j, fun j u => World.ownsRow.stored h j u⟩
end
/-- a slice of entries that came in -/
def EIn (w : World) (B : Nat) (ad : Option Addr) (n cap : Nat) (fs : List E) : Prop := n = fs.length ∧ n ≤ cap ∧ (ad = none → cap = 0) ∧ Els w B ad fs
theorem EIn.keep {w w' : World} {B : Nat} {ad : Option Addr} {n cap : Nat} {fs : List E} (h : EIn w B ad n cap fs) (hb : Below B w w') : EIn w' B ad n cap fs := ⟨h.1, h.2.1, h.2.2.1, h.2.2.2.keep hb⟩
theorem EIn.mono {w : World} {B B' : Nat} {ad : Option Addr} {n cap : Nat} {fs : List E} (h : EIn w B ad n cap fs) (hb : B ≤ B') : EIn w B' ad n cap fs := ⟨h.1, h.2.1, h.2.2.1, h.2.2.2.mono hb⟩
theorem esrc_cells {w w' : World} {B : Nat} {a : Addr} {fs : List E} (hf : Els w B (some a) fs) (hb : Below B w w') : ∀ j u, (fs.flatMap ec)[j]? = some u → w'.cell? (a.add j) = some u := by
  intro j u hu
  have hne : fs ≠ [] := by rintro rfl; simp at hu
  obtain ⟨g, off, e, hg, hc⟩ := hf.cells hne
  injection e with e
  subst e
  rw [Addr.add_lit]
  exact (hb.cell (p := ⟨g, off + j, none⟩) hg).trans (hc j u hu)
theorem ERow.form {w : World} {base : Nat} {v : Value} {fs : List E} (h : ERow w base v fs) : ∃ ad cap, v = .slice ad fs.length cap := by
  obtain ⟨ad, cap, h1, _⟩ := h.fls; exact ⟨ad, cap, h1⟩
theorem ERow.set_far {w : World} {base : Nat} {v : Value} {fs : List E} (h : ERow w base v fs) {g o : Nat} (u : Value) (hne : v.ownBlock ≠ some g) : ERow (w.setCell ⟨g, o, none⟩ u) base v fs :=
  h.kept (row := some g) ⟨rfl, rfl, rfl, by simp [World.setCell], fun k _ hk => Below.heap_setCell w _ u k (by intro e; exact hk (by rw [e]))⟩ (.inr hne)
theorem eflat_drop (fs : List E) (e : Nat) : (fs.drop e).flatMap ec = (fs.flatMap ec).drop (e * 3) := by
  induction fs generalizing e with
  | nil => simp
  | cons a t ih =>
    cases e with
    | zero => simp
    | succ e =>
      rw [List.drop_succ_cons, ih, List.flatMap_cons, List.drop_append]
      have h1 : (ec a).length = 3 := rfl
      have h2 : (ec a).drop ((e + 1) * 3) = [] := List.drop_of_length_le (by rw [h1]; omega)
      rw [h2, h1, List.nil_append, show (e + 1) * 3 - 3 = e * 3 by omega]
theorem eflat_take (fs : List E) (e : Nat) : (fs.take e).flatMap ec = (fs.flatMap ec).take (e * 3) := by
  induction fs generalizing e with
  | nil => simp
  | cons a t ih =>
    cases e with
    | zero => simp
    | succ e =>
      rw [List.take_succ_cons, List.flatMap_cons, ih, List.flatMap_cons, List.take_append]
      have h1 : (ec a).length = 3 := rfl
      have h2 : (ec a).take ((e + 1) * 3) = ec a := List.take_of_length_le (by rw [h1]; omega)
      rw [h2, h1, show (e + 1) * 3 - 3 = e * 3 by omega]
theorem EIn.of_row {w : World} {base : Nat} {v : Value} {fs : List E} (h : ERow w base v fs) : ∃ ad cap, v = .slice ad fs.length cap ∧ EIn w w.heap.size ad fs.length cap fs := by
  obtain ⟨ad, cap, hv, hc, hnil, hf⟩ := h.fls
  exact ⟨ad, cap, hv, rfl, hc, hnil, hf⟩
theorem ERow.of_own {w : World} {base n : Nat} {v : Value} {fs : List E} (h : w.ownsRow base 39 3 v n (fs.flatMap ec)) : ERow w base v fs := by
  have hl := h.1
  rw [ec_len] at hl
  have : n = fs.length := by omega
  subst this
  exact h
theorem EIn.nil (w : World) (B : Nat) : EIn w B none 0 0 [] := ⟨rfl, Nat.le_refl _, fun _ => rfl, Els.nil _ _ _⟩
theorem EIn.drew {w : World} {B : Nat} {ad : Option Addr} {n cap : Nat} {fs : List E} (h : EIn w B ad n cap fs) : EIn w.drew B ad n cap fs := h.keep ((Below.refl B w).drew)
theorem EIn.under {w w' : World} {ad : Option Addr} {n cap : Nat} {fs : List E} (h : EIn w w.heap.size ad n cap fs) (hb : Below w.heap.size w w') : EIn w' w'.heap.size ad n cap fs := (h.keep hb).mono hb.size
theorem EIn.set {w : World} {B : Nat} {ad : Option Addr} {n cap : Nat} {fs : List E} (h : EIn w B ad n cap fs) {q o : Nat} {u : Value} (hq : (Value.slice ad n cap).ownBlock ≠ some q) : EIn (w.setCell ⟨q, o, none⟩ u) B ad n cap fs := by
  refine ⟨h.1, h.2.1, h.2.2.1, fun hne => ?_⟩
  obtain ⟨gb, off, rfl, hgb, hc⟩ := h.2.2.2 hne
  have hne' : gb ≠ q := by intro e; subst e; exact hq rfl
  have hcell : ∀ j, (w.setCell ⟨q, o, none⟩ u).cell? ⟨gb, j, none⟩ = w.cell? ⟨gb, j, none⟩ := fun j => World.cell?_of_block (w := w) (Below.heap_setCell w ⟨q, o, none⟩ _ gb hne')
  exact ⟨gb, off, rfl, hgb, fun i f hf => ⟨(hcell _).trans (hc i f hf).q0, (hcell _).trans (hc i f hf).q1, (hcell _).trans (hc i f hf).q2⟩⟩

end Go.Proofs.YtkhmdofeonlnpaaGreatDoor

/- QUEUE: BOXES OF TEN CELLS; THE WALKS OVER isMost, areIn, Check. -/
namespace Go.Proofs.YtkhmdofeonlnpaaGreatDoor
open Go.RowKit
set_option maxRecDepth 100000
set_option linter.unusedVariables false
set_option linter.unusedSimpArgs false

abbrev qcells (v : Value) (down : Bool) (fuse fault size fr nx : Int) (broken : Bool) (u : Value) (most : Int) : Array Value := #[v, .bool down, .int .i64 fuse, .int .i64 fault, .int .i64 size, .int .u64 fr, .int .u64 nx, .bool broken, u, .int .i64 most]
abbrev Q.cells (q : Q) (v u : Value) : Array Value := qcells v q.l.d.down q.l.d.fuse q.l.d.fault q.l.size q.l.fr q.l.nx q.l.broken u q.most
abbrev zqueue : Array Value := qcells (.slice none 0 0) false 0 0 0 0 0 false (.slice none 0 0) 0
theorem box10 {w : World} {g : Nat} {x0 x1 x2 x3 x4 x5 x6 x7 x8 x9 : Value} {t : TypeId} (h : w.heap[g]? = some (.cells #[x0, x1, x2, x3, x4, x5, x6, x7, x8, x9] t (0, 0))) :
    w.cell? ⟨g, 0, none⟩ = some x0 ∧ w.cell? ⟨g, 1, none⟩ = some x1 ∧ w.cell? ⟨g, 2, none⟩ = some x2 ∧ w.cell? ⟨g, 3, none⟩ = some x3 ∧ w.cell? ⟨g, 4, none⟩ = some x4 ∧ w.cell? ⟨g, 5, none⟩ = some x5 ∧ w.cell? ⟨g, 6, none⟩ = some x6 ∧ w.cell? ⟨g, 7, none⟩ = some x7 ∧ w.cell? ⟨g, 8, none⟩ = some x8 ∧ w.cell? ⟨g, 9, none⟩ = some x9 :=
  ⟨cell_of_row w g 0 _ t (0, 0) h, cell_of_row w g 1 _ t (0, 0) h, cell_of_row w g 2 _ t (0, 0) h, cell_of_row w g 3 _ t (0, 0) h, cell_of_row w g 4 _ t (0, 0) h, cell_of_row w g 5 _ t (0, 0) h, cell_of_row w g 6 _ t (0, 0) h, cell_of_row w g 7 _ t (0, 0) h, cell_of_row w g 8 _ t (0, 0) h, cell_of_row w g 9 _ t (0, 0) h⟩
theorem frz10 {w : World} {g : Nat} {x0 x1 x2 x3 x4 x5 x6 x7 x8 x9 : Value} {t : TypeId} (h : w.heap[g]? = some (.cells #[x0, x1, x2, x3, x4, x5, x6, x7, x8, x9] t (0, 0))) :
    w.frozen? ⟨g, 0, none⟩ = false ∧ w.frozen? ⟨g, 1, none⟩ = false ∧ w.frozen? ⟨g, 2, none⟩ = false ∧ w.frozen? ⟨g, 3, none⟩ = false ∧ w.frozen? ⟨g, 4, none⟩ = false ∧ w.frozen? ⟨g, 5, none⟩ = false ∧ w.frozen? ⟨g, 6, none⟩ = false ∧ w.frozen? ⟨g, 7, none⟩ = false ∧ w.frozen? ⟨g, 8, none⟩ = false ∧ w.frozen? ⟨g, 9, none⟩ = false :=
  ⟨frozen_of_row w g 0 _ t h, frozen_of_row w g 1 _ t h, frozen_of_row w g 2 _ t h, frozen_of_row w g 3 _ t h, frozen_of_row w g 4 _ t h, frozen_of_row w g 5 _ t h, frozen_of_row w g 6 _ t h, frozen_of_row w g 7 _ t h, frozen_of_row w g 8 _ t h, frozen_of_row w g 9 _ t h⟩
abbrev put10 (w : World) (g : Nat) (v0 v1 v2 v3 v4 v5 v6 v7 v8 v9 : Value) : World := ((((((((((w.setCell ⟨g, 0, none⟩ v0).setCell ⟨g, 1, none⟩ v1).setCell ⟨g, 2, none⟩ v2).setCell ⟨g, 3, none⟩ v3).setCell ⟨g, 4, none⟩ v4).setCell ⟨g, 5, none⟩ v5).setCell ⟨g, 6, none⟩ v6).setCell ⟨g, 7, none⟩ v7).setCell ⟨g, 8, none⟩ v8).setCell ⟨g, 9, none⟩ v9)
theorem cell_put10 {w : World} {g : Nat} {x0 x1 x2 x3 x4 x5 x6 x7 x8 x9 : Value} {t : TypeId} (h : w.heap[g]? = some (.cells #[x0, x1, x2, x3, x4, x5, x6, x7, x8, x9] t (0, 0))) (v0 v1 v2 v3 v4 v5 v6 v7 v8 v9 : Value) :
    (put10 w g v0 v1 v2 v3 v4 v5 v6 v7 v8 v9).heap[g]? = some (.cells #[v0, v1, v2, v3, v4, v5, v6, v7, v8, v9] t (0, 0)) := by
  have h0 : (w.setCell ⟨g, 0, none⟩ v0).heap[g]? = some (.cells #[v0, x1, x2, x3, x4, x5, x6, x7, x8, x9] t (0, 0)) := heap_setCell_same _ g 0 _ t _ h
  have h1 : ((w.setCell ⟨g, 0, none⟩ v0).setCell ⟨g, 1, none⟩ v1).heap[g]? = some (.cells #[v0, v1, x2, x3, x4, x5, x6, x7, x8, x9] t (0, 0)) := heap_setCell_same _ g 1 _ t _ h0
  have h2 : (((w.setCell ⟨g, 0, none⟩ v0).setCell ⟨g, 1, none⟩ v1).setCell ⟨g, 2, none⟩ v2).heap[g]? = some (.cells #[v0, v1, v2, x3, x4, x5, x6, x7, x8, x9] t (0, 0)) := heap_setCell_same _ g 2 _ t _ h1
  have h3 : ((((w.setCell ⟨g, 0, none⟩ v0).setCell ⟨g, 1, none⟩ v1).setCell ⟨g, 2, none⟩ v2).setCell ⟨g, 3, none⟩ v3).heap[g]? = some (.cells #[v0, v1, v2, v3, x4, x5, x6, x7, x8, x9] t (0, 0)) := heap_setCell_same _ g 3 _ t _ h2
  have h4 : (((((w.setCell ⟨g, 0, none⟩ v0).setCell ⟨g, 1, none⟩ v1).setCell ⟨g, 2, none⟩ v2).setCell ⟨g, 3, none⟩ v3).setCell ⟨g, 4, none⟩ v4).heap[g]? = some (.cells #[v0, v1, v2, v3, v4, x5, x6, x7, x8, x9] t (0, 0)) := heap_setCell_same _ g 4 _ t _ h3
  have h5 : ((((((w.setCell ⟨g, 0, none⟩ v0).setCell ⟨g, 1, none⟩ v1).setCell ⟨g, 2, none⟩ v2).setCell ⟨g, 3, none⟩ v3).setCell ⟨g, 4, none⟩ v4).setCell ⟨g, 5, none⟩ v5).heap[g]? = some (.cells #[v0, v1, v2, v3, v4, v5, x6, x7, x8, x9] t (0, 0)) := heap_setCell_same _ g 5 _ t _ h4
  have h6 : (((((((w.setCell ⟨g, 0, none⟩ v0).setCell ⟨g, 1, none⟩ v1).setCell ⟨g, 2, none⟩ v2).setCell ⟨g, 3, none⟩ v3).setCell ⟨g, 4, none⟩ v4).setCell ⟨g, 5, none⟩ v5).setCell ⟨g, 6, none⟩ v6).heap[g]? = some (.cells #[v0, v1, v2, v3, v4, v5, v6, x7, x8, x9] t (0, 0)) := heap_setCell_same _ g 6 _ t _ h5
  have h7 : ((((((((w.setCell ⟨g, 0, none⟩ v0).setCell ⟨g, 1, none⟩ v1).setCell ⟨g, 2, none⟩ v2).setCell ⟨g, 3, none⟩ v3).setCell ⟨g, 4, none⟩ v4).setCell ⟨g, 5, none⟩ v5).setCell ⟨g, 6, none⟩ v6).setCell ⟨g, 7, none⟩ v7).heap[g]? = some (.cells #[v0, v1, v2, v3, v4, v5, v6, v7, x8, x9] t (0, 0)) := heap_setCell_same _ g 7 _ t _ h6
  have h8 : (((((((((w.setCell ⟨g, 0, none⟩ v0).setCell ⟨g, 1, none⟩ v1).setCell ⟨g, 2, none⟩ v2).setCell ⟨g, 3, none⟩ v3).setCell ⟨g, 4, none⟩ v4).setCell ⟨g, 5, none⟩ v5).setCell ⟨g, 6, none⟩ v6).setCell ⟨g, 7, none⟩ v7).setCell ⟨g, 8, none⟩ v8).heap[g]? = some (.cells #[v0, v1, v2, v3, v4, v5, v6, v7, v8, x9] t (0, 0)) := heap_setCell_same _ g 8 _ t _ h7
  have h9 : ((((((((((w.setCell ⟨g, 0, none⟩ v0).setCell ⟨g, 1, none⟩ v1).setCell ⟨g, 2, none⟩ v2).setCell ⟨g, 3, none⟩ v3).setCell ⟨g, 4, none⟩ v4).setCell ⟨g, 5, none⟩ v5).setCell ⟨g, 6, none⟩ v6).setCell ⟨g, 7, none⟩ v7).setCell ⟨g, 8, none⟩ v8).setCell ⟨g, 9, none⟩ v9).heap[g]? = some (.cells #[v0, v1, v2, v3, v4, v5, v6, v7, v8, v9] t (0, 0)) := heap_setCell_same _ g 9 _ t _ h8
  exact h9
theorem below_put10 {B : Nat} {w0 w : World} {g : Nat} (h : Below B w0 w) (hg : B ≤ g) (v0 v1 v2 v3 v4 v5 v6 v7 v8 v9 : Value) : Below B w0 (put10 w g v0 v1 v2 v3 v4 v5 v6 v7 v8 v9) := ((((((((((h.setCell hg _).setCell hg _).setCell hg _).setCell hg _).setCell hg _).setCell hg _).setCell hg _).setCell hg _).setCell hg _).setCell hg _)
theorem put10_size (w : World) (g : Nat) (v0 v1 v2 v3 v4 v5 v6 v7 v8 v9 : Value) : (put10 w g v0 v1 v2 v3 v4 v5 v6 v7 v8 v9).heap.size = w.heap.size := by simp [World.setCell]
set_option maxHeartbeats 2000000 in
theorem put10_other {w : World} {g b : Nat} (h : b ≠ g) (v0 v1 v2 v3 v4 v5 v6 v7 v8 v9 : Value) : (put10 w g v0 v1 v2 v3 v4 v5 v6 v7 v8 v9).heap[b]? = w.heap[b]? :=
  (Below.heap_setCell _ ⟨g, 9, none⟩ v9 b h).trans ((Below.heap_setCell _ ⟨g, 8, none⟩ v8 b h).trans ((Below.heap_setCell _ ⟨g, 7, none⟩ v7 b h).trans ((Below.heap_setCell _ ⟨g, 6, none⟩ v6 b h).trans ((Below.heap_setCell _ ⟨g, 5, none⟩ v5 b h).trans ((Below.heap_setCell _ ⟨g, 4, none⟩ v4 b h).trans ((Below.heap_setCell _ ⟨g, 3, none⟩ v3 b h).trans ((Below.heap_setCell _ ⟨g, 2, none⟩ v2 b h).trans ((Below.heap_setCell _ ⟨g, 1, none⟩ v1 b h).trans (Below.heap_setCell w ⟨g, 0, none⟩ v0 b h)))))))))
theorem put10_grown (w : World) (g : Nat) (v0 v1 v2 v3 v4 v5 v6 v7 v8 v9 : Value) : w.grownBy (put10 w g v0 v1 v2 v3 v4 v5 v6 v7 v8 v9) (some g) := (kd_set (kd_set (kd_set (kd_set (kd_set (kd_set (kd_set (kd_set (kd_set (kd_set (kd_refl g w) _) _) _) _) _) _) _) _) _) _)
theorem Inp.same {w w' : World} {B : Nat} {ad : Option Addr} {n cap : Nat} {fs : List F} (h : Inp w B ad n cap fs) (hk : ∀ b, (Value.slice ad n cap).ownBlock = some b → w'.heap[b]? = w.heap[b]?) : Inp w' B ad n cap fs := by
  refine ⟨h.1, h.2.1, h.2.2.1, fun hne => ?_⟩
  obtain ⟨gb, off, rfl, hgb, hc⟩ := h.2.2.2 hne
  have hb := hk gb rfl
  exact ⟨gb, off, rfl, hgb, fun i f hf => ⟨(World.cell?_of_block hb).trans (hc i f hf).q0, (World.cell?_of_block hb).trans (hc i f hf).q1, (World.cell?_of_block hb).trans (hc i f hf).q2⟩⟩
theorem EIn.same {w w' : World} {B : Nat} {ad : Option Addr} {n cap : Nat} {fs : List E} (h : EIn w B ad n cap fs) (hk : ∀ b, (Value.slice ad n cap).ownBlock = some b → w'.heap[b]? = w.heap[b]?) : EIn w' B ad n cap fs := by
  refine ⟨h.1, h.2.1, h.2.2.1, fun hne => ?_⟩
  obtain ⟨gb, off, rfl, hgb, hc⟩ := h.2.2.2 hne
  have hb := hk gb rfl
  exact ⟨gb, off, rfl, hgb, fun i f hf => ⟨(World.cell?_of_block hb).trans (hc i f hf).q0, (World.cell?_of_block hb).trans (hc i f hf).q1, (World.cell?_of_block hb).trans (hc i f hf).q2⟩⟩
theorem Inp.put10 {w : World} {B : Nat} {ad : Option Addr} {n cap : Nat} {fs : List F} (h : Inp w B ad n cap fs) {g : Nat} (ho : (Value.slice ad n cap).ownBlock ≠ some g) (v0 v1 v2 v3 v4 v5 v6 v7 v8 v9 : Value) : Inp (put10 w g v0 v1 v2 v3 v4 v5 v6 v7 v8 v9) B ad n cap fs := h.same fun b e => put10_other (fun q => ho (by rw [← q]; exact e)) v0 v1 v2 v3 v4 v5 v6 v7 v8 v9
theorem EIn.put10 {w : World} {B : Nat} {ad : Option Addr} {n cap : Nat} {fs : List E} (h : EIn w B ad n cap fs) {g : Nat} (ho : (Value.slice ad n cap).ownBlock ≠ some g) (v0 v1 v2 v3 v4 v5 v6 v7 v8 v9 : Value) : EIn (put10 w g v0 v1 v2 v3 v4 v5 v6 v7 v8 v9) B ad n cap fs := h.same fun b e => put10_other (fun q => ho (by rw [← q]; exact e)) v0 v1 v2 v3 v4 v5 v6 v7 v8 v9
def EFit (e : E) : Prop := e.seq < 18446744073709551616 ∧ e.data.size ≤ 9223372036854775807
/-- a queue that came in -/
structure QIn (w : World) (ad : Option Addr) (n cap : Nat) (ad2 : Option Addr) (n2 cap2 : Nat) (q : Q) : Prop where
  l : LIn w ad n cap q.l
  e : EIn w w.heap.size ad2 n2 cap2 q.es
  fit : ∀ e ∈ q.es, EFit e
  m : Num q.most
theorem QIn.under {w w' : World} {ad : Option Addr} {n cap : Nat} {ad2 : Option Addr} {n2 cap2 : Nat} {q : Q} (h : QIn w ad n cap ad2 n2 cap2 q) (hb : Below w.heap.size w w') : QIn w' ad n cap ad2 n2 cap2 q := ⟨h.l.under hb, h.e.under hb, h.fit, h.m⟩

theorem isMost_any (w : World) (n : Int) : Calls Tryz.prog 24 #[.int .i64 n] w fun e w' => e = .returned (.bool (decide (1 ≤ n) && decide (n ≤ 1024))) ∧ w = w' := by
  go_enter Tryz.func24, Tryz.ntmps24
  by_cases h1 : 1 ≤ n
  · by_cases h2 : n ≤ 1024
    · have e : (decide (1 ≤ n) && decide (n ≤ 1024)) = true := by simp [h1, h2]
      rw [e]
      clear e
      go_wp2
      go_ret
      exact ⟨rfl, rfl⟩
    · have e : (decide (1 ≤ n) && decide (n ≤ 1024)) = false := by simp [h2]
      rw [e]
      clear e
      go_wp2
      go_ret
      exact ⟨rfl, rfl⟩
  · have e : (decide (1 ≤ n) && decide (n ≤ 1024)) = false := by simp [h1]
    rw [e]
    clear e
    go_wp2
    go_ret
    exact ⟨rfl, rfl⟩

/-- the number ahead of which no entry's may lie, behind so many -/
def fromE (fr : Nat) (es : List E) (k : Nat) : Nat := match k with
  | 0 => fr
  | k + 1 => match es[k]? with
    | some e => e.seq + 1
    | none => fr
theorem fromE_succ {fr : Nat} {es : List E} {k : Nat} {e : E} (h : es[k]? = some e) : fromE fr es (k + 1) = e.seq + 1 := by
  show (match es[k]? with | some e => e.seq + 1 | none => fr) = _
  rw [h]
theorem inM_at {nx fr : Nat} {es : List E} : ∀ (k : Nat), k ≤ es.length → inM nx fr es → inM nx (fromE fr es k) (es.drop k)
  | 0, _, h => h
  | k + 1, hk, h => by
    have ih := inM_at k (by omega) h
    rw [List.drop_eq_getElem_cons (show k < es.length by omega)] at ih
    rw [fromE_succ (e := es[k]) (by simp)]
    exact ih.2.2.2
theorem inM_all {nx : Nat} : ∀ {es : List E} {fr : Nat}, (∀ k e, es[k]? = some e → fromE fr es k ≤ e.seq ∧ e.seq < nx ∧ e.data.size ≤ 65535) → inM nx fr es
  | [], fr, h => trivial
  | e :: t, fr, h => by
    obtain ⟨h1, h2, h3⟩ := h 0 e rfl
    refine ⟨h1, h2, h3, inM_all fun k x hx => ?_⟩
    have := h (k + 1) x (by simpa using hx)
    cases k with
    | zero => exact this
    | succ k =>
      have e1 : fromE fr (e :: t) (k + 1 + 1) = fromE (e.seq + 1) t (k + 1) := by
        show (match (e :: t)[k + 1]? with | some e => e.seq + 1 | none => fr) = (match t[k]? with | some x => x.seq + 1 | none => e.seq + 1)
        rw [List.getElem?_cons_succ]
        cases hk : t[k]? with
        | none =>
          have hl := (List.getElem?_eq_some_iff.1 hx).1
          rw [List.getElem?_eq_none_iff] at hk
          omega
        | some y => rfl
      rw [e1] at this
      exact this

/-- what areIn answers -/
def AreP (nx fr : Int) (es : List E) (w : World) (e : Ending) (w' : World) : Prop := ∃ b : Bool, e = .returned (.bool b) ∧ ((es.length ≤ 1024 ∧ nx ≤ 4611686018427387904 ∧ inM nx.toNat fr.toNat es) → b = true) ∧ (b = true → es.length ≤ 1024 ∧ inM nx.toNat fr.toNat es) ∧ Below w.heap.size w w'
/-- what Check answers -/
def CkP (P : Prop) (w : World) (e : Ending) (w' : World) : Prop := ∃ c, e = .returned (.int .i64 c) ∧ ((P ∧ c = 0) ∨ (¬ P ∧ c = 6)) ∧ Below w.heap.size w w'
set_option maxHeartbeats 4000000 in
theorem areIn_any (w : World) (ad : Option Addr) (n cap : Nat) (l : L) (h : LIn w ad n cap l) (ad2 : Option Addr) (n2 cap2 : Nat) (es : List E) (he : EIn w w.heap.size ad2 n2 cap2 es) (hfit : ∀ e ∈ es, EFit e) :
    Calls Tryz.prog 47 #[.agg (l.cells (.slice ad n cap)), .slice ad2 n2 cap2] w (AreP l.nx l.fr es w) := by
  obtain ⟨⟨fs, down, fuse, fault⟩, size, fr, nx, broken⟩ := l
  obtain ⟨F, hF⟩ : ∃ F : Nat, fr = (F : Int) := ⟨fr.toNat, by have := h.f0; simp only at this; omega⟩
  obtain ⟨X, hX⟩ : ∃ X : Nat, nx = (X : Int) := ⟨nx.toNat, by have := h.n0; simp only at this; omega⟩
  subst hF hX
  have hx1 := h.n1
  have hf1 := h.f1
  simp only [] at hx1 hf1
  have hb0 : Below w.heap.size w (w.alloc (.cells (lcells (.slice ad n cap) down fuse fault size (F : Int) (X : Int) broken) 27)) := (Below.refl _ w).alloc (Nat.le_refl _) _
  have hx := blk_new w (.cells (lcells (.slice ad n cap) down fuse fault size (F : Int) (X : Int) broken) 27)
  have HE := Lib.hid he
  have HB0 := Lib.hid hb0
  have Hx := Lib.hid hx
  have Hfit := Lib.hid hfit
  have Hn := Lib.hid he.1
  obtain ⟨d0, d1, d2, d3, d4, d5, d6, d7⟩ := box8 hx
  clear h he hb0 hx hfit
  go_enter Tryz.func47, Tryz.ntmps47
  by_cases hl : n2 ≤ 1024
  rotate_left
  · have hl2 : (1024 : Int) < (n2 : Int) := by omega
    go_wp2
    go_ret
    exact ⟨false, rfl, (fun h => by have := Hn.out; omega), (fun h => by cases h), HB0.out⟩
  have hl2 : ¬ (1024 : Int) < (n2 : Int) := by omega
  go_upto_region 1 with (fail)
  obtain ⟨W0, hW0⟩ : ∃ W, W = w.alloc (.cells (lcells (.slice ad n cap) down fuse fault size (F : Int) (X : Int) broken) 27) := ⟨_, rfl⟩
  rw [← hW0] at HB0 Hx d0 d1 d2 d3 d4 d5 d6 d7 ⊢
  have HW0 := Lib.hid hW0
  clear hW0
  go_wp2
  go_loopw [5, 15] (fun f i wr => ∃ k : Nat, i = .int .i64 (k : Int) ∧ k ≤ n2 ∧ f = .int .u64 ((fromE F es k : Nat) : Int) ∧ (∀ j e, j < k → es[j]? = some e → fromE F es j ≤ e.seq ∧ e.seq < X ∧ e.data.size ≤ 65535) ∧ Below W0.heap.size W0 wr) (fun _ i _ => n2 - (intOf i).toNat)
  case atStart => exact ⟨0, rfl, Nat.zero_le _, rfl, fun j e hj => by omega, Below.refl _ _⟩
  case round =>
    obtain ⟨k, rfl, hk, rfl, hall, hbel⟩ := hrel
    have Hall := Lib.hid hall
    have Hbel := Lib.hid hbel
    have HBr := Lib.hid (HB0.out.trans (hbel.mono HB0.out.size))
    obtain ⟨d0, d1, d2, d3, d4, d5, d6, d7⟩ := box8 ((hbel.block _ (Array.getElem?_eq_some_iff.1 Hx.out).1).trans Hx.out)
    have hlw : w.heap.size < wr.heap.size := by have := (Array.getElem?_eq_some_iff.1 Hx.out).1; have := hbel.size; omega
    clear hall hbel
    obtain ⟨M, hM⟩ : ∃ M, fromE F es k = M := ⟨_, rfl⟩
    rw [hM]
    have HM := Lib.hid hM
    clear hM
    by_cases hlt : k < n2
    · obtain ⟨e, he⟩ : ∃ e, es[k]? = some e := ⟨es[k]'(by have := Hn.out; omega), by simp⟩
      have hne : es ≠ [] := by rintro rfl; simp at he
      obtain ⟨g1, o1, rfl, hg1, hc1⟩ := (HE.out.2.2.2.keep HBr.out) hne
      obtain ⟨q0, q1, q2⟩ := hc1 k e he
      have hfe := Hfit.out e (List.mem_of_getElem? he)
      obtain ⟨fe1, fe2⟩ := hfe
      have Hek := Lib.hid he
      have hg1' : g1 < wr.heap.size := Nat.lt_of_lt_of_le hg1 HBr.out.size
      clear he hc1 hne
      obtain ⟨es1, ed1, el1⟩ := e
      simp only at q0 q1 q2 fe1 fe2
      by_cases c1 : es1 < M
      · have i1 : (es1 : Int) < (M : Int) := by omega
        go_wp2
        go_ret
        refine ⟨false, rfl, fun h => ?_, fun h => (by cases h), ?_⟩
        · have := inM_at k (by have := Hn.out; omega) h.2.2
          rw [Int.toNat_natCast, Int.toNat_natCast] at this
          rw [HM.out, List.drop_eq_getElem_cons (show k < es.length by have := Hn.out; omega)] at this
          have e1 : es[k]'(by have := Hn.out; omega) = ⟨es1, ed1, el1⟩ := (List.getElem?_eq_some_iff.1 Hek.out).2
          rw [e1] at this
          have := this.1
          simp only at this
          omega
        · exact HBr.out.alloc (by omega) _
      · have i1 : ¬ (es1 : Int) < (M : Int) := by omega
        by_cases c2 : X ≤ es1
        · have i2 : (X : Int) ≤ (es1 : Int) := by omega
          go_wp2
          go_ret
          refine ⟨false, rfl, fun h => ?_, fun h => (by cases h), ?_⟩
          · have := (inM_lt h.2.2 (List.mem_of_getElem? Hek.out)).1
            rw [Int.toNat_natCast] at this
            simp only at this
            omega
          · exact HBr.out.alloc (by omega) _
        · have i2 : ¬ (X : Int) ≤ (es1 : Int) := by omega
          by_cases c3 : 65535 < ed1.size
          · have i3 : (65535 : Int) < (ed1.size : Int) := by omega
            go_wp2
            go_ret
            refine ⟨false, rfl, fun h => ?_, fun h => (by cases h), ?_⟩
            · have := (inM_lt h.2.2 (List.mem_of_getElem? Hek.out)).2
              simp only at this
              omega
            · exact HBr.out.alloc (by omega) _
          · have i3 : ¬ (65535 : Int) < (ed1.size : Int) := by omega
            by_cases c4 : X ≤ 18446744073709551615
            rotate_left
            · omega
            have c5 : (es1 : Int) + 1 ≤ 18446744073709551615 := by omega
            have Hbel2 := Lib.hid (Hbel.out.alloc (o := .cells #[.int .u64 (es1 : Int), .string ed1, .bool el1] 39) Hbel.out.size)
            go_wp2
            go_roundw
            case rel =>
              refine ⟨k + 1, by go_num, by omega, by rw [fromE_succ Hek.out]; go_num, fun j e hj hje => ?_, Hbel2.out⟩
              rcases Nat.lt_or_ge j k with q | q
              · exact Hall.out j e q hje
              · obtain rfl : j = k := by omega
                rw [Hek.out] at hje
                injection hje with hje
                subst hje
                rw [HM.out]
                exact ⟨by simp only; omega, by simp only; omega, by simp only; omega⟩
            case measure => simp [intOf]; omega
    · have hkn : k = n2 := by omega
      go_wp2
      go_ret
      refine ⟨true, rfl, fun _ => rfl, fun _ => ⟨by have := Hn.out; omega, by rw [Int.toNat_natCast, Int.toNat_natCast]; exact inM_all fun j e hj => Hall.out j e (by have := (List.getElem?_eq_some_iff.1 hj).1; have := Hn.out; omega) hj⟩, HBr.out⟩

set_option maxHeartbeats 4000000 in
theorem qcheck_any (w : World) (ad : Option Addr) (n cap : Nat) (ad2 : Option Addr) (n2 cap2 : Nat) (q : Q) (h : QIn w ad n cap ad2 n2 cap2 q) :
    Calls Tryz.prog 13 #[.agg (q.cells (.slice ad n cap) (.slice ad2 n2 cap2))] w (CkP (QRight q) w) := by
  obtain ⟨l, es, most⟩ := q
  have hb0 : Below w.heap.size w (w.alloc (.cells (Q.cells ⟨l, es, most⟩ (.slice ad n cap) (.slice ad2 n2 cap2)) 30)) := (Below.refl _ w).alloc (Nat.le_refl _) _
  have hx := blk_new w (.cells (Q.cells ⟨l, es, most⟩ (.slice ad n cap) (.slice ad2 n2 cap2)) 30)
  have HQ := Lib.hid (h.under hb0)
  have Hx := Lib.hid hx
  have Hb0 := Lib.hid hb0
  have hm := h.m
  obtain ⟨m0, m1⟩ := hm
  simp only at m0 m1
  obtain ⟨⟨fs, down, fuse, fault⟩, size, fr, nx, broken⟩ := l
  obtain ⟨d0, d1, d2, d3, d4, d5, d6, d7, d8, d9⟩ := box10 hx
  clear h hb0 hx
  go_enter Tryz.func13, Tryz.ntmps13
  go_wp2_with fail
  refine (lcheck_any _ ad n cap _ HQ.out.l).mono ?_
  rintro e w1 ⟨c, rfl, hc, hb1⟩
  have HQ1 := Lib.hid (HQ.out.under hb1)
  have Hb1 := Lib.hid (Hb0.out.trans (hb1.mono Hb0.out.size))
  replace Hx := Lib.hid ((hb1.block _ (Array.getElem?_eq_some_iff.1 Hx.out).1).trans Hx.out)
  clear d0 d1 d2 d3 d4 d5 d6 d7 d8 d9 hb1
  obtain ⟨d0, d1, d2, d3, d4, d5, d6, d7, d8, d9⟩ := box10 Hx.out
  rcases hc with ⟨hR, rfl⟩ | ⟨hR, rfl⟩
  rotate_left
  · have HR := Lib.hid hR
    clear hR
    go_wp2
    go_ret
    exact ⟨6, rfl, .inr ⟨fun h => HR.out h.1, rfl⟩, Hb1.out⟩
  have HR := Lib.hid hR
  clear hR
  go_wp2_with fail
  refine (isMost_any w1 most).mono ?_
  rintro e w2 ⟨rfl, rfl⟩
  by_cases hS : 1 ≤ most ∧ most ≤ 1024
  rotate_left
  · have e : (decide (1 ≤ most) && decide (most ≤ 1024)) = false := by
      by_cases h1 : 1 ≤ most
      · have : ¬ most ≤ 1024 := fun h => hS ⟨h1, h⟩
        simp [this]
      · simp [h1]
    rw [e]
    clear e
    have HS := Lib.hid hS
    clear hS
    go_wp2
    go_ret
    exact ⟨6, rfl, .inr ⟨fun h => HS.out h.2.1, rfl⟩, Hb1.out⟩
  have e : (decide (1 ≤ most) && decide (most ≤ 1024)) = true := by simp [hS.1, hS.2]
  rw [e]
  clear e
  have HS := Lib.hid hS
  clear hS
  go_wp2_with fail
  refine (areIn_any w1 ad n cap ⟨⟨fs, down, fuse, fault⟩, size, fr, nx, broken⟩ HQ1.out.l ad2 n2 cap2 es HQ1.out.e HQ1.out.fit).mono ?_
  rintro e w2 ⟨b, rfl, hy, hn, hb2⟩
  have Hb2 := Lib.hid (Hb1.out.trans (hb2.mono Hb1.out.size))
  have Hy := Lib.hid hy
  have Hn := Lib.hid hn
  clear hb2 hy hn
  cases b with
  | true =>
    go_wp2
    go_ret
    have hfin : QRight ⟨⟨⟨fs, down, fuse, fault⟩, size, fr, nx, broken⟩, es, most⟩ := ⟨HR.out, HS.out, Hn.out (by trivial)⟩
    exact ⟨0, rfl, .inl ⟨hfin, rfl⟩, Hb2.out⟩
  | false =>
    go_wp2
    go_ret
    exact ⟨6, rfl, .inr ⟨fun h => (by have := Hy.out ⟨h.2.2.1, h.1.2.2.2, h.2.2.2⟩; cases this), rfl⟩, Hb2.out⟩
end Go.Proofs.YtkhmdofeonlnpaaGreatDoor
