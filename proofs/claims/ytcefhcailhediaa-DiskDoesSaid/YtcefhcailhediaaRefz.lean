/- THE WALKS OVER what the changes refuse. -/
import Derived.Test.YtcefhcailhediaaRefs
namespace Go.Proofs.Ytcefhcailhediaa
open Go.RowKit
set_option linter.unusedVariables false
set_option linter.unusedSimpArgs false

/-- a step's cells -/
abbrev scells (k : Int) (n d : ByteArray) (z : Int) : Array Value := #[.int .u8 k, .string n, .string d, .int .i64 z]
/-- block g holds the disk with the right files fs -/
structure On (w : World) (g : Nat) (ad : Option Addr) (n cap : Nat) (down : Bool) (fuse fault : Int) (fs : List F) : Prop where
  d : Dk w g 64 (.slice ad n cap) down fuse fault
  n : n = fs.length
  f : Fls w w.heap.size ad fs
  r : Right fs
section
variable {w w' : World} {g : Nat} {ad : Option Addr} {n cap : Nat} {down : Bool} {fuse fault : Int} {fs : List F}
theorem On.keep (h : On w g ad n cap down fuse fault fs) (hb : Below w.heap.size w w') : On w' g ad n cap down fuse fault fs := ⟨h.d.keep hb h.d.lt, h.n, (h.f.keep hb).mono hb.size, h.r⟩
theorem On.alloc (h : On w g ad n cap down fuse fault fs) (o : Obj) : On (w.alloc o) g ad n cap down fuse fault fs := h.keep ((Below.refl _ w).alloc (Nat.le_refl _) o)
theorem On.file_no (h : On w g ad n cap down fuse fault fs) {b : ByteArray} (ht : found fs b = none) :
    Calls Try.prog 35 #[.pointer (some ⟨g, 0, none⟩), .string b] w fun e w' => e = .returned (.pointer none) ∧ Below w.heap.size w w' := Ytcefhcailhediaa.file_no w g 64 ad cap n down fuse fault b fs h.d h.n h.f h.r ht
theorem On.isat (h : On w g ad n cap down fuse fault fs) {b : ByteArray} {f : F} (ht : found fs b = some f) : ∃ gb off, ad = some ⟨gb, off, none⟩ ∧ gb < w.heap.size ∧ At3 w gb off (pos fs b) f := by
  obtain ⟨gb, off, e, hg, hi⟩ := h.f (List.ne_nil_of_mem (found_mem ht))
  exact ⟨gb, off, e, hg, hi _ f (found_some ht).1⟩
theorem On.file_yes {gb off : Nat} (h : On w g (some ⟨gb, off, none⟩) n cap down fuse fault fs) {b : ByteArray} {f : F} (ht : found fs b = some f) :
    Calls Try.prog 35 #[.pointer (some ⟨g, 0, none⟩), .string b] w fun e w' => e = .returned (.pointer (some ⟨gb, off + pos fs b * 3, none⟩)) ∧ Below w.heap.size w w' := Ytcefhcailhediaa.file_yes w g 64 _ cap n down fuse fault b fs f h.d h.n h.f h.r ht gb off rfl
end
theorem ref1 {fs : List F} {n d : ByteArray} {z : Int} : ref fs ⟨1, n, d, z⟩ = if okN n then (if (found fs n).isSome then 6 else if fs.length = 64 then 8 else 0) else 4 := by simp [ref]
theorem refN {fs : List F} {k : Int} {n d : ByteArray} {z : Int} (hk : ¬ k = 1) (h : found fs n = none) : ref fs ⟨k, n, d, z⟩ = 7 := by simp [ref, hk, h]
theorem ref2 {fs : List F} {n d : ByteArray} {z : Int} {f : F} (h : found fs n = some f) : ref fs ⟨2, n, d, z⟩ = if 262144 - f.data.size < d.size then 8 else 0 := by simp [ref, h]
theorem ref3 {fs : List F} {n d : ByteArray} {z : Int} {f : F} (h : found fs n = some f) : ref fs ⟨3, n, d, z⟩ = 0 := by simp [ref, h]
theorem ref5 {fs : List F} {n d : ByteArray} {z : Int} {f : F} (h : found fs n = some f) : ref fs ⟨5, n, d, z⟩ = 0 := by simp [ref, h]
theorem ref4 {fs : List F} {n d : ByteArray} {z : Int} {f : F} (h : found fs n = some f) : ref fs ⟨4, n, d, z⟩ = if z < 0 ∨ (f.data.size : Int) < z then 2 else 0 := by simp [ref, h]

section
variable (w : World) (g : Nat) (ad : Option Addr) (n cap : Nat) (down : Bool) (fuse fault : Int) (fs : List F) (nm dt : ByteArray) (z : Int)
set_option maxHeartbeats 1000000 in
theorem ref_42 (k : Int) (h : On w g ad n cap down fuse fault fs) (hs : nm.size ≤ 9223372036854775807) :
    Calls Try.prog 42 #[.pointer (some ⟨g, 0, none⟩), .agg (scells k nm dt z)] w fun e w' => e = .returned (.int .i64 (ref fs ⟨1, nm, dt, z⟩)) ∧ Below w.heap.size w w' := by
  obtain ⟨r, hr⟩ : ∃ r, ref fs ⟨1, nm, dt, z⟩ = r := ⟨_, rfl⟩
  rw [hr]
  rw [ref1] at hr
  have H := Lib.hid h; clear h
  have hN := fun W => isName_any nm W hs
  by_cases c : okN nm
  · rw [if_pos c] at hr
    rw [show okNB nm = true from decide_eq_true c] at hN
    have HN := Lib.hid hN; clear hN
    cases hf : found fs nm with
    | some f =>
      rw [hf] at hr
      obtain ⟨gb, off, rfl, hgb, _⟩ := H.out.isat hf
      have HF := Lib.hid ((H.out.alloc (.cells (scells k nm dt z) 27)).file_yes hf)
      have Hr := Lib.hid hr
      clear hr hf c
      go_enter Try.func42, Try.ntmps42
      go_wp2_with fail
      refine (HN.out _).mono ?_
      rintro e w1 ⟨rfl, rfl⟩
      go_wp2_with fail
      refine (HF.out).mono ?_
      rintro e w1 ⟨rfl, hb⟩
      have Hb := Lib.hid (((Below.refl w.heap.size w).alloc (Nat.le_refl _) _).trans (hb.mono (by simp))); clear hb
      go_wp2
      go_ret
      exact ⟨ret_int Hr.out, Hb.out⟩
    | none =>
      rw [hf] at hr
      have HF := Lib.hid ((H.out.alloc (.cells (scells k nm dt z) 27)).file_no hf)
      have HD := Lib.hid (H.out.alloc (.cells (scells k nm dt z) 27))
      by_cases c64 : n = 64
      · have Hr := Lib.hid (show r = 8 by rw [← hr]; rw [H.out.n] at c64; simp [c64])
        clear hr hf c
        subst c64
        go_enter Try.func42, Try.ntmps42
        go_wp2_with fail
        refine (HN.out _).mono ?_
        rintro e w1 ⟨rfl, rfl⟩
        go_wp2_with fail
        refine (HF.out).mono ?_
        rintro e w1 ⟨rfl, hb⟩
        obtain ⟨⟨d0, d1, d2, d3⟩, _⟩ := (HD.out.keep hb).d.facts
        have Hb := Lib.hid (((Below.refl w.heap.size w).alloc (Nat.le_refl _) _).trans (hb.mono (by simp))); clear hb
        go_wp2
        go_ret
        exact ⟨ret_int Hr.out.symm, Hb.out⟩
      · have Hr := Lib.hid (show r = 0 by rw [← hr]; rw [H.out.n] at c64; simp [c64])
        have c64' : ((n : Int) == 64) = false := by simp; omega
        clear hr hf c
        go_enter Try.func42, Try.ntmps42
        go_wp2_with fail
        refine (HN.out _).mono ?_
        rintro e w1 ⟨rfl, rfl⟩
        go_wp2_with fail
        refine (HF.out).mono ?_
        rintro e w1 ⟨rfl, hb⟩
        obtain ⟨⟨d0, d1, d2, d3⟩, _⟩ := (HD.out.keep hb).d.facts
        have Hb := Lib.hid (((Below.refl w.heap.size w).alloc (Nat.le_refl _) _).trans (hb.mono (by simp))); clear hb
        go_wp2
        go_ret
        exact ⟨ret_int Hr.out.symm, Hb.out⟩
  · rw [if_neg c] at hr
    rw [show okNB nm = false from decide_eq_false c] at hN
    have HN := Lib.hid hN; clear hN
    have Hr := Lib.hid hr
    clear hr c
    go_enter Try.func42, Try.ntmps42
    go_wp2_with fail
    refine (HN.out _).mono ?_
    rintro e w1 ⟨rfl, rfl⟩
    go_wp2
    go_ret
    exact ⟨ret_int Hr.out, (Below.refl _ _).alloc (Nat.le_refl _) _⟩

set_option maxHeartbeats 1000000 in
theorem ref_46 (k k' : Int) (hk : k' = 3 ∨ k' = 5) (h : On w g ad n cap down fuse fault fs) :
    Calls Try.prog 46 #[.pointer (some ⟨g, 0, none⟩), .agg (scells k nm dt z)] w fun e w' => e = .returned (.int .i64 (ref fs ⟨k', nm, dt, z⟩)) ∧ Below w.heap.size w w' := by
  obtain ⟨r, hr⟩ : ∃ r, ref fs ⟨k', nm, dt, z⟩ = r := ⟨_, rfl⟩
  rw [hr]
  have H := Lib.hid h; clear h
  cases hf : found fs nm with
  | some f =>
    have Hr := Lib.hid (show r = 0 by rw [← hr]; rcases hk with rfl | rfl; exact ref3 hf; exact ref5 hf)
    obtain ⟨gb, off, rfl, hgb, _⟩ := H.out.isat hf
    have HF := Lib.hid ((H.out.alloc (.cells (scells k nm dt z) 27)).file_yes hf)
    clear hr hf hk
    go_enter Try.func46, Try.ntmps46
    go_wp2_with fail
    refine (HF.out).mono ?_
    rintro e w1 ⟨rfl, hb⟩
    have Hb := Lib.hid (((Below.refl w.heap.size w).alloc (Nat.le_refl _) _).trans (hb.mono (by simp))); clear hb
    go_wp2
    go_ret
    exact ⟨ret_int Hr.out.symm, Hb.out⟩
  | none =>
    have Hr := Lib.hid (show r = 7 by rw [← hr]; exact refN (by omega) hf)
    have HF := Lib.hid ((H.out.alloc (.cells (scells k nm dt z) 27)).file_no hf)
    clear hr hf hk
    go_enter Try.func46, Try.ntmps46
    go_wp2_with fail
    refine (HF.out).mono ?_
    rintro e w1 ⟨rfl, hb⟩
    have Hb := Lib.hid (((Below.refl w.heap.size w).alloc (Nat.le_refl _) _).trans (hb.mono (by simp))); clear hb
    go_wp2
    go_ret
    exact ⟨ret_int Hr.out.symm, Hb.out⟩

theorem okF_size {f : F} (h : okF f) : f.data.size ≤ 262144 := h.2.1
set_option maxHeartbeats 1000000 in
theorem ref_44 (k : Int) (h : On w g ad n cap down fuse fault fs) (hs : dt.size ≤ 9223372036854775807) :
    Calls Try.prog 44 #[.pointer (some ⟨g, 0, none⟩), .agg (scells k nm dt z)] w fun e w' => e = .returned (.int .i64 (ref fs ⟨2, nm, dt, z⟩)) ∧ Below w.heap.size w w' := by
  obtain ⟨r, hr⟩ : ∃ r, ref fs ⟨2, nm, dt, z⟩ = r := ⟨_, rfl⟩
  rw [hr]
  have H := Lib.hid h; clear h
  cases hf : found fs nm with
  | some f =>
    have Hr := Lib.hid (hr.symm.trans (ref2 hf))
    have hz := okF_size (H.out.r.ok f (found_mem hf))
    obtain ⟨gb, off, rfl, hgb, hat⟩ := H.out.isat hf
    have Hat := Lib.hid (hat.keep hgb ((Below.refl _ w).alloc (Nat.le_refl _) (.cells (scells k nm dt z) 27)))
    have HX := Lib.hid (blk_new w (.cells (scells k nm dt z) 27))
    have HF := Lib.hid ((H.out.alloc (.cells (scells k nm dt z) 27)).file_yes hf)
    obtain ⟨P, hP⟩ : ∃ P, pos fs nm = P := ⟨_, rfl⟩
    rw [hP] at HF Hat
    have hgb' : gb < (w.alloc (.cells (scells k nm dt z) 27)).heap.size := by simp; omega
    have Hgb := Lib.hid hgb'
    clear hr hf hat hP hgb hgb'
    go_enter Try.func44, Try.ntmps44
    go_wp2_with fail
    refine (HF.out).mono ?_
    rintro e w1 ⟨rfl, hb⟩
    obtain ⟨q0, q1, q2⟩ := Hat.out.keep Hgb.out hb
    obtain ⟨x0, x1, x2, x3⟩ := box4 ((hb.block w.heap.size (by simp)).trans HX.out)
    have Hb := Lib.hid (((Below.refl w.heap.size w).alloc (Nat.le_refl _) _).trans (hb.mono (by simp))); clear hb
    by_cases hc : 262144 - f.data.size < dt.size
    · have Hr2 := Lib.hid (show r = 8 by rw [Hr.out, if_pos hc])
      have hc' : (262144 : Int) - (f.data.size : Int) < (dt.size : Int) := by omega
      clear hc Hr
      go_wp2
      go_quiet (fail)
      go_wp2
      go_ret
      exact ⟨ret_int Hr2.out.symm, below_drewN Hb.out _⟩
    · have Hr2 := Lib.hid (show r = 0 by rw [Hr.out, if_neg hc])
      have hc' : ¬ (262144 : Int) - (f.data.size : Int) < (dt.size : Int) := by omega
      clear hc Hr
      go_wp2
      go_quiet (fail)
      go_wp2
      go_ret
      exact ⟨ret_int Hr2.out.symm, below_drewN Hb.out _⟩
  | none =>
    have Hr := Lib.hid (show r = 7 by rw [← hr]; exact refN (by omega) hf)
    have HF := Lib.hid ((H.out.alloc (.cells (scells k nm dt z) 27)).file_no hf)
    clear hr hf
    go_enter Try.func44, Try.ntmps44
    go_wp2_with fail
    refine (HF.out).mono ?_
    rintro e w1 ⟨rfl, hb⟩
    have Hb := Lib.hid (((Below.refl w.heap.size w).alloc (Nat.le_refl _) _).trans (hb.mono (by simp))); clear hb
    go_wp2
    go_ret
    exact ⟨ret_int Hr.out.symm, Hb.out⟩

set_option maxHeartbeats 1000000 in
theorem ref_48 (k : Int) (h : On w g ad n cap down fuse fault fs) :
    Calls Try.prog 48 #[.pointer (some ⟨g, 0, none⟩), .agg (scells k nm dt z)] w fun e w' => e = .returned (.int .i64 (ref fs ⟨4, nm, dt, z⟩)) ∧ Below w.heap.size w w' := by
  obtain ⟨r, hr⟩ : ∃ r, ref fs ⟨4, nm, dt, z⟩ = r := ⟨_, rfl⟩
  rw [hr]
  have H := Lib.hid h; clear h
  cases hf : found fs nm with
  | some f =>
    have Hr := Lib.hid (hr.symm.trans (ref4 hf))
    have hz := okF_size (H.out.r.ok f (found_mem hf))
    obtain ⟨gb, off, rfl, hgb, hat⟩ := H.out.isat hf
    have Hat := Lib.hid (hat.keep hgb ((Below.refl _ w).alloc (Nat.le_refl _) (.cells (scells k nm dt z) 27)))
    have HX := Lib.hid (blk_new w (.cells (scells k nm dt z) 27))
    have HF := Lib.hid ((H.out.alloc (.cells (scells k nm dt z) 27)).file_yes hf)
    obtain ⟨P, hP⟩ : ∃ P, pos fs nm = P := ⟨_, rfl⟩
    rw [hP] at HF Hat
    have hgb' : gb < (w.alloc (.cells (scells k nm dt z) 27)).heap.size := by simp; omega
    have Hgb := Lib.hid hgb'
    clear hr hf hat hP hgb hgb'
    go_enter Try.func48, Try.ntmps48
    go_wp2_with fail
    refine (HF.out).mono ?_
    rintro e w1 ⟨rfl, hb⟩
    obtain ⟨q0, q1, q2⟩ := Hat.out.keep Hgb.out hb
    obtain ⟨x0, x1, x2, x3⟩ := box4 ((hb.block w.heap.size (by simp)).trans HX.out)
    have Hb := Lib.hid (((Below.refl w.heap.size w).alloc (Nat.le_refl _) _).trans (hb.mono (by simp))); clear hb
    by_cases hc0 : z < 0
    · have Hr2 := Lib.hid (show r = 2 by rw [Hr.out, if_pos (.inl hc0)])
      have hd : decide (z < 0) = true := decide_eq_true hc0
      clear Hr
      go_wp2
      go_quiet (fail)
      go_wp2
      go_ret
      exact ⟨ret_int Hr2.out.symm, below_drewN Hb.out _⟩
    · have hd : decide (z < 0) = false := decide_eq_false hc0
      by_cases hc : (f.data.size : Int) < z
      · have Hr2 := Lib.hid (show r = 2 by rw [Hr.out, if_pos (.inr hc)])
        clear Hr
        go_wp2
        go_quiet (fail)
        go_wp2
        go_ret
        exact ⟨ret_int Hr2.out.symm, below_drewN Hb.out _⟩
      · have Hr2 := Lib.hid (show r = 0 by rw [Hr.out, if_neg (by omega)])
        clear Hr
        go_wp2
        go_quiet (fail)
        go_wp2
        go_ret
        exact ⟨ret_int Hr2.out.symm, below_drewN Hb.out _⟩
  | none =>
    have Hr := Lib.hid (show r = 7 by rw [← hr]; exact refN (by omega) hf)
    have HF := Lib.hid ((H.out.alloc (.cells (scells k nm dt z) 27)).file_no hf)
    clear hr hf
    go_enter Try.func48, Try.ntmps48
    go_wp2_with fail
    refine (HF.out).mono ?_
    rintro e w1 ⟨rfl, hb⟩
    have Hb := Lib.hid (((Below.refl w.heap.size w).alloc (Nat.le_refl _) _).trans (hb.mono (by simp))); clear hb
    go_wp2
    go_ret
    exact ⟨ret_int Hr.out.symm, Hb.out⟩
end
end Go.Proofs.Ytcefhcailhediaa
