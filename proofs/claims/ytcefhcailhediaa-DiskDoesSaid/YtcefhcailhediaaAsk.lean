/- THE WALKS OVER checkUp, Read, Crash, and the calls of the five kinds. -/
import Derived.Test.YtcefhcailhediaaCrs
namespace Go.Proofs.Ytcefhcailhediaa
open Go.RowKit
set_option linter.unusedVariables false
set_option linter.unusedSimpArgs false
attribute [local go_sem] run_store_func run_store_nilf

/-- a disk that came in -/
structure DIn (w : World) (ad : Option Addr) (n cap : Nat) (fuse fault : Int) (fs : List F) : Prop where
  i : Inp w w.heap.size ad n cap fs
  fit : ∀ f ∈ fs, Fit f
  u0 : -9223372036854775808 ≤ fuse
  u1 : fuse ≤ 9223372036854775807
  f0 : -9223372036854775808 ≤ fault
  f1 : fault ≤ 9223372036854775807
theorem DIn.under {w w' : World} {ad : Option Addr} {n cap : Nat} {fuse fault : Int} {fs : List F} (h : DIn w ad n cap fuse fault fs) (hb : Below w.heap.size w w') : DIn w' ad n cap fuse fault fs := ⟨h.i.under hb, h.fit, h.u0, h.u1, h.f0, h.f1⟩
open Classical in
noncomputable def upv (d : D) : Int := if Right d.files then (if d.down = true then 17 else 0) else 6
theorem upv_no {d : D} (h : ¬ Right d.files) : upv d = 6 := by unfold upv; rw [if_neg h]
theorem upv_down {d : D} (h : Right d.files) (h' : d.down = true) : upv d = 17 := by unfold upv; rw [if_pos h, if_pos h']
theorem upv_up {d : D} (h : Right d.files) (h' : ¬ d.down = true) : upv d = 0 := by unfold upv; rw [if_pos h, if_neg h']
open Classical in
noncomputable def rdv (d : D) (b : ByteArray) : ByteArray × Int := if upv d = 0 then (match found d.files b with | some f => (f.data, 0) | none => (⟨#[]⟩, 7)) else (⟨#[]⟩, upv d)
noncomputable def crv (d : D) (ks : List Int) : D × Int := open Classical in if Right d.files then (⟨crashL ks d.files, false, -1, -1⟩, 0) else (zero, 6)

section
variable (w : World) (ad : Option Addr) (n cap : Nat) (down : Bool) (fuse fault : Int) (fs : List F) (k : Int) (nm dt : ByteArray) (z : Int)
/-- Do -/
theorem Do_any (h : DIn w ad n cap fuse fault fs) (hn : nm.size ≤ 9223372036854775807) (hd : dt.size ≤ 9223372036854775807) :
    Calls Try.prog 10 #[.agg (dcells (.slice ad n cap) down fuse fault), .agg (scells k nm dt z)] w fun e w' => DPost w (doo ⟨fs, down, fuse, fault⟩ ⟨k, nm, dt, z⟩) e w' := by
  unfold doo
  by_cases hR : Right fs
  · rw [if_pos hR]
    by_cases hk : 1 ≤ k ∧ k ≤ 5
    · rw [if_pos hk]
      have hk5 : k = 1 ∨ k = 2 ∨ k = 3 ∨ k = 4 ∨ k = 5 := by omega
      rcases hk5 with rfl | rfl | rfl | rfl | rfl
      · exact do_kind w ad n cap down fuse fault fs 1 nm dt z h.i hR 42 43 41 changeOf_1 (fun g base ad n cap fs => kind1 g base ad n cap fs nm dt z hn) h.f0 h.f1 h.u0 h.u1
      · exact do_kind w ad n cap down fuse fault fs 2 nm dt z h.i hR 44 45 45 changeOf_2 (fun g base ad n cap fs => kind2 g base ad n cap fs nm dt z hd) h.f0 h.f1 h.u0 h.u1
      · exact do_kind w ad n cap down fuse fault fs 3 nm dt z h.i hR 46 47 41 changeOf_3 (fun g base ad n cap fs => kind3 g base ad n cap fs nm dt z) h.f0 h.f1 h.u0 h.u1
      · exact do_kind w ad n cap down fuse fault fs 4 nm dt z h.i hR 48 49 41 changeOf_4 (fun g base ad n cap fs => kind4 g base ad n cap fs nm dt z) h.f0 h.f1 h.u0 h.u1
      · exact do_kind w ad n cap down fuse fault fs 5 nm dt z h.i hR 46 50 41 changeOf_5 (fun g base ad n cap fs => kind5 g base ad n cap fs nm dt z) h.f0 h.f1 h.u0 h.u1
    · rw [if_neg hk]
      exact do_none w ad n cap down fuse fault fs k nm dt z h.i hR (by omega) (by omega) (by omega) (by omega) (by omega)
  · rw [if_neg hR]
    exact do_bad w ad n cap down fuse fault fs k nm dt z h.i h.fit hR

set_option maxHeartbeats 1000000 in
theorem checkUp_any (h : DIn w ad n cap fuse fault fs) :
    Calls Try.prog 34 #[.agg (dcells (.slice ad n cap) down fuse fault)] w fun e w' => e = .returned (.int .i64 (upv ⟨fs, down, fuse, fault⟩)) ∧ Below w.heap.size w w' := by
  have hb0 := (Below.refl w.heap.size w).alloc (Nat.le_refl _) (.cells (dcells (.slice ad n cap) down fuse fault) 24)
  have h0 := h.under hb0
  have hx := blk_new w (.cells (dcells (.slice ad n cap) down fuse fault) 24)
  have Hb0 := Lib.hid hb0
  have Hx := Lib.hid hx
  by_cases hR : Right fs
  · have hc := check_ok _ ad cap n down fuse fault fs h0.i.1 h0.i.2.2.2 hR
    have Hc := Lib.hid hc
    have HR := Lib.hid hR
    clear hc hR h h0 hb0 hx
    cases down with
    | true =>
      rw [upv_down HR.out rfl]
      go_enter Try.func34, Try.ntmps34
      go_wp2_with fail
      refine (Hc.out).mono ?_
      rintro e w1 ⟨rfl, hb⟩
      obtain ⟨x0, x1, x2, x3⟩ := box4 ((hb.block w.heap.size (by simp)).trans Hx.out)
      have Hb := Lib.hid (Hb0.out.trans (hb.mono Hb0.out.size)); clear hb
      go_wp2
      go_ret
      exact ⟨rfl, Hb.out⟩
    | false =>
      rw [upv_up HR.out (by simp)]
      go_enter Try.func34, Try.ntmps34
      go_wp2_with fail
      refine (Hc.out).mono ?_
      rintro e w1 ⟨rfl, hb⟩
      obtain ⟨x0, x1, x2, x3⟩ := box4 ((hb.block w.heap.size (by simp)).trans Hx.out)
      have Hb := Lib.hid (Hb0.out.trans (hb.mono Hb0.out.size)); clear hb
      go_wp2
      go_ret
      exact ⟨rfl, Hb.out⟩
  · have hc := check_no _ ad cap n down fuse fault fs h0.i.1 h0.i.2.2.2 h.fit hR
    rw [upv_no hR]
    have Hc := Lib.hid hc
    clear hc hR h h0 hb0 hx
    go_enter Try.func34, Try.ntmps34
    go_wp2_with fail
    refine (Hc.out).mono ?_
    rintro e w1 ⟨rfl, hb⟩
    have Hb := Lib.hid (Hb0.out.trans (hb.mono Hb0.out.size)); clear hb
    go_wp2
    go_ret
    exact ⟨rfl, Hb.out⟩

set_option maxHeartbeats 2000000 in
theorem Read_any (h : DIn w ad n cap fuse fault fs) (hn : nm.size ≤ 9223372036854775807) :
    Calls Try.prog 13 #[.agg (dcells (.slice ad n cap) down fuse fault), .string nm] w fun e w' => e = .returned (.tuple #[.string (rdv ⟨fs, down, fuse, fault⟩ nm).1, .int .i64 (rdv ⟨fs, down, fuse, fault⟩ nm).2]) ∧ Below w.heap.size w w' := by
  obtain ⟨R, hRR⟩ : ∃ R, rdv ⟨fs, down, fuse, fault⟩ nm = R := ⟨_, rfl⟩
  rw [hRR]
  obtain ⟨rs, rc⟩ := R
  have hb0 := (Below.refl w.heap.size w).alloc (Nat.le_refl _) (.cells (dcells (.slice ad n cap) down fuse fault) 24)
  have h0 := h.under hb0
  have hx := blk_new w (.cells (dcells (.slice ad n cap) down fuse fault) 24)
  have Hb0 := Lib.hid hb0
  have Hx := Lib.hid hx
  have hup := checkUp_any _ ad n cap down fuse fault fs h0
  have H0 := Lib.hid h0
  unfold rdv at hRR
  by_cases hu : upv ⟨fs, down, fuse, fault⟩ = 0
  · rw [if_pos hu] at hRR
    rw [hu] at hup
    have hR : Right fs := by
      by_cases hR : Right fs
      · exact hR
      · rw [upv_no hR] at hu; cases hu
    have Hup := Lib.hid hup
    have HR := Lib.hid hR
    cases hf : found fs nm with
    | none =>
      rw [hf] at hRR
      injection hRR with e1 e2
      subst e1 e2
      have Hf := Lib.hid hf
      clear hup hR h h0 hb0 hx hu hf
      go_enter Try.func13, Try.ntmps13
      go_wp2_with fail
      refine (Hup.out).mono ?_
      rintro e w1 ⟨rfl, hb⟩
      obtain ⟨x0, x1, x2, x3⟩ := box4 ((hb.block w.heap.size (by simp)).trans Hx.out)
      have hi1 := (H0.out.under hb).i
      have hO : On (w1.alloc (.cells (dcells (.slice ad n cap) down fuse fault) 64)) w1.heap.size ad n cap down fuse fault fs := ⟨blk_new w1 _, hi1.1, (hi1.under ((Below.refl _ w1).alloc (Nat.le_refl _) _)).2.2.2, HR.out⟩
      have Hfile := Lib.hid (hO.file_no Hf.out)
      have Hb := Lib.hid ((Hb0.out.trans (hb.mono Hb0.out.size)).alloc (by have := Hb0.out.size; have := hb.size; simp at *; omega) (.cells (dcells (.slice ad n cap) down fuse fault) 64))
      clear hb hi1 hO
      go_wp2_with fail
      refine (Hfile.out).mono ?_
      rintro e w2 ⟨rfl, hb⟩
      have Hb2 := Lib.hid (Hb.out.trans (hb.mono Hb.out.size)); clear hb
      go_wp2
      go_ret2
      exact ⟨rfl, Hb2.out⟩
    | some f =>
      rw [hf] at hRR
      injection hRR with e1 e2
      subst e1 e2
      have Hf := Lib.hid hf
      obtain ⟨gb, off, rfl, _, _⟩ := h0.i.2.2.2 (List.ne_nil_of_mem (found_mem hf))
      clear hup hR h h0 hb0 hx hu hf
      go_enter Try.func13, Try.ntmps13
      go_wp2_with fail
      refine (Hup.out).mono ?_
      rintro e w1 ⟨rfl, hb⟩
      obtain ⟨x0, x1, x2, x3⟩ := box4 ((hb.block w.heap.size (by simp)).trans Hx.out)
      have hi1 := (H0.out.under hb).i
      have hO : On (w1.alloc (.cells (dcells (.slice (some ⟨gb, off, none⟩) n cap) down fuse fault) 64)) w1.heap.size (some ⟨gb, off, none⟩) n cap down fuse fault fs := ⟨blk_new w1 _, hi1.1, (hi1.under ((Below.refl _ w1).alloc (Nat.le_refl _) _)).2.2.2, HR.out⟩
      have Hfile := Lib.hid (file_yes _ w1.heap.size 64 (some ⟨gb, off, none⟩) cap n down fuse fault nm fs f hO.d hO.n hO.f hO.r Hf.out gb off rfl)
      obtain ⟨gb', off', e', hgb, hat⟩ := hO.isat Hf.out
      injection e' with e'
      injection e' with e1 e2
      subst e1 e2
      obtain ⟨P, hP⟩ : ∃ P, pos fs nm = P := ⟨_, rfl⟩
      rw [hP] at Hfile hat
      have Hat := Lib.hid hat
      have Hgb := Lib.hid hgb
      have Hb := Lib.hid ((Hb0.out.trans (hb.mono Hb0.out.size)).alloc (by have := Hb0.out.size; have := hb.size; simp at *; omega) (.cells (dcells (.slice (some ⟨gb, off, none⟩) n cap) down fuse fault) 64))
      clear hb hi1 hO hP hat hgb
      go_wp2_with fail
      refine (Hfile.out).mono ?_
      rintro e w2 ⟨rfl, hb⟩
      obtain ⟨q0, q1, q2⟩ := Hat.out.keep Hgb.out hb
      have Hb2 := Lib.hid (Hb.out.trans (hb.mono Hb.out.size)); clear hb
      go_wp2
      go_ret2
      exact ⟨rfl, Hb2.out⟩
  · rw [if_neg hu] at hRR
    injection hRR with e1 e2
    rw [e2] at hup hu
    subst e1
    have Hup := Lib.hid hup
    have hu1 : (rc == 0) = false := by simp [hu]
    clear hup h h0 hb0 hx e2
    go_enter Try.func13, Try.ntmps13
    go_wp2_with fail
    refine (Hup.out).mono ?_
    rintro e w1 ⟨rfl, hb⟩
    have Hb := Lib.hid (Hb0.out.trans (hb.mono Hb0.out.size)); clear hb
    go_wp2
    go_ret2
    exact ⟨rfl, Hb.out⟩

set_option maxHeartbeats 2000000 in
theorem Crash_any (h : DIn w ad n cap fuse fault fs) (adk : Option Addr) (nk capk : Nat) (ks : List Int) (hk : Ints w w.heap.size adk ks) (hnk : nk = ks.length) (hnk63 : nk ≤ 9223372036854775807) :
    Calls Try.prog 17 #[.agg (dcells (.slice ad n cap) down fuse fault), .slice adk nk capk] w fun e w' => DPost w (crv ⟨fs, down, fuse, fault⟩ ks) e w' := by
  have hb0 : Below w.heap.size w ((w.alloc (.cells (dcells (.slice ad n cap) down fuse fault) 24)).alloc (.cells (dcells (.slice none 0 0) false 0 0) 24)) := ((Below.refl _ w).alloc (Nat.le_refl _) _).alloc (by simp) _
  have h0 := h.under hb0
  have Hb0 := Lib.hid hb0
  have hx : ((w.alloc (.cells (dcells (.slice ad n cap) down fuse fault) 24)).alloc (.cells (dcells (.slice none 0 0) false 0 0) 24)).heap[w.heap.size]? = some (.cells (dcells (.slice ad n cap) down fuse fault) 24) := blk_alloc (blk_new w _) _
  have hq : ((w.alloc (.cells (dcells (.slice ad n cap) down fuse fault) 24)).alloc (.cells (dcells (.slice none 0 0) false 0 0) 24)).heap[w.heap.size + 1]? = some (.cells (dcells (.slice none 0 0) false 0 0) 24) := by
    have := blk_new (w.alloc (.cells (dcells (.slice ad n cap) down fuse fault) 24)) (.cells (dcells (.slice none 0 0) false 0 0) 24)
    simpa using this
  have Hx := Lib.hid hx
  have Hq := Lib.hid hq
  unfold crv
  by_cases hR : Right fs
  · rw [if_pos hR]
    have hc := check_ok _ ad cap n down fuse fault fs h0.i.1 h0.i.2.2.2 hR
    have h64 : n ≤ 64 := by rw [h.i.1]; exact hR.1
    have Hc := Lib.hid hc
    have HR := Lib.hid hR
    have H0 := Lib.hid h0
    have Hk := Lib.hid hk
    have Hnk := Lib.hid hnk
    clear hc hR h h0 hb0 hx hq hk hnk
    go_enter Try.func17, Try.ntmps17
    go_wp2_with fail
    refine (Hc.out).mono ?_
    rintro e w1 ⟨rfl, hb⟩
    have hX1 := (hb.block _ (Array.getElem?_eq_some_iff.1 Hx.out).1).trans Hx.out
    have hQ1 := (hb.block _ (Array.getElem?_eq_some_iff.1 Hq.out).1).trans Hq.out
    obtain ⟨x0, x1, x2, x3⟩ := box4 hX1
    have HQ1 := Lib.hid hQ1
    have Hb1 := Lib.hid (Hb0.out.trans (hb.mono Hb0.out.size))
    have hbg := begin_any w1 ad cap n down fuse fault fs (H0.out.under hb).i (by omega)
    have Hbg := Lib.hid hbg
    have hq1 := (Array.getElem?_eq_some_iff.1 hQ1).1
    have Hq1 := Lib.hid hq1
    clear hb hX1 hQ1 hbg hq1
    go_wp2_with fail
    refine (Hbg.out).mono ?_
    rintro e w2 ⟨g, v, rfl, hD, hr, hfar, hg, hb⟩
    obtain ⟨ad1, cap1, hv, hi2⟩ := Inp.of_row hr
    subst hv
    have hO : Own w2 g w1.heap.size ad1 fs.length cap1 down fuse fault fs := ⟨⟨hD, rfl, hi2.2.2.2, HR.out⟩, hr, hfar, hb.size, hg⟩
    have Hb2 := Lib.hid (Hb1.out.trans (hb.mono Hb1.out.size))
    have HQ2 := Lib.hid ((hb.block _ Hq1.out).trans HQ1.out)
    have hcr := crash_any w2 g w1.heap.size ad1 fs.length cap1 down fuse fault fs adk nk capk ks hO (((Hk.out.keep Hb1.out).mono Hb1.out.size).keep hb) Hnk.out hnk63
    have Hcr := Lib.hid hcr
    have Hgq := Lib.hid (show g ≠ w.heap.size + 1 by have := Hq1.out; omega)
    clear x0 x1 x2 x3 hD hr hfar hg hb hi2 hO hcr
    go_wp2_with fail
    refine (Hcr.out).mono ?_
    rintro e w3 ⟨rfl, hB⟩
    obtain ⟨ad2, n2, cap2, hD3, hi3, hb3, hf3⟩ := hB
    have hQ3 : Dk w3 (w.heap.size + 1) 24 (.slice none 0 0) false 0 0 := (hb3.block _ Hq1.out).trans HQ2.out
    have Hb3 := Lib.hid (Hb2.out.trans (hb3.mono Hb1.out.size))
    have Hin := Lib.hid (show (Value.slice ad2 n2 cap2).ownBlock ≠ some (w.heap.size + 1) from fun e => by have := hf3 _ e; have := Hq1.out; omega)
    have Hi := Lib.hid hi3
    have Hfar := Lib.hid hf3
    obtain ⟨⟨d0, d1, d2, d3⟩, _⟩ := hD3.facts
    obtain ⟨⟨e0, e1, e2, e3⟩, g0, g1, g2, g3⟩ := hQ3.facts
    have HQ := Lib.hid hQ3
    have hgq := Hgq.out
    have hlt3 := hD3.lt
    have hlt4 := hQ3.lt
    clear hD3 hi3 hb3 hf3 hQ3
    go_wp2
    have hQ6 := (((HQ.out.set0 (.slice ad2 n2 cap2)).set1 false).set2 (-1)).set3 (-1)
    obtain ⟨⟨r0, r1, r2, r3⟩, _⟩ := hQ6.facts
    refine bodyPost_ret (v := .tuple #[.agg (dcells (.slice ad2 n2 cap2) false (-1) (-1)), .int .i64 0]) (by simp [results, Try.results17, go_sem, r0, r1, r2, r3]) rfl ?_
    have hq := Hin.out
    refine ⟨ad2, _, cap2, rfl, ?_, ?_, fun b hb => Nat.le_trans Hb1.out.size (Hfar.out b hb)⟩
    · exact (Inp.set (Inp.set (Inp.set (Inp.set Hi.out hq) hq) hq) hq).mono (by simp [World.setCell])
    · exact (((Hb3.out.setCell (p := ⟨w.heap.size + 1, 0, none⟩) (by simp) _).setCell (p := ⟨w.heap.size + 1, 1, none⟩) (by simp) _).setCell (p := ⟨w.heap.size + 1, 2, none⟩) (by simp) _).setCell (p := ⟨w.heap.size + 1, 3, none⟩) (by simp) _
  · rw [if_neg hR]
    have hc := check_no _ ad cap n down fuse fault fs h0.i.1 h0.i.2.2.2 h.fit hR
    have Hc := Lib.hid hc
    clear hc hR h h0 hb0 hx hq hk hnk
    go_enter Try.func17, Try.ntmps17
    go_wp2_with fail
    refine (Hc.out).mono ?_
    rintro e w1 ⟨rfl, hb⟩
    have hD : Dk w1 (w.heap.size + 1) 24 (.slice none 0 0) false 0 0 := (hb.block _ (Array.getElem?_eq_some_iff.1 Hq.out).1).trans Hq.out
    obtain ⟨⟨d0, d1, d2, d3⟩, f0, f1, f2, f3⟩ := hD.facts
    have Hb := Lib.hid (Hb0.out.trans (hb.mono Hb0.out.size))
    clear hb hD
    go_wp2
    refine bodyPost_ret (v := .tuple #[.agg (dcells (.slice none 0 0) false 0 0), .int .i64 6]) (by simp [results, Try.results17, go_sem, d0, d1, d2, d3]) rfl ?_
    refine ⟨none, 0, 0, rfl, Inp.nil _ _, ?_, (fun b hb => by simp [Value.ownBlock] at hb)⟩
    exact (((Hb.out.setCell (p := ⟨w.heap.size + 1, 0, none⟩) (by simp) _).setCell (p := ⟨w.heap.size + 1, 1, none⟩) (by simp) _).setCell (p := ⟨w.heap.size + 1, 2, none⟩) (by simp) _).setCell (p := ⟨w.heap.size + 1, 3, none⟩) (by simp) _

set_option maxHeartbeats 2000000 in
theorem call24_any (h : DIn w ad n cap fuse fault fs) (hn : nm.size ≤ 9223372036854775807) (hd : dt.size ≤ 9223372036854775807) :
    Calls Try.prog 24 #[.agg (dcells (.slice ad n cap) down fuse fault), .string nm, .string dt] w fun e w' => DPost w (doo ⟨fs, down, fuse, fault⟩ ⟨2, nm, dt, 0⟩) e w' := by
  obtain ⟨R, hRR⟩ : ∃ R, doo ⟨fs, down, fuse, fault⟩ ⟨2, nm, dt, 0⟩ = R := ⟨_, rfl⟩
  rw [hRR]
  have hb0 : Below w.heap.size w ((w.alloc (.cells (dcells (.slice ad n cap) down fuse fault) 24)).alloc (.cells (dcells (.slice none 0 0) false 0 0) 24)) := ((Below.refl _ w).alloc (Nat.le_refl _) _).alloc (by simp) _
  have hdo := Do_any _ ad n cap down fuse fault fs 2 nm dt 0 (h.under hb0) hn hd
  rw [hRR] at hdo
  have Hdo := Lib.hid hdo
  have Hb0 := Lib.hid hb0
  have hq := blk_new (w.alloc (.cells (dcells (.slice ad n cap) down fuse fault) 24)) (.cells (dcells (.slice none 0 0) false 0 0) 24)
  have Hq := Lib.hid hq
  obtain ⟨⟨fl', dn', fu', fa'⟩, code⟩ := R
  clear h hRR hb0 hdo hq
  go_enter Try.func24, Try.ntmps24
  go_wp2_with fail
  refine (Hdo.out).mono ?_
  rintro e w1 ⟨ad2, n2, cap2, rfl, hi, hb, hfar⟩
  have hQ : Dk w1 (w.heap.size + 1) 24 (.slice none 0 0) false 0 0 := by
    have := (hb.block _ (Array.getElem?_eq_some_iff.1 Hq.out).1).trans Hq.out
    simpa [Dk] using this
  simp only at hi
  have hin : (Value.slice ad2 n2 cap2).ownBlock ≠ some (w.heap.size + 1) := fun e => by have := hfar _ e; simp at this; omega
  have Hfar := Lib.hid hfar
  clear hfar
  have Hb := Lib.hid (Hb0.out.trans (hb.mono Hb0.out.size))
  have Hi := Lib.hid hi
  have Hin := Lib.hid hin
  obtain ⟨⟨e0, e1, e2, e3⟩, g0, g1, g2, g3⟩ := hQ.facts
  have HQ := Lib.hid hQ
  clear hb hi hin hQ
  go_wp2
  have hQ6 := (((HQ.out.set0 (.slice ad2 n2 cap2)).set1 dn').set2 fu').set3 fa'
  obtain ⟨⟨r0, r1, r2, r3⟩, _⟩ := hQ6.facts
  refine bodyPost_ret (v := .tuple #[.agg (dcells (.slice ad2 n2 cap2) dn' fu' fa'), .int .i64 code]) (by simp [results, Try.results24, go_sem, r0, r1, r2, r3]) rfl ?_
  have hq := Hin.out
  refine ⟨ad2, _, cap2, rfl, ?_, ?_, fun b hb => by have := Hfar.out b hb; simp at this; omega⟩
  · exact (Inp.set (Inp.set (Inp.set (Inp.set Hi.out hq) hq) hq) hq).mono (by simp [World.setCell])
  · exact (((Hb.out.setCell (p := ⟨w.heap.size + 1, 0, none⟩) (by simp) _).setCell (p := ⟨w.heap.size + 1, 1, none⟩) (by simp) _).setCell (p := ⟨w.heap.size + 1, 2, none⟩) (by simp) _).setCell (p := ⟨w.heap.size + 1, 3, none⟩) (by simp) _

set_option maxHeartbeats 2000000 in
theorem call32_any (h : DIn w ad n cap fuse fault fs) (hn : nm.size ≤ 9223372036854775807) (hd : dt.size ≤ 9223372036854775807) :
    Calls Try.prog 32 #[.agg (dcells (.slice ad n cap) down fuse fault), .string nm] w fun e w' => DPost w (doo ⟨fs, down, fuse, fault⟩ ⟨1, nm, ⟨#[]⟩, 0⟩) e w' := by
  obtain ⟨R, hRR⟩ : ∃ R, doo ⟨fs, down, fuse, fault⟩ ⟨1, nm, ⟨#[]⟩, 0⟩ = R := ⟨_, rfl⟩
  rw [hRR]
  have hb0 : Below w.heap.size w ((w.alloc (.cells (dcells (.slice ad n cap) down fuse fault) 24)).alloc (.cells (dcells (.slice none 0 0) false 0 0) 24)) := ((Below.refl _ w).alloc (Nat.le_refl _) _).alloc (by simp) _
  have hdo := Do_any _ ad n cap down fuse fault fs 1 nm ⟨#[]⟩ 0 (h.under hb0) hn (by simp [ByteArray.size])
  rw [hRR] at hdo
  have Hdo := Lib.hid hdo
  have Hb0 := Lib.hid hb0
  have hq := blk_new (w.alloc (.cells (dcells (.slice ad n cap) down fuse fault) 24)) (.cells (dcells (.slice none 0 0) false 0 0) 24)
  have Hq := Lib.hid hq
  obtain ⟨⟨fl', dn', fu', fa'⟩, code⟩ := R
  clear h hRR hb0 hdo hq
  go_enter Try.func32, Try.ntmps32
  go_wp2_with fail
  refine (Hdo.out).mono ?_
  rintro e w1 ⟨ad2, n2, cap2, rfl, hi, hb, hfar⟩
  have hQ : Dk w1 (w.heap.size + 1) 24 (.slice none 0 0) false 0 0 := by
    have := (hb.block _ (Array.getElem?_eq_some_iff.1 Hq.out).1).trans Hq.out
    simpa [Dk] using this
  simp only at hi
  have hin : (Value.slice ad2 n2 cap2).ownBlock ≠ some (w.heap.size + 1) := fun e => by have := hfar _ e; simp at this; omega
  have Hfar := Lib.hid hfar
  clear hfar
  have Hb := Lib.hid (Hb0.out.trans (hb.mono Hb0.out.size))
  have Hi := Lib.hid hi
  have Hin := Lib.hid hin
  obtain ⟨⟨e0, e1, e2, e3⟩, g0, g1, g2, g3⟩ := hQ.facts
  have HQ := Lib.hid hQ
  clear hb hi hin hQ
  go_wp2
  have hQ6 := (((HQ.out.set0 (.slice ad2 n2 cap2)).set1 dn').set2 fu').set3 fa'
  obtain ⟨⟨r0, r1, r2, r3⟩, _⟩ := hQ6.facts
  refine bodyPost_ret (v := .tuple #[.agg (dcells (.slice ad2 n2 cap2) dn' fu' fa'), .int .i64 code]) (by simp [results, Try.results32, go_sem, r0, r1, r2, r3]) rfl ?_
  have hq := Hin.out
  refine ⟨ad2, _, cap2, rfl, ?_, ?_, fun b hb => by have := Hfar.out b hb; simp at this; omega⟩
  · exact (Inp.set (Inp.set (Inp.set (Inp.set Hi.out hq) hq) hq) hq).mono (by simp [World.setCell])
  · exact (((Hb.out.setCell (p := ⟨w.heap.size + 1, 0, none⟩) (by simp) _).setCell (p := ⟨w.heap.size + 1, 1, none⟩) (by simp) _).setCell (p := ⟨w.heap.size + 1, 2, none⟩) (by simp) _).setCell (p := ⟨w.heap.size + 1, 3, none⟩) (by simp) _

set_option maxHeartbeats 2000000 in
theorem call33_any (h : DIn w ad n cap fuse fault fs) (hn : nm.size ≤ 9223372036854775807) (hd : dt.size ≤ 9223372036854775807) :
    Calls Try.prog 33 #[.agg (dcells (.slice ad n cap) down fuse fault), .string nm] w fun e w' => DPost w (doo ⟨fs, down, fuse, fault⟩ ⟨3, nm, ⟨#[]⟩, 0⟩) e w' := by
  obtain ⟨R, hRR⟩ : ∃ R, doo ⟨fs, down, fuse, fault⟩ ⟨3, nm, ⟨#[]⟩, 0⟩ = R := ⟨_, rfl⟩
  rw [hRR]
  have hb0 : Below w.heap.size w ((w.alloc (.cells (dcells (.slice ad n cap) down fuse fault) 24)).alloc (.cells (dcells (.slice none 0 0) false 0 0) 24)) := ((Below.refl _ w).alloc (Nat.le_refl _) _).alloc (by simp) _
  have hdo := Do_any _ ad n cap down fuse fault fs 3 nm ⟨#[]⟩ 0 (h.under hb0) hn (by simp [ByteArray.size])
  rw [hRR] at hdo
  have Hdo := Lib.hid hdo
  have Hb0 := Lib.hid hb0
  have hq := blk_new (w.alloc (.cells (dcells (.slice ad n cap) down fuse fault) 24)) (.cells (dcells (.slice none 0 0) false 0 0) 24)
  have Hq := Lib.hid hq
  obtain ⟨⟨fl', dn', fu', fa'⟩, code⟩ := R
  clear h hRR hb0 hdo hq
  go_enter Try.func33, Try.ntmps33
  go_wp2_with fail
  refine (Hdo.out).mono ?_
  rintro e w1 ⟨ad2, n2, cap2, rfl, hi, hb, hfar⟩
  have hQ : Dk w1 (w.heap.size + 1) 24 (.slice none 0 0) false 0 0 := by
    have := (hb.block _ (Array.getElem?_eq_some_iff.1 Hq.out).1).trans Hq.out
    simpa [Dk] using this
  simp only at hi
  have hin : (Value.slice ad2 n2 cap2).ownBlock ≠ some (w.heap.size + 1) := fun e => by have := hfar _ e; simp at this; omega
  have Hfar := Lib.hid hfar
  clear hfar
  have Hb := Lib.hid (Hb0.out.trans (hb.mono Hb0.out.size))
  have Hi := Lib.hid hi
  have Hin := Lib.hid hin
  obtain ⟨⟨e0, e1, e2, e3⟩, g0, g1, g2, g3⟩ := hQ.facts
  have HQ := Lib.hid hQ
  clear hb hi hin hQ
  go_wp2
  have hQ6 := (((HQ.out.set0 (.slice ad2 n2 cap2)).set1 dn').set2 fu').set3 fa'
  obtain ⟨⟨r0, r1, r2, r3⟩, _⟩ := hQ6.facts
  refine bodyPost_ret (v := .tuple #[.agg (dcells (.slice ad2 n2 cap2) dn' fu' fa'), .int .i64 code]) (by simp [results, Try.results33, go_sem, r0, r1, r2, r3]) rfl ?_
  have hq := Hin.out
  refine ⟨ad2, _, cap2, rfl, ?_, ?_, fun b hb => by have := Hfar.out b hb; simp at this; omega⟩
  · exact (Inp.set (Inp.set (Inp.set (Inp.set Hi.out hq) hq) hq) hq).mono (by simp [World.setCell])
  · exact (((Hb.out.setCell (p := ⟨w.heap.size + 1, 0, none⟩) (by simp) _).setCell (p := ⟨w.heap.size + 1, 1, none⟩) (by simp) _).setCell (p := ⟨w.heap.size + 1, 2, none⟩) (by simp) _).setCell (p := ⟨w.heap.size + 1, 3, none⟩) (by simp) _

set_option maxHeartbeats 2000000 in
theorem call25_any (h : DIn w ad n cap fuse fault fs) (hn : nm.size ≤ 9223372036854775807) (hd : dt.size ≤ 9223372036854775807) :
    Calls Try.prog 25 #[.agg (dcells (.slice ad n cap) down fuse fault), .string nm, .int .i64 z] w fun e w' => DPost w (doo ⟨fs, down, fuse, fault⟩ ⟨4, nm, ⟨#[]⟩, z⟩) e w' := by
  obtain ⟨R, hRR⟩ : ∃ R, doo ⟨fs, down, fuse, fault⟩ ⟨4, nm, ⟨#[]⟩, z⟩ = R := ⟨_, rfl⟩
  rw [hRR]
  have hb0 : Below w.heap.size w ((w.alloc (.cells (dcells (.slice ad n cap) down fuse fault) 24)).alloc (.cells (dcells (.slice none 0 0) false 0 0) 24)) := ((Below.refl _ w).alloc (Nat.le_refl _) _).alloc (by simp) _
  have hdo := Do_any _ ad n cap down fuse fault fs 4 nm ⟨#[]⟩ z (h.under hb0) hn (by simp [ByteArray.size])
  rw [hRR] at hdo
  have Hdo := Lib.hid hdo
  have Hb0 := Lib.hid hb0
  have hq := blk_new (w.alloc (.cells (dcells (.slice ad n cap) down fuse fault) 24)) (.cells (dcells (.slice none 0 0) false 0 0) 24)
  have Hq := Lib.hid hq
  obtain ⟨⟨fl', dn', fu', fa'⟩, code⟩ := R
  clear h hRR hb0 hdo hq
  go_enter Try.func25, Try.ntmps25
  go_wp2_with fail
  refine (Hdo.out).mono ?_
  rintro e w1 ⟨ad2, n2, cap2, rfl, hi, hb, hfar⟩
  have hQ : Dk w1 (w.heap.size + 1) 24 (.slice none 0 0) false 0 0 := by
    have := (hb.block _ (Array.getElem?_eq_some_iff.1 Hq.out).1).trans Hq.out
    simpa [Dk] using this
  simp only at hi
  have hin : (Value.slice ad2 n2 cap2).ownBlock ≠ some (w.heap.size + 1) := fun e => by have := hfar _ e; simp at this; omega
  have Hfar := Lib.hid hfar
  clear hfar
  have Hb := Lib.hid (Hb0.out.trans (hb.mono Hb0.out.size))
  have Hi := Lib.hid hi
  have Hin := Lib.hid hin
  obtain ⟨⟨e0, e1, e2, e3⟩, g0, g1, g2, g3⟩ := hQ.facts
  have HQ := Lib.hid hQ
  clear hb hi hin hQ
  go_wp2
  have hQ6 := (((HQ.out.set0 (.slice ad2 n2 cap2)).set1 dn').set2 fu').set3 fa'
  obtain ⟨⟨r0, r1, r2, r3⟩, _⟩ := hQ6.facts
  refine bodyPost_ret (v := .tuple #[.agg (dcells (.slice ad2 n2 cap2) dn' fu' fa'), .int .i64 code]) (by simp [results, Try.results25, go_sem, r0, r1, r2, r3]) rfl ?_
  have hq := Hin.out
  refine ⟨ad2, _, cap2, rfl, ?_, ?_, fun b hb => by have := Hfar.out b hb; simp at this; omega⟩
  · exact (Inp.set (Inp.set (Inp.set (Inp.set Hi.out hq) hq) hq) hq).mono (by simp [World.setCell])
  · exact (((Hb.out.setCell (p := ⟨w.heap.size + 1, 0, none⟩) (by simp) _).setCell (p := ⟨w.heap.size + 1, 1, none⟩) (by simp) _).setCell (p := ⟨w.heap.size + 1, 2, none⟩) (by simp) _).setCell (p := ⟨w.heap.size + 1, 3, none⟩) (by simp) _

set_option maxHeartbeats 2000000 in
theorem call26_any (h : DIn w ad n cap fuse fault fs) (hn : nm.size ≤ 9223372036854775807) (hd : dt.size ≤ 9223372036854775807) :
    Calls Try.prog 26 #[.agg (dcells (.slice ad n cap) down fuse fault), .string nm] w fun e w' => DPost w (doo ⟨fs, down, fuse, fault⟩ ⟨5, nm, ⟨#[]⟩, 0⟩) e w' := by
  obtain ⟨R, hRR⟩ : ∃ R, doo ⟨fs, down, fuse, fault⟩ ⟨5, nm, ⟨#[]⟩, 0⟩ = R := ⟨_, rfl⟩
  rw [hRR]
  have hb0 : Below w.heap.size w ((w.alloc (.cells (dcells (.slice ad n cap) down fuse fault) 24)).alloc (.cells (dcells (.slice none 0 0) false 0 0) 24)) := ((Below.refl _ w).alloc (Nat.le_refl _) _).alloc (by simp) _
  have hdo := Do_any _ ad n cap down fuse fault fs 5 nm ⟨#[]⟩ 0 (h.under hb0) hn (by simp [ByteArray.size])
  rw [hRR] at hdo
  have Hdo := Lib.hid hdo
  have Hb0 := Lib.hid hb0
  have hq := blk_new (w.alloc (.cells (dcells (.slice ad n cap) down fuse fault) 24)) (.cells (dcells (.slice none 0 0) false 0 0) 24)
  have Hq := Lib.hid hq
  obtain ⟨⟨fl', dn', fu', fa'⟩, code⟩ := R
  clear h hRR hb0 hdo hq
  go_enter Try.func26, Try.ntmps26
  go_wp2_with fail
  refine (Hdo.out).mono ?_
  rintro e w1 ⟨ad2, n2, cap2, rfl, hi, hb, hfar⟩
  have hQ : Dk w1 (w.heap.size + 1) 24 (.slice none 0 0) false 0 0 := by
    have := (hb.block _ (Array.getElem?_eq_some_iff.1 Hq.out).1).trans Hq.out
    simpa [Dk] using this
  simp only at hi
  have hin : (Value.slice ad2 n2 cap2).ownBlock ≠ some (w.heap.size + 1) := fun e => by have := hfar _ e; simp at this; omega
  have Hfar := Lib.hid hfar
  clear hfar
  have Hb := Lib.hid (Hb0.out.trans (hb.mono Hb0.out.size))
  have Hi := Lib.hid hi
  have Hin := Lib.hid hin
  obtain ⟨⟨e0, e1, e2, e3⟩, g0, g1, g2, g3⟩ := hQ.facts
  have HQ := Lib.hid hQ
  clear hb hi hin hQ
  go_wp2
  have hQ6 := (((HQ.out.set0 (.slice ad2 n2 cap2)).set1 dn').set2 fu').set3 fa'
  obtain ⟨⟨r0, r1, r2, r3⟩, _⟩ := hQ6.facts
  refine bodyPost_ret (v := .tuple #[.agg (dcells (.slice ad2 n2 cap2) dn' fu' fa'), .int .i64 code]) (by simp [results, Try.results26, go_sem, r0, r1, r2, r3]) rfl ?_
  have hq := Hin.out
  refine ⟨ad2, _, cap2, rfl, ?_, ?_, fun b hb => by have := Hfar.out b hb; simp at this; omega⟩
  · exact (Inp.set (Inp.set (Inp.set (Inp.set Hi.out hq) hq) hq) hq).mono (by simp [World.setCell])
  · exact (((Hb.out.setCell (p := ⟨w.heap.size + 1, 0, none⟩) (by simp) _).setCell (p := ⟨w.heap.size + 1, 1, none⟩) (by simp) _).setCell (p := ⟨w.heap.size + 1, 2, none⟩) (by simp) _).setCell (p := ⟨w.heap.size + 1, 3, none⟩) (by simp) _

end
end Go.Proofs.Ytcefhcailhediaa
