/- THE WALKS OVER the document's Check and find. -/
import Derived.Test.YtcefhcailhediaaSam
import Derived.Test.YtcefhcailhediaaMth
namespace Go.Proofs.Ytcefhcailhediaa
open Go.RowKit
set_option linter.unusedVariables false
set_option linter.unusedSimpArgs false

theorem dcheck_long (w : World) (ad : Option Addr) (cap n : Nat) (down : Bool) (fuse fault : Int) (h : 64 < n) :
    Calls Try.prog 23 #[.agg (dcells (.slice ad n cap) down fuse fault)] w fun e w' => e = .returned (.int .i64 6) ∧ Below w.heap.size w w' := by
  go_enter Try.func23, Try.ntmps23
  go_wp2
  go_ret
  exact ⟨rfl, (Below.refl _ _).alloc (Nat.le_refl _) _⟩

set_option maxHeartbeats 8000000 in
theorem dcheck_short (w : World) (ad : Option Addr) (cap n : Nat) (down : Bool) (fuse fault : Int) (fs : List F) (r : Int) (hn : n = fs.length) (h64 : n ≤ 64) (hf : Fls w w.heap.size ad fs) (hfit : ∀ f ∈ fs, Fit f)
    (hr0 : Right fs → r = 0) (hr6 : ¬ Right fs → r = 6) :
    Calls Try.prog 23 #[.agg (dcells (.slice ad n cap) down fuse fault)] w fun e w' => e = .returned (.int .i64 r) ∧ Below w.heap.size w w' := by
  have h64' : ¬ 64 < n := by omega
  have Hr0 := Lib.hid hr0; clear hr0
  have Hr6' := Lib.hid hr6; clear hr6
  have Hn := Lib.hid hn; clear hn
  have Hf := Lib.hid hf; clear hf
  have Hfit := Lib.hid hfit; clear hfit
  go_enter Try.func23, Try.ntmps23
  go_wp2
  go_loopw [12] (fun i wr => ∃ (k : Nat), i = .int .i64 (k : Int) ∧ k ≤ n ∧ Below w.heap.size w wr ∧ Dk wr w.heap.size 24 (.slice ad n cap) down fuse fault ∧ GoodTo fs k) (fun i _ => n - (intOf i).toNat)
  case atStart => exact ⟨0, rfl, by omega, (Below.refl _ _).alloc (Nat.le_refl _) _, blk_new w _, fun i hi => by omega⟩
  case round =>
    obtain ⟨k, rfl, hk, hbel, hD, hG⟩ := hrel
    obtain ⟨⟨d0, d1, d2, d3⟩, _⟩ := hD.facts
    have Hbel := Lib.hid hbel; clear hbel
    have HD := Lib.hid hD; clear hD
    have HG := Lib.hid hG; clear hG
    by_cases hlt : k < n
    · have hne : fs ≠ [] := by rintro rfl; have := Hn.out; simp at this; omega
      obtain ⟨g, off, rfl, hg, hi⟩ := (Hf.out.keep Hbel.out) hne
      obtain ⟨f, hf⟩ : ∃ f, fs[k]? = some f := ⟨fs[k]'(by have := Hn.out; omega), by simp⟩
      obtain ⟨q0, q1, q2⟩ := hi k f hf
      obtain ⟨ft1, ft2, ft3, ft4⟩ := Hfit.out f (List.mem_of_getElem? hf)
      have hkn : (k : Int) < (n : Int) := by omega
      have hk0 : (0 : Int) ≤ (k : Int) := by omega
      have hkl : k < fs.length := by have := Hn.out; omega
      have Hbad := Lib.hid (show ¬ okF f → r = 6 from fun h => Hr6'.out (fun hR => h (hR.2 k hkl f hf).1))
      have hal := (Below.refl wr.heap.size wr).alloc (Nat.le_refl _) (.cells (fcells f.name f.data f.syn) 46)
      have Hb2 := Lib.hid (Hbel.out.trans (hal.mono Hbel.out.size))
      have HD2 := Lib.hid (show Dk (wr.alloc (.cells (fcells f.name f.data f.syn) 46)) w.heap.size 24 (.slice (some ⟨g, off, none⟩) n cap) down fuse fault from blk_alloc HD.out _)
      clear hal
      by_cases c1 : f.name.size = 0
      · have e1 : f.name.toList = [] := by rw [size_eq c1, nil_list]
        have e2 : f.name.toList.isEmpty = true := by rw [e1]; rfl
        have Hr := Lib.hid (Hbad.out (fun h => by obtain ⟨⟨g1, g2⟩, g3, g4, g5⟩ := h; omega))
        clear hi hf
        go_wp2
        go_quiet (fail)
        go_wp2
        go_ret
        exact ⟨ret_int Hr.out.symm, below_drewN Hb2.out _⟩
      · have e1 : ¬ f.name.toList = [] := fun h => c1 (nil_of_empty h)
        have e2 : f.name.toList.isEmpty = false := by rw [Bool.eq_false_iff]; intro h; exact e1 (List.isEmpty_iff.1 h)
        by_cases c2 : 4096 < f.name.size
        · have n2a : (4096 < f.name.size) := by omega
          have n2b : ((4096 : Int) < (f.name.size : Int)) := by omega
          have n2c : decide (4096 < f.name.size) = true := decide_eq_true n2a
          have n2d : decide ((4096 : Int) < (f.name.size : Int)) = true := decide_eq_true n2b
          have Hr := Lib.hid (Hbad.out (fun h => by obtain ⟨⟨g1, g2⟩, g3, g4, g5⟩ := h; omega))
          clear hi hf
          go_wp2
          go_quiet (fail)
          go_wp2
          go_ret
          exact ⟨ret_int Hr.out.symm, below_drewN Hb2.out _⟩
        · have n2a : ¬ (4096 < f.name.size) := by omega
          have n2b : ¬ ((4096 : Int) < (f.name.size : Int)) := by omega
          have n2c : decide (4096 < f.name.size) = false := decide_eq_false n2a
          have n2d : decide ((4096 : Int) < (f.name.size : Int)) = false := decide_eq_false n2b
          by_cases c3 : 262144 < f.data.size
          · have n3a : (262144 < f.data.size) := by omega
            have n3b : ((262144 : Int) < (f.data.size : Int)) := by omega
            have n3c : decide (262144 < f.data.size) = true := decide_eq_true n3a
            have n3d : decide ((262144 : Int) < (f.data.size : Int)) = true := decide_eq_true n3b
            have Hr := Lib.hid (Hbad.out (fun h => by obtain ⟨⟨g1, g2⟩, g3, g4, g5⟩ := h; omega))
            clear hi hf
            go_wp2
            go_quiet (fail)
            go_wp2
            go_ret
            exact ⟨ret_int Hr.out.symm, below_drewN Hb2.out _⟩
          · have n3a : ¬ (262144 < f.data.size) := by omega
            have n3b : ¬ ((262144 : Int) < (f.data.size : Int)) := by omega
            have n3c : decide (262144 < f.data.size) = false := decide_eq_false n3a
            have n3d : decide ((262144 : Int) < (f.data.size : Int)) = false := decide_eq_false n3b
            by_cases c4 : f.syn < 0
            · have n4b : ((f.syn : Int) < (0 : Int)) := by omega
              have n4d : decide ((f.syn : Int) < (0 : Int)) = true := decide_eq_true n4b
              have Hr := Lib.hid (Hbad.out (fun h => by obtain ⟨⟨g1, g2⟩, g3, g4, g5⟩ := h; omega))
              clear hi hf
              go_wp2
              go_quiet (fail)
              go_wp2
              go_ret
              exact ⟨ret_int Hr.out.symm, below_drewN Hb2.out _⟩
            · have n4b : ¬ ((f.syn : Int) < (0 : Int)) := by omega
              have n4d : decide ((f.syn : Int) < (0 : Int)) = false := decide_eq_false n4b
              by_cases c5 : (f.data.size : Int) < f.syn
              · have n5b : ((f.data.size : Int) < (f.syn : Int)) := by omega
                have n5d : decide ((f.data.size : Int) < (f.syn : Int)) = true := decide_eq_true n5b
                have Hr := Lib.hid (Hbad.out (fun h => by obtain ⟨⟨g1, g2⟩, g3, g4, g5⟩ := h; omega))
                clear hi hf
                go_wp2
                go_quiet (fail)
                go_wp2
                go_ret
                exact ⟨ret_int Hr.out.symm, below_drewN Hb2.out _⟩
              · have n5b : ¬ ((f.data.size : Int) < (f.syn : Int)) := by omega
                have n5d : decide ((f.data.size : Int) < (f.syn : Int)) = false := decide_eq_false n5b
                have Hok := Lib.hid (show okF f from ⟨⟨by omega, by omega⟩, by omega, by omega, by omega⟩)
                by_cases k0 : k = 0
                · have HG1 := Lib.hid (HG.out.succ (fun f' hf' => by rw [hf] at hf'; injection hf' with e; subst e; exact ⟨Hok.out, fun p h0 => absurd h0 (by omega)⟩))
                  subst k0
                  simp only [Nat.zero_mul, Nat.add_zero] at q0 q1 q2
                  clear hi hf
                  go_wp2
                  go_quiet (fail)
                  go_wp2
                  go_roundw
                  case rel => exact ⟨1, by go_num, by omega, below_drewN Hb2.out _, (by exact HD2.out), HG1.out⟩
                  case measure => simp [intOf]; omega
                · obtain ⟨p, hp⟩ : ∃ p, fs[k - 1]? = some p := ⟨fs[k - 1]'(by omega), by simp⟩
                  have hq := (hi (k - 1) p hp).q0
                  have hlD : w.heap.size < wr.heap.size := HD.out.lt
                  have hglt : g < wr.heap.size := World.block_lt_of_cell? wr _ hq
                  have hq2 : (wr.alloc (.cells (fcells f.name f.data f.syn) 46)).cell? ⟨g, off + (k - 1) * 3, none⟩ = some (.string p.name) := ((Below.refl _ wr).alloc (Nat.le_refl _) _ |>.cell (p := ⟨g, off + (k - 1) * 3, none⟩) hglt).trans hq
                  have hk1 : (0 : Int) < (k : Int) := by omega
                  have hk6 : 0 < k := by omega
                  have hk1d : decide ((0 : Int) < (k : Int)) = true := decide_eq_true hk1
                  have hk6d : decide (0 < k) = true := decide_eq_true hk6
                  have hk7 : (1 : Int) ≤ (k : Int) := by omega
                  have hk2 : (0 : Int) ≤ (k : Int) - 1 := by omega
                  have hk3 : (k : Int) - 1 < (n : Int) := by omega
                  have hk4 : ((k : Int) - 1).toNat = k - 1 := by omega
                  have hk5 : IntKind.i64.wrap ((k : Int) - 1) = (k : Int) - 1 := IntWalk.i64_in _ (by omega)
                  cases hrise : Op.bytesLess p.name.toList f.name.toList with
                  | true =>
                    have HG1 := Lib.hid (HG.out.succ (fun f' hf' => by rw [hf] at hf'; injection hf' with e; subst e; exact ⟨Hok.out, fun p' _ hp' => by rw [hp] at hp'; injection hp' with e; subst e; exact hrise⟩))
                    clear hi hp hf
                    go_wp2
                    go_quiet (fail)
                    go_wp2
                    go_roundw
                    case rel => exact ⟨k + 1, by go_num, by omega, below_drewN Hb2.out _, (by exact HD2.out), HG1.out⟩
                    case measure => simp [intOf]; omega
                  | false =>
                    have Hr := Lib.hid (Hr6'.out (fun hR => by have := (hR.2 k hkl f hf).2 p (by omega) hp; unfold lt at this; rw [hrise] at this; cases this))
                    clear hi hp hf
                    go_wp2
                    go_quiet (fail)
                    go_wp2
                    go_ret
                    exact ⟨ret_int Hr.out.symm, below_drewN Hb2.out _⟩
    · have e : k = n := by omega
      have Hr := Lib.hid (Hr0.out ⟨by rw [← Hn.out]; exact h64, fun i hi => HG.out i (by rw [e, Hn.out]; exact hi)⟩)
      clear e
      go_wp2
      go_ret
      exact ⟨ret_int Hr.out.symm, Hbel.out⟩
theorem dcheck_ok (w : World) (ad : Option Addr) (cap n : Nat) (down : Bool) (fuse fault : Int) (fs : List F) (hi : Inp w w.heap.size ad n cap fs) (hR : Right fs) :
    Calls Try.prog 23 #[.agg (dcells (.slice ad n cap) down fuse fault)] w fun e w' => e = .returned (.int .i64 0) ∧ Below w.heap.size w w' :=
  dcheck_short w ad cap n down fuse fault fs 0 hi.1 (by have := hi.1; have := hR.1; omega) hi.2.2.2 (fun f hf => okF_fit (hR.ok f hf)) (fun _ => rfl) (fun h => absurd hR h)
theorem dcheck_no (w : World) (ad : Option Addr) (cap n : Nat) (down : Bool) (fuse fault : Int) (fs : List F) (hi : Inp w w.heap.size ad n cap fs) (hfit : ∀ f ∈ fs, Fit f) (hR : ¬ Right fs) :
    Calls Try.prog 23 #[.agg (dcells (.slice ad n cap) down fuse fault)] w fun e w' => e = .returned (.int .i64 6) ∧ Below w.heap.size w w' := by
  by_cases h : 64 < n
  · exact dcheck_long w ad cap n down fuse fault h
  · exact dcheck_short w ad cap n down fuse fault fs 6 hi.1 (by omega) hi.2.2.2 hfit (fun h => absurd h hR) (fun _ => rfl)

/-- where find stops -/
def Fidx (fs : List F) (b : ByteArray) (r : Int) : Prop := (r = -1 ∧ ∀ f ∈ fs, f.name ≠ b) ∨ ∃ (i : Nat) (f : F), r = (i : Int) ∧ fs[i]? = some f ∧ f.name = b
theorem Fidx.some {fs : List F} {b : ByteArray} {r : Int} {f : F} (h : Fidx fs b r) (hR : Right fs) (hf : found fs b = some f) : r = (pos fs b : Int) := by
  obtain ⟨hp, hn⟩ := found_some hf
  rcases h with ⟨_, h⟩ | ⟨i, g, rfl, hg, hgn⟩
  · exact absurd hn (h f (found_mem hf))
  · by_cases e : i = pos fs b
    · rw [e]
    · exfalso
      have hx := (found_iff hR (b := b) (f := g)).2 ⟨List.mem_of_getElem? hg, hgn⟩
      rw [hf] at hx
      injection hx with hx
      subst hx
      rcases Nat.lt_or_ge i (pos fs b) with h1 | h1
      · exact lt_irrefl _ (hR.rise _ _ _ _ h1 hg hp)
      · exact lt_irrefl _ (hR.rise _ _ _ _ (by omega) hp hg)
theorem Fidx.none {fs : List F} {b : ByteArray} {r : Int} (h : Fidx fs b r) (hR : Right fs) (hf : found fs b = none) : r = -1 := by
  rcases h with ⟨h, _⟩ | ⟨i, g, rfl, hg, hgn⟩
  · exact h
  · have hx := (found_iff hR (b := b) (f := g)).2 ⟨List.mem_of_getElem? hg, hgn⟩
    rw [hf] at hx; cases hx
set_option maxHeartbeats 4000000 in
theorem dfind_any (w : World) (ad : Option Addr) (n cap : Nat) (down : Bool) (fuse fault : Int) (fs : List F) (b : ByteArray) (h : Inp w w.heap.size ad n cap fs) (hl : n ≤ 9223372036854775807) :
    Calls Try.prog 36 #[.agg (dcells (.slice ad n cap) down fuse fault), .string b] w fun e w' => ∃ r, e = .returned (.int .i64 r) ∧ Fidx fs b r ∧ Below w.heap.size w w' := by
  have Hn := Lib.hid h.1
  have Hf := Lib.hid h.2.2.2
  clear h
  go_enter Try.func36, Try.ntmps36
  go_wp2
  go_loopw [10] (fun i wr => ∃ (k : Nat), i = .int .i64 (k : Int) ∧ k ≤ n ∧ Below w.heap.size w wr ∧ ∀ i f, i < k → fs[i]? = some f → f.name ≠ b) (fun i _ => n - (intOf i).toNat)
  case atStart => exact ⟨0, rfl, by omega, (Below.refl _ _).alloc (Nat.le_refl _) _, fun i f hi => by omega⟩
  case round =>
    obtain ⟨k, rfl, hk, hbel, hG⟩ := hrel
    have Hbel := Lib.hid hbel; clear hbel
    have HG := Lib.hid hG; clear hG
    by_cases hlt : k < n
    · have hne : fs ≠ [] := by rintro rfl; have := Hn.out; simp at this; omega
      obtain ⟨g, off, rfl, hg, hi⟩ := (Hf.out.keep Hbel.out) hne
      obtain ⟨f, hf⟩ : ∃ f, fs[k]? = some f := ⟨fs[k]'(by have := Hn.out; omega), by simp⟩
      obtain ⟨q0, q1, q2⟩ := hi k f hf
      have hkn : (k : Int) < (n : Int) := by omega
      have hk0 : (0 : Int) ≤ (k : Int) := by omega
      have Hfk := Lib.hid hf
      have hal := (Below.refl wr.heap.size wr).alloc (Nat.le_refl _) (.cells (fcells f.name f.data f.syn) 46)
      have Hb2 := Lib.hid (Hbel.out.trans (hal.mono Hbel.out.size))
      clear hi hf hal hne
      by_cases hq : f.name = b
      · have e1 := str_is hq
        have Hq := Lib.hid hq; clear hq
        go_wp2
        go_ret
        exact ⟨_, rfl, .inr ⟨k, f, rfl, Hfk.out, Hq.out⟩, Hb2.out⟩
      · have e1 := str_not hq
        have Hq := Lib.hid hq; clear hq
        go_wp2
        go_roundw
        case rel =>
          refine ⟨k + 1, by go_num, by omega, Hb2.out, fun i g hi hg => ?_⟩
          by_cases e : i = k
          · subst e; rw [Hfk.out] at hg; injection hg with hg; subst hg; exact Hq.out
          · exact HG.out i g (by omega) hg
        case measure => simp [intOf]; omega
    · have Hk := Lib.hid (show k = n by omega)
      go_wp2
      go_ret
      refine ⟨_, rfl, .inl ⟨rfl, fun f hf => ?_⟩, Hbel.out⟩
      obtain ⟨i, hi⟩ := List.getElem?_of_mem hf
      exact HG.out i f (by have := (List.getElem?_eq_some_iff.1 hi).1; have := Hk.out; have := Hn.out; omega) hi
end Go.Proofs.Ytcefhcailhediaa
