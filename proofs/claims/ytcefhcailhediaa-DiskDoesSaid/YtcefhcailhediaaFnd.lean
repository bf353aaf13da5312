/- THE WALKS OVER the search by name: strings.Compare, slices.BinarySearchFunc at files, find, file. -/
import Derived.Test.YtcefhcailhediaaCmp
import Derived.Lib.Strings
import Derived.Lib.Bytealg
import Derived.Deep.LoopGhost
namespace Go.Proofs.Ytcefhcailhediaa
open Go.RowKit
set_option linter.unusedVariables false
set_option linter.unusedSimpArgs false
attribute [local irreducible] lt

/-- where the search stands: all below lo stand ahead of the name, none from hi on -/
def Lies (fs : List F) (b : ByteArray) (lo hi : Nat) : Prop := (∀ i f, i < lo → fs[i]? = some f → lt f.name b = true) ∧ (∀ i f, hi ≤ i → fs[i]? = some f → ¬ lt f.name b = true)
theorem Lies.up {fs : List F} {b : ByteArray} {lo hi m : Nat} (hR : Right fs) (h : Lies fs b lo hi) {f : F} (hf : fs[m]? = some f) (hl : lt f.name b = true) : Lies fs b (m + 1) hi :=
  ⟨fun i g hi' hg => by
    by_cases e : i = m
    · subst e; rw [hf] at hg; injection hg with e; subst e; exact hl
    · exact lt_trans (hR.rise m i g f (by omega) hg hf) hl, h.2⟩
theorem Lies.down {fs : List F} {b : ByteArray} {lo hi m : Nat} (hR : Right fs) (h : Lies fs b lo hi) {f : F} (hf : fs[m]? = some f) (hl : ¬ lt f.name b = true) : Lies fs b lo m :=
  ⟨h.1, fun i g hi' hg hgl => by
    by_cases e : i = m
    · subst e; rw [hf] at hg; injection hg with e; subst e; exact hl hgl
    · exact hl (lt_trans (hR.rise i m f g (by omega) hf hg) hgl)⟩
theorem Lies.pos {fs : List F} {b : ByteArray} {k : Nat} (hk : k ≤ fs.length) (h : Lies fs b k k) : pos fs b = k := pos_unique k hk (fun i f hi hf => h.1 i f hi hf) (fun f hf => h.2 k f (Nat.le_refl _) hf)

set_option maxHeartbeats 600000 in
set_option maxRecDepth 100000 in
theorem search_any (w : World) (ad : Option Addr) (cap n : Nat) (b : ByteArray) (fs : List F) (t : Bool) (hn : n = fs.length) (hf : Fls w w.heap.size ad fs) (hR : Right fs) (ht : (found fs b).isSome = t) :
    Calls Try.prog 55 #[.slice ad n cap, .string b, .func (.func 56) #[] #[]] w fun e w' => e = .returned (.tuple #[.int .i64 (pos fs b : Nat), .bool t]) ∧ Below w.heap.size w w' := by
  have h64 : n ≤ 64 := by rw [hn]; exact hR.1
  have Hn := Lib.hid hn; clear hn
  have Hf := Lib.hid hf; clear hf
  have HR := Lib.hid hR; clear hR
  have Ht := Lib.hid ht; clear ht
  obtain ⟨P, hP⟩ : ∃ P, pos fs b = P := ⟨_, rfl⟩
  rw [hP]
  have HP := Lib.hid hP; clear hP
  go_enter Try.func55, Try.ntmps55
  go_wp2
  go_loopg [9, 10] n (fun kx s9 s10 wr => ∃ lo hi : Nat, s9 = .int .i64 lo ∧ s10 = .int .i64 hi ∧ lo ≤ hi ∧ hi ≤ n ∧ hi - lo ≤ kx ∧ Below w.heap.size w wr ∧ Lies fs b lo hi)
  case atStart => exact ⟨0, n, rfl, rfl, Nat.zero_le _, Nat.le_refl _, by omega, Below.refl _ _, fun i f h => by omega, fun i f h hf => by have := (List.getElem?_eq_some_iff.1 hf).1; have := Hn.out; omega⟩
  case round =>
    obtain ⟨lo, hi, rfl, rfl, hlh, hin, hg, hbel, hI⟩ := hrel
    have Hbel := Lib.hid hbel; clear hbel
    have HI := Lib.hid hI; clear hI
    by_cases hlt : lo < hi
    · obtain ⟨f, hf⟩ : ∃ f, fs[(lo + hi) / 2]? = some f := ⟨fs[(lo + hi) / 2]'(by have := Hn.out; omega), by simp⟩
      have hne : fs ≠ [] := by rintro rfl; simp at hf
      obtain ⟨g, off, rfl, hgl, hi'⟩ := (Hf.out.keep Hbel.out) hne
      obtain ⟨q0, q1, q2⟩ := hi' _ f hf
      have HF := Lib.hid hf
      have hq := fun W => cmpf_any f.name f.data f.syn b W
      by_cases hl : lt f.name b = true
      · rw [cb_lt hl] at hq
        have HI2 := Lib.hid (HI.out.up HR.out hf hl)
        have Hq := Lib.hid hq
        clear hq hl hf hne hgl hi'
        go_wp2_with fail
        refine (Hq.out _).mono ?_
        rintro e w' ⟨rfl, hb⟩
        have Hb := Lib.hid (Hbel.out.trans (hb.mono Hbel.out.size)); clear hb
        go_wp2
        go_roundg (hi - ((lo + hi) / 2 + 1))
        case measure => omega
        case rel => exact ⟨(lo + hi) / 2 + 1, hi, by rw [show ((lo : Int) + (hi : Int)) / 2 + 1 = (((lo + hi) / 2 + 1 : Nat) : Int) by omega], rfl, by omega, hin, Nat.le_refl _, Hb.out, HI2.out⟩
      · have hcb : ∃ z, cb f.name b = z ∧ 0 ≤ z := by
          by_cases e : f.name = b
          · exact ⟨0, cb_eq e, by omega⟩
          · exact ⟨1, cb_gt hl e, by omega⟩
        obtain ⟨z, hz, hz0⟩ := hcb
        rw [hz] at hq
        have HI2 := Lib.hid (HI.out.down HR.out hf hl)
        have Hq := Lib.hid hq
        clear hq hl hf hne hgl hi' hz
        go_wp2_with fail
        refine (Hq.out _).mono ?_
        rintro e w' ⟨rfl, hb⟩
        have Hb := Lib.hid (Hbel.out.trans (hb.mono Hbel.out.size)); clear hb
        go_wp2
        go_roundg ((lo + hi) / 2 - lo)
        case measure => omega
        case rel => exact ⟨lo, (lo + hi) / 2, rfl, by rw [show ((lo : Int) + (hi : Int)) / 2 = (((lo + hi) / 2 : Nat) : Int) by omega], by omega, by omega, Nat.le_refl _, Hb.out, HI2.out⟩
    · obtain rfl : hi = lo := by omega
      have Hpos := Lib.hid (show P = hi from HP.out.symm.trans (HI.out.pos (by have := Hn.out; omega)))
      by_cases hn : hi < n
      · obtain ⟨f, hf⟩ : ∃ f, fs[hi]? = some f := ⟨fs[hi]'(by have := Hn.out; omega), by simp⟩
        have hne : fs ≠ [] := by rintro rfl; simp at hf
        obtain ⟨g, off, rfl, hgl, hi'⟩ := (Hf.out.keep Hbel.out) hne
        obtain ⟨q0, q1, q2⟩ := hi' _ f hf
        have hq := fun W => cmpf_any f.name f.data f.syn b W
        have hl : ¬ lt f.name b = true := HI.out.2 hi f (Nat.le_refl _) hf
        have hP' : pos fs b = hi := HP.out.trans Hpos.out
        by_cases e : f.name = b
        · rw [cb_eq e] at hq
          have Ht' := Lib.hid (show t = true by rw [← Ht.out]; unfold found; rw [hP', hf]; simp [e])
          have Hq := Lib.hid hq
          clear hq hl hf hne hgl hi' hP' e
          go_wp2_with fail
          refine (Hq.out _).mono ?_
          rintro e w' ⟨rfl, hb⟩
          have Hb := Lib.hid (Hbel.out.trans (hb.mono Hbel.out.size)); clear hb
          go_wp2
          go_ret2
          exact ⟨by rw [Ht'.out, Hpos.out]; rfl, Hb.out⟩
        · rw [cb_gt hl e] at hq
          have Ht' := Lib.hid (show t = false by rw [← Ht.out]; unfold found; rw [hP', hf]; simp [e])
          have Hq := Lib.hid hq
          clear hq hl hf hne hgl hi' hP' e
          go_wp2_with fail
          refine (Hq.out _).mono ?_
          rintro e w' ⟨rfl, hb⟩
          have Hb := Lib.hid (Hbel.out.trans (hb.mono Hbel.out.size)); clear hb
          go_wp2
          go_ret2
          exact ⟨by rw [Ht'.out, Hpos.out]; rfl, Hb.out⟩
      · have Ht' := Lib.hid (show t = false by
          have hP' : pos fs b = hi := HP.out.trans Hpos.out
          have : fs[hi]? = none := by rw [List.getElem?_eq_none_iff]; have := Hn.out; omega
          rw [← Ht.out]; unfold found; rw [hP', this]; rfl)
        go_wp2
        go_ret2
        exact ⟨by rw [Ht'.out, Hpos.out]; rfl, Hbel.out⟩

/-- the list's length is told, or where it lies -/
theorem find_any (w : World) (g : Nat) (T : Nat) (ad : Option Addr) (cap n : Nat) (down : Bool) (fuse fault : Int) (b : ByteArray) (fs : List F) (t : Bool) (hD : Dk w g T (.slice ad n cap) down fuse fault) (hn : n = fs.length) (hf : Fls w w.heap.size ad fs) (hR : Right fs) (ht : (found fs b).isSome = t) :
    Calls Try.prog 52 #[.pointer (some ⟨g, 0, none⟩), .string b] w fun e w' => e = .returned (.tuple #[.int .i64 (pos fs b : Nat), .bool t]) ∧ Below w.heap.size w w' := by
  obtain ⟨⟨d0, d1, d2, d3⟩, _⟩ := hD.facts
  have HS := Lib.hid (search_any w ad cap n b fs t hn hf hR ht)
  obtain ⟨P, hP⟩ : ∃ P, pos fs b = P := ⟨_, rfl⟩
  rw [hP] at HS ⊢
  clear hP hn hf hR ht hD
  go_enter Try.func52, Try.ntmps52
  go_wp2_with fail
  refine (HS.out).mono ?_
  rintro e w' ⟨rfl, hb⟩
  have Hb := Lib.hid hb; clear hb
  go_wp2
  go_ret2
  exact ⟨rfl, Hb.out⟩
theorem file_no (w : World) (g : Nat) (T : Nat) (ad : Option Addr) (cap n : Nat) (down : Bool) (fuse fault : Int) (b : ByteArray) (fs : List F) (hD : Dk w g T (.slice ad n cap) down fuse fault) (hn : n = fs.length) (hf : Fls w w.heap.size ad fs) (hR : Right fs) (ht : found fs b = none) :
    Calls Try.prog 35 #[.pointer (some ⟨g, 0, none⟩), .string b] w fun e w' => e = .returned (.pointer none) ∧ Below w.heap.size w w' := by
  have HS := Lib.hid (find_any w g T ad cap n down fuse fault b fs false hD hn hf hR (by rw [ht]; rfl))
  clear hn hf hR ht hD
  go_enter Try.func35, Try.ntmps35
  go_wp2_with fail
  refine (HS.out).mono ?_
  rintro e w' ⟨rfl, hb⟩
  have Hb := Lib.hid hb; clear hb
  go_wp2
  go_ret
  exact ⟨rfl, Hb.out⟩
/-- what lies where the file is -/
theorem file_yes (w : World) (g : Nat) (T : Nat) (ad : Option Addr) (cap n : Nat) (down : Bool) (fuse fault : Int) (b : ByteArray) (fs : List F) (f : F) (hD : Dk w g T (.slice ad n cap) down fuse fault) (hn : n = fs.length) (hf : Fls w w.heap.size ad fs) (hR : Right fs) (ht : found fs b = some f)
    (gb off : Nat) (had : ad = some ⟨gb, off, none⟩) :
    Calls Try.prog 35 #[.pointer (some ⟨g, 0, none⟩), .string b] w fun e w' => e = .returned (.pointer (some ⟨gb, off + pos fs b * 3, none⟩)) ∧ Below w.heap.size w w' := by
  have HS := Lib.hid (find_any w g T ad cap n down fuse fault b fs true hD hn hf hR (by rw [ht]; rfl))
  subst had
  have hlt : pos fs b < n := by rw [hn]; exact (List.getElem?_eq_some_iff.1 (found_some ht).1).1
  obtain ⟨P, hP⟩ : ∃ P, pos fs b = P := ⟨_, rfl⟩
  rw [hP] at HS hlt ⊢
  have HD := Lib.hid hD
  have hlt0 : (0 : Int) ≤ (P : Int) := by omega
  have hlt1 : (P : Int) < (n : Int) := by omega
  clear hP hn hf hR ht hD
  go_enter Try.func35, Try.ntmps35
  go_wp2_with fail
  refine (HS.out).mono ?_
  rintro e w' ⟨rfl, hb⟩
  obtain ⟨⟨d0, d1, d2, d3⟩, _⟩ := (HD.out.keep hb HD.out.lt).facts
  have Hb := Lib.hid hb; clear hb
  go_wp2
  go_ret
  exact ⟨rfl, Hb.out⟩
end Go.Proofs.Ytcefhcailhediaa
