/- THE WALKS OVER the document's Read, both Names, and Texts. -/
import Derived.Test.YtcefhcailhediaaDck
import Derived.Test.YtcefhcailhediaaMth3
namespace Go.Proofs.Ytcefhcailhediaa
open Go.RowKit
set_option linter.unusedVariables false
set_option linter.unusedSimpArgs false

set_option maxHeartbeats 4000000 in
theorem dread_any (w : World) (ad : Option Addr) (n cap : Nat) (down : Bool) (fuse fault : Int) (fs : List F) (b : ByteArray) (h : DIn w ad n cap fuse fault fs) (hl : n ≤ 9223372036854775807) (hb : b.size ≤ 9223372036854775807) :
    Calls Try.prog 14 #[.agg (dcells (.slice ad n cap) down fuse fault), .string b] w fun e w' => e = .returned (.tuple #[.string (rdv ⟨fs, down, fuse, fault⟩ b).1, .int .i64 (rdv ⟨fs, down, fuse, fault⟩ b).2]) ∧ Below w.heap.size w w' := by
  have hb0 := (Below.refl w.heap.size w).alloc (Nat.le_refl _) (.cells (dcells (.slice ad n cap) down fuse fault) 24)
  have hx : Dk (w.alloc (.cells (dcells (.slice ad n cap) down fuse fault) 24)) w.heap.size 24 (.slice ad n cap) down fuse fault := blk_new w _
  have Hb0 := Lib.hid hb0
  have Hx := Lib.hid hx
  have H := Lib.hid h
  have Hfd := Lib.hid (fun W (hW : Inp W W.heap.size ad n cap fs) => dfind_any W ad n cap down fuse fault fs b hW hl)
  clear h hb0 hx
  by_cases hR : Right fs
  · have Hck := Lib.hid (fun W (hW : Inp W W.heap.size ad n cap fs) => dcheck_ok W ad cap n down fuse fault fs hW hR)
    have HR := Lib.hid hR
    clear hR
    go_enter Try.func14, Try.ntmps14
    go_wp2_with fail
    refine (Hck.out _ (H.out.i.under Hb0.out)).mono ?_
    rintro e w1 ⟨rfl, hb1⟩
    have Hb1 := Lib.hid (Hb0.out.trans (hb1.mono Hb0.out.size))
    have hD1 := Hx.out.keep hb1 Hx.out.lt
    have HD1 := Lib.hid hD1
    obtain ⟨⟨d0, d1, d2, d3⟩, _⟩ := hD1.facts
    clear hb1 hD1
    go_wp2_with fail
    refine (Hfd.out _ (H.out.i.under Hb1.out)).mono ?_
    rintro e w2 ⟨r, rfl, hr, hb2⟩
    have Hr := Lib.hid hr
    have Hb2 := Lib.hid (Hb1.out.trans (hb2.mono Hb1.out.size))
    have hD2 := HD1.out.keep hb2 HD1.out.lt
    clear d0 d1 d2 d3
    obtain ⟨⟨d0, d1, d2, d3⟩, _⟩ := hD2.facts
    have hi2 := H.out.i.under Hb2.out
    clear hb2 hD2 hr
    cases down with
    | true =>
      have Hv := Lib.hid (show rdv ⟨fs, true, fuse, fault⟩ b = (⟨#[]⟩, 17) by unfold rdv; rw [upv_down HR.out rfl]; rfl)
      clear hi2
      go_wp2
      exact bodyPost_ret (v := .tuple #[.string (⟨#[]⟩ : ByteArray), .int .i64 17]) (by simp [results, Try.results14, go_sem]) rfl ⟨by rw [Hv.out], Hb2.out⟩
    | false =>
      cases hf : found fs b with
      | none =>
        have Hv := Lib.hid (rdv_none (u := fuse) (v := fault) HR.out hf)
        obtain rfl := Hr.out.none HR.out hf
        clear hi2 hf
        go_wp2
        exact bodyPost_ret (v := .tuple #[.string (⟨#[]⟩ : ByteArray), .int .i64 7]) (by simp [results, Try.results14, go_sem]) rfl ⟨by rw [Hv.out], Hb2.out⟩
      | some f =>
        have Hv := Lib.hid (rdv_found (u := fuse) (v := fault) HR.out hf)
        obtain rfl := Hr.out.some HR.out hf
        have hp := (found_some hf).1
        have hpl := (List.getElem?_eq_some_iff.1 hp).1
        have hne : fs ≠ [] := by rintro rfl; simp at hp
        obtain ⟨g, off, rfl, hg, hi⟩ := hi2.2.2.2 hne
        obtain ⟨q0, q1, q2⟩ := hi _ f hp
        obtain ⟨P, hP⟩ : ∃ P, pos fs b = P := ⟨_, rfl⟩
        rw [hP] at q0 q1 q2 hpl ⊢
        have hk0 : (0 : Int) ≤ (P : Int) := by omega
        have hkk : ¬ (P : Int) < 0 := by omega
        have hkd : decide ((P : Int) < 0) = false := decide_eq_false hkk
        have hkn : (P : Int) < (n : Int) := by have := H.out.i.1; omega
        clear hi2 hf hp hpl hne hg hi hP
        go_wp2
        exact bodyPost_ret (v := .tuple #[.string f.data, .int .i64 0]) (by simp [results, Try.results14, go_sem]) rfl ⟨by rw [Hv.out], Hb2.out⟩
  · have Hck := Lib.hid (fun W (hW : Inp W W.heap.size ad n cap fs) => dcheck_no W ad cap n down fuse fault fs hW H.out.fit hR)
    have Hv := Lib.hid (show rdv ⟨fs, down, fuse, fault⟩ b = (⟨#[]⟩, 6) by unfold rdv; rw [upv_no hR]; rfl)
    clear hR
    go_enter Try.func14, Try.ntmps14
    go_wp2_with fail
    refine (Hck.out _ (H.out.i.under Hb0.out)).mono ?_
    rintro e w1 ⟨rfl, hb1⟩
    have Hb1 := Lib.hid (Hb0.out.trans (hb1.mono Hb0.out.size))
    have hD1 := Hx.out.keep hb1 Hx.out.lt
    obtain ⟨⟨d0, d1, d2, d3⟩, _⟩ := hD1.facts
    clear hb1 hD1
    go_wp2_with fail
    refine (Hfd.out _ (H.out.i.under Hb1.out)).mono ?_
    rintro e w2 ⟨r, rfl, _, hb2⟩
    have Hb2 := Lib.hid (Hb1.out.trans (hb2.mono Hb1.out.size))
    clear d0 d1 d2 d3 hb2
    go_wp2
    exact bodyPost_ret (v := .tuple #[.string (⟨#[]⟩ : ByteArray), .int .i64 6]) (by simp [results, Try.results14, go_sem]) rfl ⟨by rw [Hv.out], Hb2.out⟩
end Go.Proofs.Ytcefhcailhediaa
