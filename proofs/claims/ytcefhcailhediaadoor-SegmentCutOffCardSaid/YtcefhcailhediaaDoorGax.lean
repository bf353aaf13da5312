/- SEGMENT, MATHEMATICS: an opening that is cut off, once more. -/
import Derived.Test.YtcefhcailhediaaDoorGaw
namespace Go.Proofs.YtcefhcailhediaaDoor
open Go.RowKit
set_option maxRecDepth 100000
set_option linter.unusedVariables false
set_option linter.unusedSimpArgs false
theorem syn_crash {fs : List F} (hR : Right fs) (ks : List Int) : Syn (crashL ks fs) := fun g hg => by
  obtain ⟨f, kp, hf, rfl⟩ := crashL_mem hg
  exact (crash1_ok (hR.ok f hf) kp).2
theorem cut_again {fs : List F} {size fuse : Int} (hR : Right fs) (hS : Syn fs) (hs : 1 ≤ size ∧ size ≤ 262144) {l : L} {rs : List Rec} {c : Int} (h : openM ⟨fs, false, fuse, -1⟩ size = (l, rs, c)) :
    c = 0 ∨ (c = 17 ∧ Right l.d.files ∧ crashL [] l.d.files = l.d.files ∧ openM ⟨l.d.files, false, -1, -1⟩ size = openM ⟨fs, false, -1, -1⟩ size) := by
  obtain ⟨r, _, hM, ho⟩ := open_ok (d := ⟨fs, false, fuse, -1⟩) hR hs rfl
  rw [h] at ho
  obtain ⟨_, hc, _⟩ := hM.free rfl
  rcases hc with hc | hc
  · rw [if_pos hc] at ho
    exact .inl (congrArg (fun x => x.2.2) ho)
  · rw [if_neg (by rw [hc]; decide)] at ho
    have e1 : l = r.1 := congrArg Prod.fst ho
    have e2 : c = r.2 := congrArg (fun x => x.2.2) ho
    subst e1 e2
    refine .inr ⟨hc, hM.R, crash_synced hM.R (hM.syn hS) [], ?_⟩
    rw [(open_free hM.R hs).1, (open_free hR hs).1, hM.md, hM.fm, hM.nx, hM.rs]
end Go.Proofs.YtcefhcailhediaaDoor
