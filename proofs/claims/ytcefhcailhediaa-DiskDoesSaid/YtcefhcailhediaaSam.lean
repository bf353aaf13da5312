/- THE WALK OVER the document's Same, at two disks that are one. -/
import Derived.Test.YtcefhcailhediaaLiv
namespace Go.Proofs.Ytcefhcailhediaa
open Go.RowKit
set_option linter.unusedVariables false
set_option linter.unusedSimpArgs false

set_option maxHeartbeats 4000000 in
theorem same_yes (w : World) (ad ad2 : Option Addr) (n cap n2 cap2 : Nat) (down : Bool) (fuse fault : Int) (fs : List F) (h : Inp w w.heap.size ad n cap fs) (h2 : Inp w w.heap.size ad2 n2 cap2 fs) (hl : n ≤ 9223372036854775807) :
    Calls Try.prog 20 #[.agg (dcells (.slice ad n cap) down fuse fault), .agg (dcells (.slice ad2 n2 cap2) down fuse fault)] w fun e w' => e = .returned (.bool true) ∧ Below w.heap.size w w' := by
  obtain rfl : n2 = n := h2.1.trans h.1.symm
  have hb0 : Below w.heap.size w ((w.alloc (.cells (dcells (.slice ad n2 cap) down fuse fault) 24)).alloc (.cells (dcells (.slice ad2 n2 cap2) down fuse fault) 24)) := ((Below.refl _ w).alloc (Nat.le_refl _) _).alloc (by simp) _
  have hx : Dk ((w.alloc (.cells (dcells (.slice ad n2 cap) down fuse fault) 24)).alloc (.cells (dcells (.slice ad2 n2 cap2) down fuse fault) 24)) w.heap.size 24 (.slice ad n2 cap) down fuse fault := blk_alloc (blk_new w _) _
  have hy : Dk ((w.alloc (.cells (dcells (.slice ad n2 cap) down fuse fault) 24)).alloc (.cells (dcells (.slice ad2 n2 cap2) down fuse fault) 24)) (w.heap.size + 1) 24 (.slice ad2 n2 cap2) down fuse fault := by
    have := blk_new (w.alloc (.cells (dcells (.slice ad n2 cap) down fuse fault) 24)) (.cells (dcells (.slice ad2 n2 cap2) down fuse fault) 24)
    simpa [Dk] using this
  have hdd : (down == down) = true := by simp
  have hd1 : (fuse == fuse) = true := by simp
  have hd2 : (fault == fault) = true := by simp
  have Hn := Lib.hid h.1
  have Hf := Lib.hid h.2.2.2
  have Hf2 := Lib.hid h2.2.2.2
  have Hb0 := Lib.hid hb0
  have Hx := Lib.hid hx
  have Hy := Lib.hid hy
  clear h h2 hb0 hx hy
  go_enter Try.func20, Try.ntmps20
  go_wp2
  go_loopw [37] (fun i wr => ∃ (k : Nat), i = .int .i64 (k : Int) ∧ k ≤ n2 ∧ Below w.heap.size w wr ∧ Dk wr w.heap.size 24 (.slice ad n2 cap) down fuse fault ∧ Dk wr (w.heap.size + 1) 24 (.slice ad2 n2 cap2) down fuse fault) (fun i _ => n2 - (intOf i).toNat)
  case atStart => exact ⟨0, rfl, by omega, Hb0.out, Hx.out, Hy.out⟩
  case round =>
    obtain ⟨k, rfl, hk, hbel, hX, hY⟩ := hrel
    obtain ⟨⟨d0, d1, d2, d3⟩, _⟩ := hX.facts
    obtain ⟨⟨e0, e1, e2, e3⟩, _⟩ := hY.facts
    have Hbel := Lib.hid hbel
    have HX := Lib.hid hX
    have HY := Lib.hid hY
    clear hbel hX hY
    by_cases hlt : k < n2
    · have hne : fs ≠ [] := by rintro rfl; have := Hn.out; simp at this; omega
      obtain ⟨g, off, rfl, hg, hi⟩ := (Hf.out.keep Hbel.out) hne
      obtain ⟨g2, off2, rfl, hg2, hi2⟩ := (Hf2.out.keep Hbel.out) hne
      obtain ⟨f, hf⟩ : ∃ f, fs[k]? = some f := ⟨fs[k]'(by have := Hn.out; omega), by simp⟩
      obtain ⟨q0, q1, q2⟩ := hi k f hf
      obtain ⟨p0, p1, p2⟩ := hi2 k f hf
      have hk0 : (0 : Int) ≤ (k : Int) := by omega
      have hkn : (k : Int) < (n2 : Int) := by omega
      clear hi hi2 hf hne hg hg2
      go_wp2
      go_quiet (fail)
      go_wp2
      go_roundw
      case rel => exact ⟨k + 1, by go_num, by omega, below_drewN Hbel.out _, (by exact HX.out), (by exact HY.out)⟩
      case measure => simp [intOf]; omega
    · go_wp2
      go_ret
      exact ⟨rfl, Hbel.out⟩
end Go.Proofs.Ytcefhcailhediaa
