/- THE WALK OVER Same. -/
import Derived.Test.YtnnnnlcpmocnfaaRow
import Derived.BigQuiet
import Derived.Deep.QuietTactic
namespace Go.Proofs.Ytnnnnlcpmocnfaa
open Go.RowKit
set_option linter.unusedVariables false
set_option linter.unusedSimpArgs false

set_option maxHeartbeats 2000000 in
/-- two slices of the same fields are the same -/
theorem same_yes (w : World) (ad ad2 : Option Addr) (cap cap2 n : Nat) (fs : List M.Fd) (hfn : n = fs.length) (hfs : Flds w w.heap.size ad fs) (hfs2 : Flds w w.heap.size ad2 fs) :
    Calls Try.prog 24 #[.slice ad n cap, .slice ad2 n cap2] w fun e w' => e = .returned (.bool true) ∧ Below w.heap.size w w' := by
  have hn63 : n ≤ 9223372036854775807 := by rw [hfn]; exact hfs.1
  have Hfn := Lib.hid hfn
  have Hfs := Lib.hid hfs
  have Hfs2 := Lib.hid hfs2
  clear hfn hfs hfs2
  have hnn : ((n : Int) != (n : Int)) = false := by simp
  go_enter Try.func24, Try.ntmps24
  go_wp2
  go_loopw [13] (fun i wr => ∃ (k : Nat), i = .int .i64 (k : Int) ∧ k ≤ n ∧ Below w.heap.size w wr) (fun i _ => n - (intOf i).toNat)
  case atStart => exact ⟨0, rfl, by omega, Below.refl _ _⟩
  case round =>
    obtain ⟨k, rfl, hk, hbel⟩ := hrel
    have Hbel := Lib.hid hbel
    clear hbel
    by_cases hlt : k < n
    · have hne : fs ≠ [] := by rintro rfl; have := Hfn.out; simp at this; omega
      obtain ⟨g, off, rfl, hg, hi⟩ := (Hfs.out.keep Hbel.out).2 hne
      obtain ⟨g2, off2, rfl, hg2, hi2⟩ := (Hfs2.out.keep Hbel.out).2 hne
      obtain ⟨f, hf⟩ : ∃ f, fs[k]? = some f := ⟨fs[k]'(by have := Hfn.out; omega), by simp⟩
      obtain ⟨a, b, c, l, hfit, q⟩ := hi k f hf
      obtain ⟨a', b', c', l', hfit', q'⟩ := hi2 k f hf
      obtain ⟨rfl, rfl, rfl, rfl⟩ := hfit.uniq hfit'
      obtain ⟨q0, q1, q2, q3⟩ := q
      obtain ⟨p0, p1, p2, p3⟩ := q'
      have hk0 : (0 : Int) ≤ (k : Int) := by omega
      have hkn : (k : Int) < (n : Int) := by omega
      clear hi hi2 hf hfit hfit' hne hg hg2
      go_wp2
      go_quiet (fail)
      go_wp2
      go_roundw
      case rel => exact ⟨k + 1, by go_num, by omega, by have := Hbel.out; exact ⟨this.os, this.tape, this.output, this.size, this.block⟩⟩
      case measure => simp [intOf]; omega
    · go_wp2
      go_ret
      exact ⟨rfl, Hbel.out⟩
end Go.Proofs.Ytnnnnlcpmocnfaa
