/- CONF: THE WALK OVER ConfNumbers. -/
import Derived.Test.YtegobomfhdfodaaGreatDoorDs
namespace Go.Proofs.YtegobomfhdfodaaGreatDoor
open Go.RowKit
set_option maxRecDepth 100000
set_option linter.unusedVariables false
set_option linter.unusedSimpArgs false

theorem numbers_any (w : World) (l : K.T) (hl : l.length ≤ 140737488355000) (hT : Tb w) : Calls Tryz.prog 3 #[S l] w fun e w' => e = .returned (.bool true) ∧ Below w.heap.size w w' := by
  have h1 := fun w => millis_any l (by omega) w
  have h2 := fun w => dmillis_any l (by omega) w
  have h3 := fun w => bytes_any l (by omega) w
  have h4 := fun w => dbytes_any l (by omega) w
  obtain ⟨⟨a, b⟩, hab⟩ : ∃ x, K.meas K.mil l = x := ⟨_, rfl⟩
  obtain ⟨⟨c, d⟩, hcd⟩ : ∃ x, K.meas K.byt l = x := ⟨_, rfl⟩
  simp only [hab] at h1 h2
  simp only [hcd] at h3 h4
  have HT := Lib.hid hT
  clear hT hab hcd
  go_enter Tryz.func3, Tryz.ntmps3
  go_wp2_with fail
  refine (h1 w).mono ?_
  rintro e w1 ⟨rfl, hb1⟩
  go_wp2_with fail
  refine (h2 w1).mono ?_
  rintro e w2 ⟨rfl, hb2⟩
  go_wp2_with fail
  refine (h3 w2).mono ?_
  rintro e w3 ⟨rfl, hb3⟩
  go_wp2_with fail
  refine (h4 w3).mono ?_
  rintro e w4 ⟨rfl, hb4⟩
  have HB := Lib.hid (hb1.trans ((hb2.trans ((hb3.trans (hb4.mono hb3.size)).mono hb2.size)).mono hb1.size))
  clear hb1 hb2 hb3 hb4 h1 h2 h3 h4
  go_wp2_with fail
  refine (lives_any w4 (HT.out.under HB.out)).mono ?_
  rintro e w5 ⟨rfl, hb5⟩
  have HB5 := Lib.hid (HB.out.trans (hb5.mono HB.out.size))
  clear hb5
  go_wp2
  refine bodyPost_ret (v := .bool true) (by simp [results, Tryz.results3, go_sem]) rfl ?_
  exact ⟨rfl, HB5.out⟩
end Go.Proofs.YtegobomfhdfodaaGreatDoor
