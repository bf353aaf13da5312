/- RETRY: THE WALKS OVER Right, isTried, Verdict (twice). -/
import Derived.Test.YtclhclaeccoljaaRa
namespace Go.Proofs.Ytclhclaeccoljaa
open Go.RowKit
set_option linter.unusedVariables false
set_option linter.unusedSimpArgs false

theorem right_any (w : World) (f m t : Int) : Calls Try.prog 16 #[.agg (rcells f m t)] w fun e w' => e = .returned (.bool (decide (RR f m t))) ∧ Below w.heap.size w w' := by
  obtain ⟨X, hX⟩ : ∃ X, X = w.alloc (.cells (rcells f m t) 24) := ⟨_, rfl⟩
  have hx : X.heap[w.heap.size]? = some (.cells (rcells f m t) 24 (0, 0)) := by rw [hX]; exact blk_new w _
  have hb : Below w.heap.size w X := by rw [hX]; exact (Below.refl _ w).alloc (Nat.le_refl _) _
  obtain ⟨b, hbe⟩ : ∃ b, b = decide (RR f m t) := ⟨_, rfl⟩
  rw [← hbe]
  go_enter Try.func16, Try.ntmps16
  go_upto_region 1 with (fail)
  rw [← hX]
  clear hX
  obtain ⟨c0, c1, c2⟩ := box3 hx
  have hl := (Array.getElem?_eq_some_iff.1 hx).1
  clear hx
  by_cases h1 : 1 ≤ f
  · by_cases h2 : f ≤ m
    · by_cases h3 : m ≤ 9007199254740992
      · by_cases h4 : t ≤ 9007199254740992
        · have hv : b = true := by rw [hbe]; simp [RR, h1, h2, h3, h4]
          subst hv; clear hbe
          go_wp2
          go_ret
          exact ⟨rfl, hb⟩
        · have hv : b = false := by rw [hbe]; simp [RR, h1, h2, h3, h4]
          subst hv; clear hbe
          go_wp2
          go_ret
          exact ⟨rfl, hb⟩
      · have hv : b = false := by rw [hbe]; simp [RR, h1, h2, h3]
        subst hv; clear hbe
        go_wp2
        go_ret
        exact ⟨rfl, hb⟩
    · have hv : b = false := by rw [hbe]; simp [RR, h1, h2]
      subst hv; clear hbe
      go_wp2
      go_ret
      exact ⟨rfl, hb⟩
  · have hv : b = false := by rw [hbe]; simp [RR, h1]
    subst hv; clear hbe
    go_wp2
    go_ret
    exact ⟨rfl, hb⟩
theorem tried_any (w : World) (k s x : Int) : Calls Try.prog 17 #[.agg (tcells k s x)] w fun e w' => e = .returned (.bool (decide (TR k))) ∧ Below w.heap.size w w' := by
  obtain ⟨X, hX⟩ : ∃ X, X = w.alloc (.cells (tcells k s x) 26) := ⟨_, rfl⟩
  have hx : X.heap[w.heap.size]? = some (.cells (tcells k s x) 26 (0, 0)) := by rw [hX]; exact blk_new w _
  have hb : Below w.heap.size w X := by rw [hX]; exact (Below.refl _ w).alloc (Nat.le_refl _) _
  obtain ⟨b, hbe⟩ : ∃ b, b = decide (TR k) := ⟨_, rfl⟩
  rw [← hbe]
  go_enter Try.func17, Try.ntmps17
  go_upto_region 1 with (fail)
  rw [← hX]
  clear hX
  obtain ⟨c0, c1, c2⟩ := box3 hx
  have hl := (Array.getElem?_eq_some_iff.1 hx).1
  clear hx
  by_cases h1 : 0 ≤ k
  · by_cases h2 : k ≤ 1073741824
    · have hv : b = true := by rw [hbe]; simp [TR, h1, h2]
      subst hv; clear hbe
      go_wp2
      go_ret
      exact ⟨rfl, hb⟩
    · have hv : b = false := by rw [hbe]; simp [TR, h1, h2]
      subst hv; clear hbe
      go_wp2
      go_ret
      exact ⟨rfl, hb⟩
  · have hv : b = false := by rw [hbe]; simp [TR, h1]
    subst hv; clear hbe
    go_wp2
    go_ret
    exact ⟨rfl, hb⟩
/-- what a status means -/
def verM (k : Int) : Int := if 200 ≤ k ∧ k ≤ 299 then 0 else if k = 0 ∨ k = 429 ∨ k = 502 ∨ k = 503 ∨ k = 504 then 1 else 2
theorem verdict_any (w : World) (k : Int) : Calls Try.prog 12 #[.int .i64 k] w fun e w' => e = .returned (.int .u8 (verM k)) ∧ Below w.heap.size w w' := by
  obtain ⟨b, hbe⟩ : ∃ b, b = verM k := ⟨_, rfl⟩
  rw [← hbe]
  have hb := Below.refl w.heap.size w
  by_cases e0 : k = 0
  · subst e0
    have hv : b = 1 := by rw [hbe]; decide
    subst hv; clear hbe
    go_enter Try.func12, Try.ntmps12
    go_wp2
    go_ret
    exact ⟨rfl, hb⟩
  by_cases e1 : k = 429
  · subst e1
    have hv : b = 1 := by rw [hbe]; decide
    subst hv; clear hbe
    go_enter Try.func12, Try.ntmps12
    go_wp2
    go_ret
    exact ⟨rfl, hb⟩
  by_cases e2 : k = 502
  · subst e2
    have hv : b = 1 := by rw [hbe]; decide
    subst hv; clear hbe
    go_enter Try.func12, Try.ntmps12
    go_wp2
    go_ret
    exact ⟨rfl, hb⟩
  by_cases e3 : k = 503
  · subst e3
    have hv : b = 1 := by rw [hbe]; decide
    subst hv; clear hbe
    go_enter Try.func12, Try.ntmps12
    go_wp2
    go_ret
    exact ⟨rfl, hb⟩
  by_cases e4 : k = 504
  · subst e4
    have hv : b = 1 := by rw [hbe]; decide
    subst hv; clear hbe
    go_enter Try.func12, Try.ntmps12
    go_wp2
    go_ret
    exact ⟨rfl, hb⟩
  by_cases g1 : 200 ≤ k
  · by_cases g2 : k ≤ 299
    · have hv : b = 0 := by rw [hbe]; simp [verM, e0, e1, e2, e3, e4, g1, g2]
      subst hv; clear hbe
      have hd : (k == 0 || k == 429 || k == 502 || k == 503 || k == 504) = false := by simp [e0, e1, e2, e3, e4]
      go_enter Try.func12, Try.ntmps12
      go_wp2
      go_ret
      exact ⟨rfl, hb⟩
    · have hv : b = 2 := by rw [hbe]; simp [verM, e0, e1, e2, e3, e4, g1, g2]
      subst hv; clear hbe
      have hd : (k == 0 || k == 429 || k == 502 || k == 503 || k == 504) = false := by simp [e0, e1, e2, e3, e4]
      go_enter Try.func12, Try.ntmps12
      go_wp2
      go_ret
      exact ⟨rfl, hb⟩
  · have hv : b = 2 := by rw [hbe]; simp [verM, e0, e1, e2, e3, e4, g1]
    subst hv; clear hbe
    have hd : (k == 0 || k == 429 || k == 502 || k == 503 || k == 504) = false := by simp [e0, e1, e2, e3, e4]
    go_enter Try.func12, Try.ntmps12
    go_wp2
    go_ret
    exact ⟨rfl, hb⟩
theorem rverdict_any (w : World) (k : Int) : Calls Try.prog 13 #[.int .i64 k] w fun e w' => e = .returned (.int .u8 (verM k)) ∧ Below w.heap.size w w' := by
  obtain ⟨b, hbe⟩ : ∃ b, b = verM k := ⟨_, rfl⟩
  rw [← hbe]
  have hb := Below.refl w.heap.size w
  by_cases e0 : k = 0
  · subst e0
    have hv : b = 1 := by rw [hbe]; decide
    subst hv; clear hbe
    go_enter Try.func13, Try.ntmps13
    go_wp2
    go_ret
    exact ⟨rfl, hb⟩
  by_cases e1 : k = 429
  · subst e1
    have hv : b = 1 := by rw [hbe]; decide
    subst hv; clear hbe
    go_enter Try.func13, Try.ntmps13
    go_wp2
    go_ret
    exact ⟨rfl, hb⟩
  by_cases e2 : k = 502
  · subst e2
    have hv : b = 1 := by rw [hbe]; decide
    subst hv; clear hbe
    go_enter Try.func13, Try.ntmps13
    go_wp2
    go_ret
    exact ⟨rfl, hb⟩
  by_cases e3 : k = 503
  · subst e3
    have hv : b = 1 := by rw [hbe]; decide
    subst hv; clear hbe
    go_enter Try.func13, Try.ntmps13
    go_wp2
    go_ret
    exact ⟨rfl, hb⟩
  by_cases e4 : k = 504
  · subst e4
    have hv : b = 1 := by rw [hbe]; decide
    subst hv; clear hbe
    go_enter Try.func13, Try.ntmps13
    go_wp2
    go_ret
    exact ⟨rfl, hb⟩
  by_cases g1 : 200 ≤ k
  · by_cases g2 : k ≤ 299
    · have hv : b = 0 := by rw [hbe]; simp [verM, e0, e1, e2, e3, e4, g1, g2]
      subst hv; clear hbe
      have hd : (k == 0 || k == 429 || k == 502 || k == 503 || k == 504) = false := by simp [e0, e1, e2, e3, e4]
      go_enter Try.func13, Try.ntmps13
      go_wp2
      go_ret
      exact ⟨rfl, hb⟩
    · have hv : b = 2 := by rw [hbe]; simp [verM, e0, e1, e2, e3, e4, g1, g2]
      subst hv; clear hbe
      have hd : (k == 0 || k == 429 || k == 502 || k == 503 || k == 504) = false := by simp [e0, e1, e2, e3, e4]
      go_enter Try.func13, Try.ntmps13
      go_wp2
      go_ret
      exact ⟨rfl, hb⟩
  · have hv : b = 2 := by rw [hbe]; simp [verM, e0, e1, e2, e3, e4, g1]
    subst hv; clear hbe
    have hd : (k == 0 || k == 429 || k == 502 || k == 503 || k == 504) = false := by simp [e0, e1, e2, e3, e4]
    go_enter Try.func13, Try.ntmps13
    go_wp2
    go_ret
    exact ⟨rfl, hb⟩
end Go.Proofs.Ytclhclaeccoljaa
