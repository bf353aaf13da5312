/- SERVER: THE WALK OVER ServerQuiet. -/
import Derived.Test.YtomicdkmbgckkaaGreatDoorGaw
import Derived.Deep.QuietTactic
import Derived.BigQuiet
namespace Go.Proofs.YtomicdkmbgckkaaGreatDoor
open Go.RowKit
set_option maxRecDepth 100000
set_option linter.unusedVariables false
set_option linter.unusedSimpArgs false

theorem tick_cases (c : Cn) (m idle now : Int) (s : H.T) : (∃ k, k ≠ 0 ∧ tickM c m idle now s = (cn0, k)) ∨ (chk c m = 0 ∧ (c.closed = true ∨ c.busy = true ∨ now < c.since ∨ now - c.since < idle) ∧ tickM c m idle now s = (c, 0)) ∨
    (chk c m = 0 ∧ c.closed = false ∧ c.busy = false ∧ c.since ≤ now ∧ idle ≤ now - c.since ∧ tickM c m idle now s = (⟨[], if c.buf = [] then c.out else c.out ++ s, true, false, false, c.since⟩, 0)) := by
  unfold tickM
  by_cases h : chk c m ≠ 0
  · exact .inl ⟨chk c m, h, by rw [if_pos h]⟩
  have h0 : chk c m = 0 := Classical.not_not.1 h
  by_cases h1 : c.closed = true ∨ c.busy = true ∨ now < c.since ∨ now - c.since < idle
  · exact .inr (.inl ⟨h0, h1, by rw [if_neg h, if_pos h1]⟩)
  · refine .inr (.inr ⟨h0, ?_, ?_, ?_, ?_, by rw [if_neg h, if_neg h1]⟩)
    · cases hc : c.closed with
      | true => exact absurd (.inl hc) h1
      | false => rfl
    · cases hc : c.busy with
      | true => exact absurd (.inr (.inl hc)) h1
      | false => rfl
    · omega
    · omega

set_option maxHeartbeats 8000000 in
theorem quiet_any (w : World) (c : Cn) (m idle now : Int) (hsn : 0 ≤ c.since ∧ c.since ≤ 18446744073709551615) (hnw : 0 ≤ now ∧ now ≤ 18446744073709551615) (hid : 0 ≤ idle ∧ idle ≤ 18446744073709551615) (hT : Tabs w) :
    Calls Tryz.prog 3 #[.agg c.cells, .agg #[.int .i64 m, .int .u64 idle], .int .u64 now] w fun e w' => e = .returned (.bool true) ∧ Below w.heap.size w w' := by
  obtain ⟨buf, out, closed, busy, last, since⟩ := c
  try simp only at hsn
  obtain ⟨X, hX⟩ : ∃ X, X = (w.alloc (.cells #[S buf, S out, .bool closed, .bool busy, .bool last, .int .u64 since] 24)).alloc (.cells #[.int .i64 m, .int .u64 idle] 26) := ⟨_, rfl⟩
  have hb : Below w.heap.size w X := by rw [hX]; exact ((Below.refl _ w).alloc (Nat.le_refl _) _).alloc (by simp) _
  have Hx := Lib.hid (show X.heap[w.heap.size]? = some (.cells #[S buf, S out, .bool closed, .bool busy, .bool last, .int .u64 since] 24 (0, 0)) from by rw [hX]; exact blk_alloc (blk_new w _) _)
  have Hr := Lib.hid (show X.heap[w.heap.size + 1]? = some (.cells #[.int .i64 m, .int .u64 idle] 26 (0, 0)) from by rw [hX]; exact blk_at (by simp))
  have HT := Lib.hid (hT.under hb)
  have HB := Lib.hid hb
  clear hb hT
  obtain ⟨s, hs, hsl, hsne⟩ := lWrite408
  have Hs := Lib.hid hs
  have Hsl := Lib.hid hsl
  have Hsne := Lib.hid hsne
  have Hsn := Lib.hid hsn
  have Hnw := Lib.hid hnw
  have Hid := Lib.hid hid
  clear hs hsl hsne hsn hnw hid
  go_enter Tryz.func3, Tryz.ntmps3
  go_upto_region 1 with (fail)
  rw [← hX]
  clear hX
  go_wp2_with fail
  refine (cn_lives X HT.out).mono ?_
  rintro e w1 ⟨rfl, h1⟩
  replace Hx := Lib.hid (blk_under Hx.out h1)
  replace Hr := Lib.hid (blk_under Hr.out h1)
  replace HT := Lib.hid (HT.out.under h1)
  replace HB := Lib.hid (HB.out.trans (h1.mono HB.out.size))
  clear h1
  obtain ⟨c0, c1, c2, c3, c4, c5⟩ := box6 Hx.out
  have lc := blk_lt Hx.out
  obtain ⟨r0, r1⟩ := box2 Hr.out
  have lr := blk_lt Hr.out
  go_wp2_with fail
  have htk := cn_tick w1 ⟨buf, out, closed, busy, last, since⟩ m idle now Hsn.out Hnw.out Hid.out s (wrc_of Hs.out (by decide) big_close (by decide) HT.out) Hsl.out
  rcases tick_cases ⟨buf, out, closed, busy, last, since⟩ m idle now s with ⟨k, hk, ht⟩ | ⟨hc0, hor, ht⟩ | ⟨hc0, hcl, hbu, hsi, hwt, ht⟩
  · rw [ht] at htk
    simp only [cn0] at htk
    refine htk.mono ?_
    rintro e w2 ⟨rfl, h2⟩
    clear htk ht
    replace Hx := Lib.hid (blk_under Hx.out h2)
    replace Hr := Lib.hid (blk_under Hr.out h2)
    replace HT := Lib.hid (HT.out.under h2)
    replace HB := Lib.hid (HB.out.trans (h2.mono HB.out.size))
    clear h2
    clear c0 c1 c2 c3 c4 c5 lc
    clear r0 r1 lr
    obtain ⟨W2, hD, hbD, hF⟩ := alcx w2 #[S [], S [], .bool false, .bool false, .bool false, .int .u64 0] 24
    replace Hx := Lib.hid (blk_under Hx.out hbD)
    replace Hr := Lib.hid (blk_under Hr.out hbD)
    replace HT := Lib.hid (HT.out.under hbD)
    replace HB := Lib.hid (HB.out.trans (hbD.mono HB.out.size))
    have Hd := Lib.hid hF
    clear hbD hF
    go_upto_region 4 with (fail)
    rw [← hD]
    clear hD
    obtain ⟨d0, d1, d2, d3, d4, d5⟩ := box6 Hd.out
    have ld := blk_lt Hd.out
    obtain ⟨c0, c1, c2, c3, c4, c5⟩ := box6 Hx.out
    have lc := blk_lt Hx.out
    obtain ⟨r0, r1⟩ := box2 Hr.out
    have lr := blk_lt Hr.out
    have hk1 : (k != 0) = true := by simp [hk]
    clear hk
    go_wp2
    go_ret
    exact ⟨rfl, HB.out⟩
  · rw [ht] at htk
    simp only at htk hor
    have Hor := Lib.hid hor
    clear hor hc0
    refine htk.mono ?_
    rintro e w2 ⟨rfl, h2⟩
    clear htk ht
    replace Hx := Lib.hid (blk_under Hx.out h2)
    replace Hr := Lib.hid (blk_under Hr.out h2)
    replace HT := Lib.hid (HT.out.under h2)
    replace HB := Lib.hid (HB.out.trans (h2.mono HB.out.size))
    clear h2
    clear c0 c1 c2 c3 c4 c5 lc
    clear r0 r1 lr
    obtain ⟨W2, hD, hbD, hF⟩ := alcx w2 #[S buf, S out, .bool closed, .bool busy, .bool last, .int .u64 since] 24
    replace Hx := Lib.hid (blk_under Hx.out hbD)
    replace Hr := Lib.hid (blk_under Hr.out hbD)
    replace HT := Lib.hid (HT.out.under hbD)
    replace HB := Lib.hid (HB.out.trans (hbD.mono HB.out.size))
    have Hd := Lib.hid hF
    clear hbD hF
    go_upto_region 4 with (fail)
    rw [← hD]
    clear hD
    obtain ⟨d0, d1, d2, d3, d4, d5⟩ := box6 Hd.out
    have ld := blk_lt Hd.out
    obtain ⟨c0, c1, c2, c3, c4, c5⟩ := box6 Hx.out
    have lc := blk_lt Hx.out
    obtain ⟨r0, r1⟩ := box2 Hr.out
    have lr := blk_lt Hr.out
    have hs := Hsn.out
    have hn := Hnw.out
    have hi := Hid.out
    cases closed with
    | true =>
      clear Hor
      go_wp2
      go_ret
      exact ⟨rfl, HB.out⟩
    | false =>
      cases busy with
      | true =>
        clear Hor
        go_wp2
        go_ret
        exact ⟨rfl, HB.out⟩
      | false =>
        have hor2 : now < since ∨ now - since < idle := by simpa using Hor.out
        by_cases hlt : now < since
        · have h1 : ¬ since ≤ now := by omega
          clear Hor hor2
          go_wp2
          go_ret
          exact ⟨rfl, HB.out⟩
        · have h1 : since ≤ now := by omega
          have h2 : 0 ≤ now - since := by omega
          have h3 : now - since < idle := by omega
          have h4 : ¬ idle ≤ now - since := by omega
          clear Hor hor2 hlt
          go_wp2
          go_ret
          exact ⟨rfl, HB.out⟩
  · rw [ht] at htk
    simp only at htk hcl hbu hsi hwt
    subst hcl hbu
    have hou := (chk_out hc0).1
    have hbl := (chk_out hc0).2
    simp only at hou hbl
    have Hou := Lib.hid hou
    clear hc0 hou hbl
    refine htk.mono ?_
    rintro e w2 ⟨rfl, h2⟩
    clear htk ht
    replace Hx := Lib.hid (blk_under Hx.out h2)
    replace Hr := Lib.hid (blk_under Hr.out h2)
    replace HT := Lib.hid (HT.out.under h2)
    replace HB := Lib.hid (HB.out.trans (h2.mono HB.out.size))
    clear h2
    clear c0 c1 c2 c3 c4 c5 lc
    clear r0 r1 lr
    obtain ⟨W2, hD, hbD, hF⟩ := alcx w2 #[S [], S (if buf = [] then out else out ++ s), .bool true, .bool false, .bool false, .int .u64 since] 24
    replace Hx := Lib.hid (blk_under Hx.out hbD)
    replace Hr := Lib.hid (blk_under Hr.out hbD)
    replace HT := Lib.hid (HT.out.under hbD)
    replace HB := Lib.hid (HB.out.trans (hbD.mono HB.out.size))
    have Hd := Lib.hid hF
    clear hbD hF
    go_upto_region 4 with (fail)
    rw [← hD]
    clear hD
    obtain ⟨d0, d1, d2, d3, d4, d5⟩ := box6 Hd.out
    have ld := blk_lt Hd.out
    obtain ⟨c0, c1, c2, c3, c4, c5⟩ := box6 Hx.out
    have lc := blk_lt Hx.out
    obtain ⟨r0, r1⟩ := box2 Hr.out
    have lr := blk_lt Hr.out
    have hs := Hsn.out
    have hn := Hnw.out
    have hi := Hid.out
    have h2 : 0 ≤ now - since := by omega
    by_cases hbe : buf = []
    · subst hbe
      simp only [if_pos] at d1 d0 d2 d3 d4 d5 Hd
      have hou := Hou.out
      go_upto_region 9 with (fail)
      have e1 := ext_take out out.length
      rw [List.take_length] at e1
      go_quiet (fail)
      go_wp2
      go_ret
      exact ⟨rfl, HB.out.trans ((below_drewN' W2 _).mono HB.out.size)⟩
    · simp only [if_neg hbe] at d1 d0 d2 d3 d4 d5 Hd
      have hie : List.isEmpty buf = false := by cases buf with | nil => exact absurd rfl hbe | cons a t => rfl
      have hou := Hou.out
      have hsl := Hsl.out
      have hsp : 0 < s.length := by cases hq : s with | nil => exact absurd hq Hsne.out | cons a t => simp
      have hs0 : ¬ s = [] := Hsne.out
      have hs1 : decide (out.length < out.length + s.length) = true := by simp; omega
      have hs2 : decide ((out.length : Int) < (out.length : Int) + (s.length : Int)) = true := by simp; omega
      go_upto_region 9 with (fail)
      have e1 := ext_take (out ++ s) out.length
      rw [List.take_left] at e1
      go_quiet (fail)
      go_wp2
      go_ret
      exact ⟨rfl, HB.out.trans ((below_drewN' W2 _).mono HB.out.size)⟩
end Go.Proofs.YtomicdkmbgckkaaGreatDoor

/- SERVER: THE WALK OVER ServerTakes. -/
namespace Go.Proofs.YtomicdkmbgckkaaGreatDoor
open Go.RowKit
set_option maxRecDepth 100000
set_option linter.unusedVariables false
set_option linter.unusedSimpArgs false

theorem take_cases (c : Cn) (m : Int) : (∃ k, k ≠ 0 ∧ takeM c m = (cn0, [], k)) ∨ (chk c m = 0 ∧ takeM c m = (⟨c.buf, [], c.closed, c.busy, c.last, c.since⟩, c.out, 0)) := by
  unfold takeM
  by_cases h : chk c m ≠ 0
  · exact .inl ⟨chk c m, h, by rw [if_pos h]⟩
  · exact .inr ⟨Classical.not_not.1 h, by rw [if_neg h]⟩
theorem chk_empty {c : Cn} {m : Int} (h : chk c m = 0) : chk ⟨c.buf, [], c.closed, c.busy, c.last, c.since⟩ m = 0 := by
  unfold chk at h ⊢
  simp only at h ⊢
  split at h
  · omega
  · rename_i h1
    rw [if_neg h1]
    split at h
    · omega
    · rename_i h2
      rw [if_neg (by simp only [List.length_nil]; omega)]
      exact h
/-- what Feed does, by cases -/
theorem feed_cases (c : Cn) (m : Int) (data : H.T) (now : Int) : (∃ k x, k ≠ 0 ∧ feedM c m data now = (x, k)) ∨ (feedM c m data now = (if data = [] then c else ⟨c.buf ++ data, c.out, c.closed, c.busy, c.last, now⟩, 0)) := by
  unfold feedM
  by_cases h : chk c m ≠ 0
  · exact .inl ⟨_, _, h, by rw [if_pos h]⟩
  rw [if_neg h]
  by_cases h1 : c.closed = true
  · exact .inl ⟨6, _, by decide, by rw [if_pos h1]⟩
  rw [if_neg h1]
  by_cases h2 : 262144 < c.buf.length + data.length
  · exact .inl ⟨8, _, by decide, by rw [if_pos h2]⟩
  rw [if_neg h2]
  exact .inr rfl

set_option maxHeartbeats 8000000 in
theorem takes_any (w : World) (c : Cn) (m idle now : Int) (data : H.T) (hdl : data.length ≤ 281474976710656) (hT : Tabs w) :
    Calls Tryz.prog 4 #[.agg c.cells, .agg #[.int .i64 m, .int .u64 idle], S data, .int .u64 now] w fun e w' => e = .returned (.bool true) ∧ Below w.heap.size w w' := by
  obtain ⟨buf, out, closed, busy, last, since⟩ := c
  try simp only at hsn
  obtain ⟨X, hX⟩ : ∃ X, X = (w.alloc (.cells #[S buf, S out, .bool closed, .bool busy, .bool last, .int .u64 since] 24)).alloc (.cells #[.int .i64 m, .int .u64 idle] 26) := ⟨_, rfl⟩
  have hb : Below w.heap.size w X := by rw [hX]; exact ((Below.refl _ w).alloc (Nat.le_refl _) _).alloc (by simp) _
  have Hx := Lib.hid (show X.heap[w.heap.size]? = some (.cells #[S buf, S out, .bool closed, .bool busy, .bool last, .int .u64 since] 24 (0, 0)) from by rw [hX]; exact blk_alloc (blk_new w _) _)
  have Hr := Lib.hid (show X.heap[w.heap.size + 1]? = some (.cells #[.int .i64 m, .int .u64 idle] 26 (0, 0)) from by rw [hX]; exact blk_at (by simp))
  have HT := Lib.hid (hT.under hb)
  have HB := Lib.hid hb
  clear hb hT
  have Hdl := Lib.hid hdl
  clear hdl
  go_enter Tryz.func4, Tryz.ntmps4
  go_upto_region 1 with (fail)
  rw [← hX]
  clear hX
  go_wp2_with fail
  refine (cn_lives X HT.out).mono ?_
  rintro e w1 ⟨rfl, h1⟩
  replace Hx := Lib.hid (blk_under Hx.out h1)
  replace Hr := Lib.hid (blk_under Hr.out h1)
  replace HT := Lib.hid (HT.out.under h1)
  replace HB := Lib.hid (HB.out.trans (h1.mono HB.out.size))
  clear h1
  obtain ⟨c0, c1, c2, c3, c4, c5⟩ := box6 Hx.out
  have lc := blk_lt Hx.out
  obtain ⟨r0, r1⟩ := box2 Hr.out
  have lr := blk_lt Hr.out
  go_wp2_with fail
  have htk := cn_take7 w1 ⟨buf, out, closed, busy, last, since⟩ m idle
  rcases take_cases ⟨buf, out, closed, busy, last, since⟩ m with ⟨k, hk, ht⟩ | ⟨hc0, ht⟩
  · rw [ht] at htk
    simp only [cn0] at htk
    refine htk.mono ?_
    rintro e w2 ⟨rfl, h2⟩
    clear htk ht
    replace Hx := Lib.hid (blk_under Hx.out h2)
    replace Hr := Lib.hid (blk_under Hr.out h2)
    replace HT := Lib.hid (HT.out.under h2)
    replace HB := Lib.hid (HB.out.trans (h2.mono HB.out.size))
    have hlw := blk_lt Hx.out
    have hlw2 := blk_lt Hr.out
    clear h2
    clear c0 c1 c2 c3 c4 c5 lc
    clear r0 r1 lr
    obtain ⟨W2, hD, hbD, hF⟩ := alcx w2 #[S [], S [], .bool false, .bool false, .bool false, .int .u64 0] 24
    replace Hx := Lib.hid (blk_under Hx.out hbD)
    replace Hr := Lib.hid (blk_under Hr.out hbD)
    replace HT := Lib.hid (HT.out.under hbD)
    replace HB := Lib.hid (HB.out.trans (hbD.mono HB.out.size))
    have Ha := Lib.hid hF
    clear hbD hF
    go_upto_region 4 with (fail)
    rw [← hD]
    clear hD
    obtain ⟨a0, a1, a2, a3, a4, a5⟩ := box6 Ha.out
    have la := blk_lt Ha.out
    obtain ⟨r0, r1⟩ := box2 Hr.out
    have lr := blk_lt Hr.out
    obtain ⟨⟨⟨b4, o4, cl4, bu4, la4, si4⟩, t4, k4⟩, ha4⟩ : ∃ a, takeM cn0 m = a := ⟨_, rfl⟩
    have htk := cn_take7 W2 cn0 m idle
    rw [ha4] at htk
    simp only [cn0] at htk
    go_wp2_with fail
    refine htk.mono ?_
    rintro e w3 ⟨rfl, h3⟩
    clear htk ha4
    replace Hx := Lib.hid (blk_under Hx.out h3)
    replace Hr := Lib.hid (blk_under Hr.out h3)
    replace Ha := Lib.hid (blk_under Ha.out h3)
    replace HT := Lib.hid (HT.out.under h3)
    replace HB := Lib.hid (HB.out.trans (h3.mono HB.out.size))
    clear h3
    clear a0 a1 a2 a3 a4 a5 la
    clear r0 r1 lr
    obtain ⟨W3, hD, hbD, hF⟩ := alcx w3 #[S b4, S o4, .bool cl4, .bool bu4, .bool la4, .int .u64 si4] 24
    replace Hx := Lib.hid (blk_under Hx.out hbD)
    replace Hr := Lib.hid (blk_under Hr.out hbD)
    replace Ha := Lib.hid (blk_under Ha.out hbD)
    replace HT := Lib.hid (HT.out.under hbD)
    replace HB := Lib.hid (HB.out.trans (hbD.mono HB.out.size))
    have Hb := Lib.hid hF
    clear hbD hF
    go_upto_region 5 with (fail)
    rw [← hD]
    clear hD
    obtain ⟨a0, a1, a2, a3, a4, a5⟩ := box6 Ha.out
    have la := blk_lt Ha.out
    obtain ⟨b0, b1, b2, b3, b4, b5⟩ := box6 Hb.out
    have lb := blk_lt Hb.out
    obtain ⟨c0, c1, c2, c3, c4, c5⟩ := box6 Hx.out
    have lc := blk_lt Hx.out
    have hk1 : (k != 0) = true := by simp [hk]
    clear hk
    go_wp2
    go_ret
    exact ⟨rfl, HB.out⟩
  · rw [ht] at htk
    simp only at htk
    have Hc0 := Lib.hid hc0
    clear hc0
    refine htk.mono ?_
    rintro e w2 ⟨rfl, h2⟩
    clear htk ht
    replace Hx := Lib.hid (blk_under Hx.out h2)
    replace Hr := Lib.hid (blk_under Hr.out h2)
    replace HT := Lib.hid (HT.out.under h2)
    replace HB := Lib.hid (HB.out.trans (h2.mono HB.out.size))
    have hlw := blk_lt Hx.out
    have hlw2 := blk_lt Hr.out
    clear h2
    clear c0 c1 c2 c3 c4 c5 lc
    clear r0 r1 lr
    obtain ⟨W2, hD, hbD, hF⟩ := alcx w2 #[S buf, S [], .bool closed, .bool busy, .bool last, .int .u64 since] 24
    replace Hx := Lib.hid (blk_under Hx.out hbD)
    replace Hr := Lib.hid (blk_under Hr.out hbD)
    replace HT := Lib.hid (HT.out.under hbD)
    replace HB := Lib.hid (HB.out.trans (hbD.mono HB.out.size))
    have Ha := Lib.hid hF
    clear hbD hF
    go_upto_region 4 with (fail)
    rw [← hD]
    clear hD
    obtain ⟨a0, a1, a2, a3, a4, a5⟩ := box6 Ha.out
    have la := blk_lt Ha.out
    obtain ⟨r0, r1⟩ := box2 Hr.out
    have lr := blk_lt Hr.out
    have htk := cn_take7 W2 ⟨buf, [], closed, busy, last, since⟩ m idle
    rw [show takeM ⟨buf, [], closed, busy, last, since⟩ m = (⟨buf, [], closed, busy, last, since⟩, [], 0) from by unfold takeM; rw [if_neg (by rw [chk_empty Hc0.out]; decide)]] at htk
    simp only at htk
    go_wp2_with fail
    refine htk.mono ?_
    rintro e w3 ⟨rfl, h3⟩
    clear htk
    replace Hx := Lib.hid (blk_under Hx.out h3)
    replace Hr := Lib.hid (blk_under Hr.out h3)
    replace Ha := Lib.hid (blk_under Ha.out h3)
    replace HT := Lib.hid (HT.out.under h3)
    replace HB := Lib.hid (HB.out.trans (h3.mono HB.out.size))
    clear h3
    clear a0 a1 a2 a3 a4 a5 la
    clear r0 r1 lr
    obtain ⟨W3, hD, hbD, hF⟩ := alcx w3 #[S buf, S [], .bool closed, .bool busy, .bool last, .int .u64 since] 24
    replace Hx := Lib.hid (blk_under Hx.out hbD)
    replace Hr := Lib.hid (blk_under Hr.out hbD)
    replace Ha := Lib.hid (blk_under Ha.out hbD)
    replace HT := Lib.hid (HT.out.under hbD)
    replace HB := Lib.hid (HB.out.trans (hbD.mono HB.out.size))
    have Hb := Lib.hid hF
    clear hbD hF
    go_upto_region 5 with (fail)
    rw [← hD]
    clear hD
    obtain ⟨a0, a1, a2, a3, a4, a5⟩ := box6 Ha.out
    have la := blk_lt Ha.out
    obtain ⟨b0, b1, b2, b3, b4, b5⟩ := box6 Hb.out
    have lb := blk_lt Hb.out
    obtain ⟨c0, c1, c2, c3, c4, c5⟩ := box6 Hx.out
    have lc := blk_lt Hx.out
    obtain ⟨r0, r1⟩ := box2 Hr.out
    have lr := blk_lt Hr.out
    have fa1 : W3.frozen? ⟨w2.heap.size, 1, none⟩ = false := fz6 Ha.out 1
    have hne : w2.heap.size ≠ w.heap.size := by omega
    go_upto_region 10 with (fail)
    obtain ⟨V, hV⟩ : ∃ V, V = W3.setCell ⟨w2.heap.size, 1, none⟩ (S out) := ⟨_, rfl⟩
    rw [← hV]
    have hp := put1of6 Ha.out (S out)
    rw [← hV] at hp
    obtain ⟨hk2, hg2⟩ := hp
    have Ha2 := Lib.hid (show V.heap[w2.heap.size]? = some (.cells #[S buf, S out, .bool closed, .bool busy, .bool last, .int .u64 since] 24 (0, 0)) from hk2)
    have hx2 := (hg2.block w.heap.size (blk_lt Hx.out) (by intro e; injection e with e; omega)).trans Hx.out
    have hr2 := (hg2.block (w.heap.size + 1) (blk_lt Hr.out) (by intro e; injection e with e; omega)).trans Hr.out
    replace HB := Lib.hid (grown_below HB.out hg2 (by omega) la)
    replace Hx := Lib.hid hx2
    replace Hr := Lib.hid hr2
    replace Ha := Ha2
    clear hk2 hg2 hV hx2 hr2 Ha2 a0 a1 a2 a3 a4 a5 la b0 b1 b2 b3 b4 b5 lb fa1 Hb HT
    clear c0 c1 c2 c3 c4 c5 lc
    clear r0 r1 lr
    obtain ⟨c0, c1, c2, c3, c4, c5⟩ := box6 Hx.out
    have lc := blk_lt Hx.out
    obtain ⟨r0, r1⟩ := box2 Hr.out
    have lr := blk_lt Hr.out
    have hfd := cn_feed V ⟨buf, out, closed, busy, last, since⟩ m idle now data Hdl.out
    rcases feed_cases ⟨buf, out, closed, busy, last, since⟩ m data now with ⟨k, ⟨b5, o5, cl5, bu5, la5, si5⟩, hk, hf⟩ | hf
    · rw [hf] at hfd
      simp only at hfd
      go_wp2_with fail
      refine hfd.mono ?_
      rintro e w4 ⟨rfl, h4⟩
      clear hfd hf
      replace Hx := Lib.hid (blk_under Hx.out h4)
      replace Hr := Lib.hid (blk_under Hr.out h4)
      replace Ha := Lib.hid (blk_under Ha.out h4)
      replace HB := Lib.hid (HB.out.trans (h4.mono HB.out.size))
      clear h4
      clear c0 c1 c2 c3 c4 c5 lc
      clear r0 r1 lr
      obtain ⟨W4, hD, hbD, hF⟩ := alcx w4 #[S b5, S o5, .bool cl5, .bool bu5, .bool la5, .int .u64 si5] 24
      replace Hx := Lib.hid (blk_under Hx.out hbD)
      replace Hr := Lib.hid (blk_under Hr.out hbD)
      replace Ha := Lib.hid (blk_under Ha.out hbD)
      replace HB := Lib.hid (HB.out.trans (hbD.mono HB.out.size))
      have Hd := Lib.hid hF
      clear hbD hF
      go_upto_region 11 with (fail)
      rw [← hD]
      clear hD
      obtain ⟨a0, a1, a2, a3, a4, a5⟩ := box6 Ha.out
      have la := blk_lt Ha.out
      obtain ⟨c0, c1, c2, c3, c4, c5⟩ := box6 Hx.out
      have lc := blk_lt Hx.out
      obtain ⟨d0, d1, d2, d3, d4, d5⟩ := box6 Hd.out
      have ld := blk_lt Hd.out
      have hk1 : (k != 0) = true := by simp [hk]
      clear hk
      go_wp2
      go_ret
      exact ⟨rfl, HB.out⟩
    · by_cases hde : data = []
      · rw [hf] at hfd
        rw [if_pos hde] at hfd
        subst hde
        simp only at hfd
        go_wp2_with fail
        refine hfd.mono ?_
        rintro e w4 ⟨rfl, h4⟩
        clear hfd hf
        replace Hx := Lib.hid (blk_under Hx.out h4)
        replace Hr := Lib.hid (blk_under Hr.out h4)
        replace Ha := Lib.hid (blk_under Ha.out h4)
        replace HB := Lib.hid (HB.out.trans (h4.mono HB.out.size))
        clear h4
        clear c0 c1 c2 c3 c4 c5 lc
        clear r0 r1 lr
        obtain ⟨W4, hD, hbD, hF⟩ := alcx w4 #[S buf, S out, .bool closed, .bool busy, .bool last, .int .u64 since] 24
        replace Hx := Lib.hid (blk_under Hx.out hbD)
        replace Hr := Lib.hid (blk_under Hr.out hbD)
        replace Ha := Lib.hid (blk_under Ha.out hbD)
        replace HB := Lib.hid (HB.out.trans (hbD.mono HB.out.size))
        have Hd := Lib.hid hF
        clear hbD hF
        go_upto_region 11 with (fail)
        rw [← hD]
        clear hD
        obtain ⟨a0, a1, a2, a3, a4, a5⟩ := box6 Ha.out
        have la := blk_lt Ha.out
        obtain ⟨c0, c1, c2, c3, c4, c5⟩ := box6 Hx.out
        have lc := blk_lt Hx.out
        obtain ⟨d0, d1, d2, d3, d4, d5⟩ := box6 Hd.out
        have ld := blk_lt Hd.out
        have hbl := (chk_out Hc0.out).2
        simp only at hbl
        have hq1 : ¬ 9223372036854775807 < buf.length := by omega
        have hcat := cat_S buf []
        rw [List.append_nil] at hcat
        go_wp2
        go_ret
        exact ⟨rfl, HB.out⟩
      · rw [hf] at hfd
        rw [if_neg hde] at hfd
        simp only at hfd
        go_wp2_with fail
        refine hfd.mono ?_
        rintro e w4 ⟨rfl, h4⟩
        clear hfd hf
        replace Hx := Lib.hid (blk_under Hx.out h4)
        replace Hr := Lib.hid (blk_under Hr.out h4)
        replace Ha := Lib.hid (blk_under Ha.out h4)
        replace HB := Lib.hid (HB.out.trans (h4.mono HB.out.size))
        clear h4
        clear c0 c1 c2 c3 c4 c5 lc
        clear r0 r1 lr
        obtain ⟨W4, hD, hbD, hF⟩ := alcx w4 #[S (buf ++ data), S out, .bool closed, .bool busy, .bool last, .int .u64 now] 24
        replace Hx := Lib.hid (blk_under Hx.out hbD)
        replace Hr := Lib.hid (blk_under Hr.out hbD)
        replace Ha := Lib.hid (blk_under Ha.out hbD)
        replace HB := Lib.hid (HB.out.trans (hbD.mono HB.out.size))
        have Hd := Lib.hid hF
        clear hbD hF
        go_upto_region 11 with (fail)
        rw [← hD]
        clear hD
        obtain ⟨a0, a1, a2, a3, a4, a5⟩ := box6 Ha.out
        have la := blk_lt Ha.out
        obtain ⟨c0, c1, c2, c3, c4, c5⟩ := box6 Hx.out
        have lc := blk_lt Hx.out
        obtain ⟨d0, d1, d2, d3, d4, d5⟩ := box6 Hd.out
        have ld := blk_lt Hd.out
        have hbl := (chk_out Hc0.out).2
        simp only at hbl
        have hdl := Hdl.out
        have hq1 : ¬ 9223372036854775807 < buf.length + data.length := by omega
        have hcat := cat_S buf data
        have hie : List.isEmpty data = false := by cases data with | nil => exact absurd rfl hde | cons a t => rfl
        go_wp2
        go_ret
        exact ⟨rfl, HB.out⟩
theorem takes_str (w : World) (c : Cn) (m idle now : Int) (s : ByteArray) (hs : s.size ≤ 140737488355000) (hT : Tabs w) :
    Calls Tryz.prog 4 #[.agg c.cells, .agg #[.int .i64 m, .int .u64 idle], .string s, .int .u64 now] w fun e w' => e = .returned (.bool true) ∧ Below w.heap.size w w' := by
  have h := takes_any w c m idle now s.data.toList (by rw [← Lib.size_eq]; omega) hT
  rw [show (S s.data.toList : Value) = .string s from congrArg Value.string (S_data s)] at h
  exact h
end Go.Proofs.YtomicdkmbgckkaaGreatDoor
