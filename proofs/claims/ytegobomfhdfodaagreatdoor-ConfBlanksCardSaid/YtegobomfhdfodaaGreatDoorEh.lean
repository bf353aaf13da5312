/- CONF: THE WALK OVER ConfBlanks. -/
import Derived.Test.YtegobomfhdfodaaGreatDoorEg
import Derived.Test.YtegobomfhdfodaaGreatDoorDtb
import Derived.Laws.Concat
namespace Go.Proofs.YtegobomfhdfodaaGreatDoor
open Go.RowKit
set_option maxRecDepth 100000
set_option linter.unusedVariables false
set_option linter.unusedSimpArgs false

theorem blanks_long (w : World) (s : K.T) (m : Int) (hl : s.length ≤ 140737488355000) (h8 : 8000 < s.length) (hT : Tb w) :
    Calls Tryz.prog 5 #[S s, .int .i64 m] w fun e w' => e = .returned (.bool true) ∧ Below w.heap.size w w' := by
  have hs := S_size s
  obtain ⟨n, hn⟩ : ∃ n, s.length = n := ⟨_, rfl⟩
  rw [hn] at hs hl h8
  have hg : (8000 : Int) < (n : Int) := by omega
  have HT := Lib.hid hT
  clear hT hn
  go_enter Tryz.func5, Tryz.ntmps5
  go_wp2_with fail
  refine (lives_any w HT.out).mono ?_
  rintro e w2 ⟨rfl, hb2⟩
  have HB := Lib.hid hb2
  clear hb2
  go_wp2
  refine bodyPost_ret (v := .bool true) (by simp [results, Tryz.results5, go_sem]) rfl ?_
  exact ⟨rfl, HB.out⟩

set_option maxHeartbeats 8000000 in
theorem blanks_err (w : World) (s : K.T) (m : Int) (h8 : s.length ≤ 8000) (hT : Tb w) (o : Int × Nat) (h2 : K.parse s = .error o) :
    Calls Tryz.prog 5 #[S s, .int .i64 m] w fun e w' => e = .returned (.bool true) ∧ Below w.heap.size w w' := by
  have hs := S_size s
  obtain ⟨ho1, ho2⟩ := K.parse_err h2
  have hkl := K.parse_line h2
  have hP1 : ∀ V, Below w.heap.size w V → Calls Tryz.prog 16 #[S s] V (ParsR V Nd.zero o.1 o.2) := fun V h => parses_err h2 V (by omega) (hT.under h)
  have hP2 : ∀ j, j ≤ 9 → ∀ V, Below w.heap.size w V → Calls Tryz.prog 16 #[S (K.padded j s)] V (ParsR V Nd.zero o.1 (o.2 + 3)) := fun j hj V h =>
    parses_err (x := (o.1, o.2 + 3)) (by rw [K.parse_padded hj h8, h2]) V (by unfold K.padded; simp only [List.length_append, List.length_replicate, List.length_cons, List.length_nil]; omega) (hT.under h)
  obtain ⟨o1, o2⟩ := o
  simp only at ho1 ho2 hP1 hP2 hkl
  obtain ⟨k1, hk1⟩ : ∃ k1 : Int, k1 = ((o2 : Nat) : Int) := ⟨_, rfl⟩
  obtain ⟨k3, hk3⟩ : ∃ k3 : Int, k3 = (o2 : Int) + 3 := ⟨_, rfl⟩
  rw [← hk1] at hP1
  rw [← hk3] at hP2
  have hkk : (k3 == k1 + 3) = true := by rw [hk3, hk1]; simp
  have hkn : (k3 != k1 + 3) = false := by rw [hk3, hk1]; simp
  have hk4 : k1 ≤ 100000 := by omega
  have hk5 : 0 ≤ k1 := by omega
  have hoo : (o1 == o1) = true := by simp
  clear h2 hk1 hk3 hkl
  obtain ⟨n, hn⟩ : ∃ n, s.length = n := ⟨_, rfl⟩
  have hn3 : (n : Int) ≤ 8000 := by omega
  have hg : ¬ (8000 : Int) < (n : Int) := by omega
  rw [hn] at hs
  clear hn
  have HT := Lib.hid hT
  have HP1 := Lib.hid hP1
  have HP2 := Lib.hid hP2
  clear hT hP1 hP2 h8
  go_enter Tryz.func5, Tryz.ntmps5
  go_wp2_with fail
  refine (lives_any w HT.out).mono ?_
  rintro e w2 ⟨rfl, hb2⟩
  have B2 := Lib.hid hb2
  clear hb2
  go_wp2_with fail
  refine (HP1.out w2 B2.out).mono ?_
  rintro e w3 ⟨hb3, a1, e1, rfl, hr3⟩
  obtain ⟨X3, hX3⟩ : ∃ X, X = w3.alloc (.cells (nv Nd.zero (.slice none Nd.zero.l.length 0) (.slice a1 Nd.zero.p.length e1)) 32) := ⟨_, rfl⟩
  obtain ⟨hbX, hbk⟩ := box_new w3 Nd.zero _ _ hX3
  have B3 := Lib.hid (B2.out.trans ((hb3.trans (hbX.mono hb3.size)).mono B2.out.size))
  have HR3 := Lib.hid (hr3.under hbX)
  have HK3 := Lib.hid hbk
  have HX3 := Lib.hid hX3
  clear hb3 hr3 hX3 hbX hbk
  go_upto_region 6 with (fail)
  rw [← HX3.out]
  obtain ⟨g3, hg3⟩ : ∃ g, g = w3.heap.size := ⟨_, rfl⟩
  have HG3 := Lib.hid hg3
  rw [← hg3] at HK3 ⊢
  clear hg3
  go_wp2
  go_loopw [8, 9] (fun v i wr => ∃ (j : Nat) (u : K.T), v = S u ∧ Go.RowKit.Hid (u = K.sp j) ∧ i = .int .i64 (j : Int) ∧ j ≤ 9 ∧ wr = X3) (fun _ i _ => 9 - (intOf i).toNat)
  case atStart => exact ⟨0, [], rfl, Lib.hid (show ([] : K.T) = K.sp 0 from rfl), rfl, by omega, by first | rfl | trivial⟩
  case round =>
    obtain ⟨j, u, rfl, hu, rfl, hj, hwr⟩ := hrel
    have HU := Lib.hid hu.out
    clear hu
    subst wr
    have hj0 : (0 : Int) ≤ (j : Int) := by omega
    have hj9 : (j : Int) ≤ 9 := by omega
    have hul : (⟨u.toArray⟩ : ByteArray).size = j := by rw [S_size, HU.out, sp_len]
    by_cases q : (j : Int) < m ∧ j < 9
    · obtain ⟨q1, q2⟩ := q
      have q3 : (j : Int) < 9 := by omega
      obtain ⟨u', hu'⟩ : ∃ u', u' = K.sp (j + 1) := ⟨_, rfl⟩
      have HU2 := Lib.hid hu'
      clear hu'
      go_wp2
      go_roundw
      case rel => exact ⟨j + 1, u', (by rw [HU2.out, ← sp_snoc, ← HU.out]; exact cat2 u [32]), Lib.hid HU2.out, by go_num, by omega, by first | rfl | trivial⟩
      case measure => simp [intOf]; omega
    · have hq : ¬ (j : Int) < m ∨ ((j : Int) < m ∧ ¬ (j : Int) < 9) := by omega
      clear q
      rcases hq with q1 | ⟨q1, q2⟩
      all_goals
        go_wp2_with fail
        rw [show Value.string (((({ data := u.toArray } ++ { data := #[10, 35, 120, 58, 32, 121, 10] }) ++ { data := u.toArray }) ++ { data := #[35, 32, 122, 10] }) ++ { data := s.toArray }) = S (K.padded j s) from by unfold K.padded; rw [← HU.out]; exact cat5 u [10, 35, 120, 58, 32, 121, 10] u [35, 32, 122, 10] s]
        refine (HP2.out j hj X3 B3.out).mono ?_
        rintro e w4 ⟨hb4, a2, e2, rfl, hr4⟩
        obtain ⟨X4, hX4⟩ : ∃ X, X = w4.alloc (.cells (nv Nd.zero (.slice none Nd.zero.l.length 0) (.slice a2 Nd.zero.p.length e2)) 32) := ⟨_, rfl⟩
        obtain ⟨hbX, hbk⟩ := box_new w4 Nd.zero _ _ hX4
        have hbb := hb4.trans (hbX.mono hb4.size)
        have B4 := Lib.hid (B3.out.trans (hbb.mono B3.out.size))
        have HR4 := Lib.hid (HR3.out.under hbb)
        have HS := Lib.hid (same_yes Nd.zero _ _ X4 _ _ _ _ HR4.out (hr4.under hbX))
        have HK4 := Lib.hid (HK3.out.under hbb)
        have HX4 := Lib.hid hX4
        obtain ⟨d0, d1, d2, d3⟩ := four HK4.out
        have hl3 := blk_lt HK4.out
        obtain ⟨f0, f1, f2, f3⟩ := four hbk
        have hl4 := blk_lt hbk
        clear hb4 hr4 hX4 hbX hbk hbb
        go_upto_region 12 with (fail)
        rw [← HX4.out]
        go_wp2_with fail
        refine (HS.out).mono ?_
        rintro e w5 ⟨rfl, hb5⟩
        have B5 := Lib.hid (B4.out.trans (hb5.mono B4.out.size))
        have HR5 := Lib.hid (HR4.out.under hb5)
        have HK5 := Lib.hid (HK4.out.under hb5)
        clear hb5 d0 d1 d2 d3 f0 f1 f2 f3 hl3 hl4
        go_wp2
        refine bodyPost_ret (v := .bool true) (by simp [results, Tryz.results5, go_sem]) rfl ?_
        exact ⟨rfl, B5.out⟩
set_option maxHeartbeats 8000000 in
theorem blanks_nil (w : World) (s : K.T) (m : Int) (h8 : s.length ≤ 8000) (hT : Tb w) (p : List (K.T × Nd)) (h2 : K.parse s = .ok p) (h3 : s = []) :
    Calls Tryz.prog 5 #[S s, .int .i64 m] w fun e w' => e = .returned (.bool true) ∧ Below w.heap.size w w' := by
  have hs := S_size s
  obtain ⟨y, hy⟩ : ∃ y, y = Nd.mk 0 [] [] p := ⟨_, rfl⟩
  have hP1 : ∀ V, Below w.heap.size w V → Calls Tryz.prog 16 #[S s] V (ParsR V y 0 0) := fun V h => by rw [hy]; exact parses_ok h2 V (by omega) (hT.under h)
  have hP2 : ∀ j, j ≤ 9 → ∀ V, Below w.heap.size w V → Calls Tryz.prog 16 #[S (K.padded j s)] V (ParsR V y 0 0) := fun j hj V h => by
    rw [hy]
    exact parses_ok (by rw [K.parse_padded hj h8, h2]) V (by unfold K.padded; simp only [List.length_append, List.length_replicate, List.length_cons, List.length_nil]; omega) (hT.under h)
  have hP3 : ∀ j, j ≤ 9 → ∀ V, Below w.heap.size w V → Calls Tryz.prog 16 #[S (K.behind j s)] V (ParsR V y 0 0) := fun j hj V h => by
    rw [hy]
    exact parses_ok (K.parse_behind hj h8 (.inl h3) h2) V (by unfold K.behind; simp only [List.length_append, List.length_replicate, List.length_cons, List.length_nil]; omega) (hT.under h)
  have HP3 := Lib.hid hP3
  clear hP3
  clear hy h2
  obtain ⟨n, hn⟩ : ∃ n, s.length = n := ⟨_, rfl⟩
  have hn3 : (n : Int) ≤ 8000 := by omega
  have hg : ¬ (8000 : Int) < (n : Int) := by omega
  rw [hn] at hs
  obtain rfl : n = 0 := by rw [← hn, h3]; rfl
  clear h3 hn
  have HT := Lib.hid hT
  have HP1 := Lib.hid hP1
  have HP2 := Lib.hid hP2
  clear hT hP1 hP2 h8
  go_enter Tryz.func5, Tryz.ntmps5
  go_wp2_with fail
  refine (lives_any w HT.out).mono ?_
  rintro e w2 ⟨rfl, hb2⟩
  have B2 := Lib.hid hb2
  clear hb2
  go_wp2_with fail
  refine (HP1.out w2 B2.out).mono ?_
  rintro e w3 ⟨hb3, a1, e1, rfl, hr3⟩
  obtain ⟨X3, hX3⟩ : ∃ X, X = w3.alloc (.cells (nv y (.slice none y.l.length 0) (.slice a1 y.p.length e1)) 32) := ⟨_, rfl⟩
  obtain ⟨hbX, hbk⟩ := box_new w3 y _ _ hX3
  have B3 := Lib.hid (B2.out.trans ((hb3.trans (hbX.mono hb3.size)).mono B2.out.size))
  have HR3 := Lib.hid (hr3.under hbX)
  have HK3 := Lib.hid hbk
  have HX3 := Lib.hid hX3
  clear hb3 hr3 hX3 hbX hbk
  go_upto_region 6 with (fail)
  rw [← HX3.out]
  obtain ⟨g3, hg3⟩ : ∃ g, g = w3.heap.size := ⟨_, rfl⟩
  have HG3 := Lib.hid hg3
  rw [← hg3] at HK3 ⊢
  clear hg3
  go_wp2
  go_loopw [8, 9] (fun v i wr => ∃ (j : Nat) (u : K.T), v = S u ∧ Go.RowKit.Hid (u = K.sp j) ∧ i = .int .i64 (j : Int) ∧ j ≤ 9 ∧ wr = X3) (fun _ i _ => 9 - (intOf i).toNat)
  case atStart => exact ⟨0, [], rfl, Lib.hid (show ([] : K.T) = K.sp 0 from rfl), rfl, by omega, by first | rfl | trivial⟩
  case round =>
    obtain ⟨j, u, rfl, hu, rfl, hj, hwr⟩ := hrel
    have HU := Lib.hid hu.out
    clear hu
    subst wr
    have hj0 : (0 : Int) ≤ (j : Int) := by omega
    have hj9 : (j : Int) ≤ 9 := by omega
    have hul : (⟨u.toArray⟩ : ByteArray).size = j := by rw [S_size, HU.out, sp_len]
    by_cases q : (j : Int) < m ∧ j < 9
    · obtain ⟨q1, q2⟩ := q
      have q3 : (j : Int) < 9 := by omega
      obtain ⟨u', hu'⟩ : ∃ u', u' = K.sp (j + 1) := ⟨_, rfl⟩
      have HU2 := Lib.hid hu'
      clear hu'
      go_wp2
      go_roundw
      case rel => exact ⟨j + 1, u', (by rw [HU2.out, ← sp_snoc, ← HU.out]; exact cat2 u [32]), Lib.hid HU2.out, by go_num, by omega, by first | rfl | trivial⟩
      case measure => simp [intOf]; omega
    · have hq : ¬ (j : Int) < m ∨ ((j : Int) < m ∧ ¬ (j : Int) < 9) := by omega
      clear q
      rcases hq with q1 | ⟨q1, q2⟩
      all_goals
        go_wp2_with fail
        rw [show Value.string (((({ data := u.toArray } ++ { data := #[10, 35, 120, 58, 32, 121, 10] }) ++ { data := u.toArray }) ++ { data := #[35, 32, 122, 10] }) ++ { data := s.toArray }) = S (K.padded j s) from by unfold K.padded; rw [← HU.out]; exact cat5 u [10, 35, 120, 58, 32, 121, 10] u [35, 32, 122, 10] s]
        refine (HP2.out j hj X3 B3.out).mono ?_
        rintro e w4 ⟨hb4, a2, e2, rfl, hr4⟩
        obtain ⟨X4, hX4⟩ : ∃ X, X = w4.alloc (.cells (nv y (.slice none y.l.length 0) (.slice a2 y.p.length e2)) 32) := ⟨_, rfl⟩
        obtain ⟨hbX, hbk⟩ := box_new w4 y _ _ hX4
        have hbb := hb4.trans (hbX.mono hb4.size)
        have B4 := Lib.hid (B3.out.trans (hbb.mono B3.out.size))
        have HR4 := Lib.hid (HR3.out.under hbb)
        have HS := Lib.hid (same_yes y _ _ X4 _ _ _ _ HR4.out (hr4.under hbX))
        have HK4 := Lib.hid (HK3.out.under hbb)
        have HX4 := Lib.hid hX4
        obtain ⟨d0, d1, d2, d3⟩ := four HK4.out
        have hl3 := blk_lt HK4.out
        obtain ⟨f0, f1, f2, f3⟩ := four hbk
        have hl4 := blk_lt hbk
        clear hb4 hr4 hX4 hbX hbk hbb
        go_upto_region 12 with (fail)
        rw [← HX4.out]
        go_wp2_with fail
        refine (HS.out).mono ?_
        rintro e w5 ⟨rfl, hb5⟩
        have B5 := Lib.hid (B4.out.trans (hb5.mono B4.out.size))
        have HR5 := Lib.hid (HR4.out.under hb5)
        have HK5 := Lib.hid (HK4.out.under hb5)
        clear hb5 d0 d1 d2 d3 f0 f1 f2 f3 hl3 hl4
        go_wp2_with fail
        rw [show Value.string (({ data := s.toArray } ++ { data := u.toArray }) ++ { data := #[10, 10, 35] }) = S (K.behind j s) from by unfold K.behind; rw [← HU.out]; exact cat3 s u [10, 10, 35]]
        refine (HP3.out j hj w5 B5.out).mono ?_
        rintro e w6 ⟨hb6, a3, e3, rfl, hr6⟩
        obtain ⟨X6, hX6⟩ : ∃ X, X = w6.alloc (.cells (nv y (.slice none y.l.length 0) (.slice a3 y.p.length e3)) 32) := ⟨_, rfl⟩
        obtain ⟨hbX, hbk⟩ := box_new w6 y _ _ hX6
        have hbb := hb6.trans (hbX.mono hb6.size)
        have B6 := Lib.hid (B5.out.trans (hbb.mono B5.out.size))
        have HS6 := Lib.hid (same_yes y _ _ X6 _ _ _ _ (HR5.out.under hbb) (hr6.under hbX))
        have HK6 := Lib.hid (HK5.out.under hbb)
        have HX6 := Lib.hid hX6
        obtain ⟨d0, d1, d2, d3⟩ := four HK6.out
        have hl3 := blk_lt HK6.out
        obtain ⟨f0, f1, f2, f3⟩ := four hbk
        have hl4 := blk_lt hbk
        clear hb6 hr6 hX6 hbX hbk hbb
        go_upto_region 17 with (fail)
        rw [← HX6.out]
        go_wp2_with fail
        refine (HS6.out).mono ?_
        rintro e w7 ⟨rfl, hb7⟩
        have B7 := Lib.hid (B6.out.trans (hb7.mono B6.out.size))
        clear hb7 d0 d1 d2 d3 f0 f1 f2 f3
        go_wp2
        refine bodyPost_ret (v := .bool true) (by simp [results, Tryz.results5, go_sem]) rfl ?_
        exact ⟨rfl, B7.out⟩
set_option maxHeartbeats 8000000 in
theorem blanks_lf (w : World) (s : K.T) (m : Int) (h8 : s.length ≤ 8000) (hT : Tb w) (p : List (K.T × Nd)) (h2 : K.parse s = .ok p) (t : K.T) (h3 : s = t ++ [10]) :
    Calls Tryz.prog 5 #[S s, .int .i64 m] w fun e w' => e = .returned (.bool true) ∧ Below w.heap.size w w' := by
  have hs := S_size s
  obtain ⟨y, hy⟩ : ∃ y, y = Nd.mk 0 [] [] p := ⟨_, rfl⟩
  have hP1 : ∀ V, Below w.heap.size w V → Calls Tryz.prog 16 #[S s] V (ParsR V y 0 0) := fun V h => by rw [hy]; exact parses_ok h2 V (by omega) (hT.under h)
  have hP2 : ∀ j, j ≤ 9 → ∀ V, Below w.heap.size w V → Calls Tryz.prog 16 #[S (K.padded j s)] V (ParsR V y 0 0) := fun j hj V h => by
    rw [hy]
    exact parses_ok (by rw [K.parse_padded hj h8, h2]) V (by unfold K.padded; simp only [List.length_append, List.length_replicate, List.length_cons, List.length_nil]; omega) (hT.under h)
  have hP3 : ∀ j, j ≤ 9 → ∀ V, Below w.heap.size w V → Calls Tryz.prog 16 #[S (K.behind j s)] V (ParsR V y 0 0) := fun j hj V h => by
    rw [hy]
    exact parses_ok (K.parse_behind hj h8 (.inr ⟨t, h3⟩) h2) V (by unfold K.behind; simp only [List.length_append, List.length_replicate, List.length_cons, List.length_nil]; omega) (hT.under h)
  have HP3 := Lib.hid hP3
  clear hP3
  clear hy h2
  obtain ⟨n, hn⟩ : ∃ n, s.length = n := ⟨_, rfl⟩
  have hix : ∀ W, (Instr.index 9 (S s) (.int .i64 ((n : Int) - 1))).run Tryz.prog W = .ok (.int .u8 ((10 : UInt8).toNat : Int)) W := fun W => by
    have hn1 : n = t.length + 1 := by rw [← hn, h3]; simp
    rw [show (n : Int) - 1 = ((t.length : Nat) : Int) from by omega, h3]
    exact index_str _ _ (by simp) _ (by simp) W
  have hn1 : 0 < n := by rw [← hn, h3]; simp
  have hn2 : (0 : Int) < (n : Int) := by omega
  have hn3 : (n : Int) ≤ 8000 := by omega
  have hg : ¬ (8000 : Int) < (n : Int) := by omega
  have hix : ∀ W, (Instr.index 9 (S s) (.int .i64 ((n : Int) - 1))).run Tryz.prog W = .ok (.int .u8 10) W := hix
  rw [hn] at hs
  clear h3 hn
  have HT := Lib.hid hT
  have HP1 := Lib.hid hP1
  have HP2 := Lib.hid hP2
  clear hT hP1 hP2 h8
  go_enter Tryz.func5, Tryz.ntmps5
  go_wp2_with fail
  refine (lives_any w HT.out).mono ?_
  rintro e w2 ⟨rfl, hb2⟩
  have B2 := Lib.hid hb2
  clear hb2
  go_wp2_with fail
  refine (HP1.out w2 B2.out).mono ?_
  rintro e w3 ⟨hb3, a1, e1, rfl, hr3⟩
  obtain ⟨X3, hX3⟩ : ∃ X, X = w3.alloc (.cells (nv y (.slice none y.l.length 0) (.slice a1 y.p.length e1)) 32) := ⟨_, rfl⟩
  obtain ⟨hbX, hbk⟩ := box_new w3 y _ _ hX3
  have B3 := Lib.hid (B2.out.trans ((hb3.trans (hbX.mono hb3.size)).mono B2.out.size))
  have HR3 := Lib.hid (hr3.under hbX)
  have HK3 := Lib.hid hbk
  have HX3 := Lib.hid hX3
  clear hb3 hr3 hX3 hbX hbk
  go_upto_region 6 with (fail)
  rw [← HX3.out]
  obtain ⟨g3, hg3⟩ : ∃ g, g = w3.heap.size := ⟨_, rfl⟩
  have HG3 := Lib.hid hg3
  rw [← hg3] at HK3 ⊢
  clear hg3
  go_wp2
  go_loopw [8, 9] (fun v i wr => ∃ (j : Nat) (u : K.T), v = S u ∧ Go.RowKit.Hid (u = K.sp j) ∧ i = .int .i64 (j : Int) ∧ j ≤ 9 ∧ wr = X3) (fun _ i _ => 9 - (intOf i).toNat)
  case atStart => exact ⟨0, [], rfl, Lib.hid (show ([] : K.T) = K.sp 0 from rfl), rfl, by omega, by first | rfl | trivial⟩
  case round =>
    obtain ⟨j, u, rfl, hu, rfl, hj, hwr⟩ := hrel
    have HU := Lib.hid hu.out
    clear hu
    subst wr
    have hj0 : (0 : Int) ≤ (j : Int) := by omega
    have hj9 : (j : Int) ≤ 9 := by omega
    have hul : (⟨u.toArray⟩ : ByteArray).size = j := by rw [S_size, HU.out, sp_len]
    by_cases q : (j : Int) < m ∧ j < 9
    · obtain ⟨q1, q2⟩ := q
      have q3 : (j : Int) < 9 := by omega
      obtain ⟨u', hu'⟩ : ∃ u', u' = K.sp (j + 1) := ⟨_, rfl⟩
      have HU2 := Lib.hid hu'
      clear hu'
      go_wp2
      go_roundw
      case rel => exact ⟨j + 1, u', (by rw [HU2.out, ← sp_snoc, ← HU.out]; exact cat2 u [32]), Lib.hid HU2.out, by go_num, by omega, by first | rfl | trivial⟩
      case measure => simp [intOf]; omega
    · have hq : ¬ (j : Int) < m ∨ ((j : Int) < m ∧ ¬ (j : Int) < 9) := by omega
      clear q
      rcases hq with q1 | ⟨q1, q2⟩
      all_goals
        go_wp2_with fail
        rw [show Value.string (((({ data := u.toArray } ++ { data := #[10, 35, 120, 58, 32, 121, 10] }) ++ { data := u.toArray }) ++ { data := #[35, 32, 122, 10] }) ++ { data := s.toArray }) = S (K.padded j s) from by unfold K.padded; rw [← HU.out]; exact cat5 u [10, 35, 120, 58, 32, 121, 10] u [35, 32, 122, 10] s]
        refine (HP2.out j hj X3 B3.out).mono ?_
        rintro e w4 ⟨hb4, a2, e2, rfl, hr4⟩
        obtain ⟨X4, hX4⟩ : ∃ X, X = w4.alloc (.cells (nv y (.slice none y.l.length 0) (.slice a2 y.p.length e2)) 32) := ⟨_, rfl⟩
        obtain ⟨hbX, hbk⟩ := box_new w4 y _ _ hX4
        have hbb := hb4.trans (hbX.mono hb4.size)
        have B4 := Lib.hid (B3.out.trans (hbb.mono B3.out.size))
        have HR4 := Lib.hid (HR3.out.under hbb)
        have HS := Lib.hid (same_yes y _ _ X4 _ _ _ _ HR4.out (hr4.under hbX))
        have HK4 := Lib.hid (HK3.out.under hbb)
        have HX4 := Lib.hid hX4
        obtain ⟨d0, d1, d2, d3⟩ := four HK4.out
        have hl3 := blk_lt HK4.out
        obtain ⟨f0, f1, f2, f3⟩ := four hbk
        have hl4 := blk_lt hbk
        clear hb4 hr4 hX4 hbX hbk hbb
        go_upto_region 12 with (fail)
        rw [← HX4.out]
        go_wp2_with fail
        refine (HS.out).mono ?_
        rintro e w5 ⟨rfl, hb5⟩
        have B5 := Lib.hid (B4.out.trans (hb5.mono B4.out.size))
        have HR5 := Lib.hid (HR4.out.under hb5)
        have HK5 := Lib.hid (HK4.out.under hb5)
        clear hb5 d0 d1 d2 d3 f0 f1 f2 f3 hl3 hl4
        go_wp2_with fail
        rw [show Value.string (({ data := s.toArray } ++ { data := u.toArray }) ++ { data := #[10, 10, 35] }) = S (K.behind j s) from by unfold K.behind; rw [← HU.out]; exact cat3 s u [10, 10, 35]]
        refine (HP3.out j hj w5 B5.out).mono ?_
        rintro e w6 ⟨hb6, a3, e3, rfl, hr6⟩
        obtain ⟨X6, hX6⟩ : ∃ X, X = w6.alloc (.cells (nv y (.slice none y.l.length 0) (.slice a3 y.p.length e3)) 32) := ⟨_, rfl⟩
        obtain ⟨hbX, hbk⟩ := box_new w6 y _ _ hX6
        have hbb := hb6.trans (hbX.mono hb6.size)
        have B6 := Lib.hid (B5.out.trans (hbb.mono B5.out.size))
        have HS6 := Lib.hid (same_yes y _ _ X6 _ _ _ _ (HR5.out.under hbb) (hr6.under hbX))
        have HK6 := Lib.hid (HK5.out.under hbb)
        have HX6 := Lib.hid hX6
        obtain ⟨d0, d1, d2, d3⟩ := four HK6.out
        have hl3 := blk_lt HK6.out
        obtain ⟨f0, f1, f2, f3⟩ := four hbk
        have hl4 := blk_lt hbk
        clear hb6 hr6 hX6 hbX hbk hbb
        go_upto_region 17 with (fail)
        rw [← HX6.out]
        go_wp2_with fail
        refine (HS6.out).mono ?_
        rintro e w7 ⟨rfl, hb7⟩
        have B7 := Lib.hid (B6.out.trans (hb7.mono B6.out.size))
        clear hb7 d0 d1 d2 d3 f0 f1 f2 f3
        go_wp2
        refine bodyPost_ret (v := .bool true) (by simp [results, Tryz.results5, go_sem]) rfl ?_
        exact ⟨rfl, B7.out⟩
set_option maxHeartbeats 8000000 in
theorem blanks_oth (w : World) (s : K.T) (m : Int) (h8 : s.length ≤ 8000) (hT : Tb w) (p : List (K.T × Nd)) (h2 : K.parse s = .ok p) (t : K.T) (b : UInt8) (h3 : s = t ++ [b]) (h4 : b ≠ 10) :
    Calls Tryz.prog 5 #[S s, .int .i64 m] w fun e w' => e = .returned (.bool true) ∧ Below w.heap.size w w' := by
  have hs := S_size s
  obtain ⟨y, hy⟩ : ∃ y, y = Nd.mk 0 [] [] p := ⟨_, rfl⟩
  have hP1 : ∀ V, Below w.heap.size w V → Calls Tryz.prog 16 #[S s] V (ParsR V y 0 0) := fun V h => by rw [hy]; exact parses_ok h2 V (by omega) (hT.under h)
  have hP2 : ∀ j, j ≤ 9 → ∀ V, Below w.heap.size w V → Calls Tryz.prog 16 #[S (K.padded j s)] V (ParsR V y 0 0) := fun j hj V h => by
    rw [hy]
    exact parses_ok (by rw [K.parse_padded hj h8, h2]) V (by unfold K.padded; simp only [List.length_append, List.length_replicate, List.length_cons, List.length_nil]; omega) (hT.under h)
  clear hy h2
  obtain ⟨n, hn⟩ : ∃ n, s.length = n := ⟨_, rfl⟩
  have hix : ∀ W, (Instr.index 9 (S s) (.int .i64 ((n : Int) - 1))).run Tryz.prog W = .ok (.int .u8 ((b : UInt8).toNat : Int)) W := fun W => by
    have hn1 : n = t.length + 1 := by rw [← hn, h3]; simp
    rw [show (n : Int) - 1 = ((t.length : Nat) : Int) from by omega, h3]
    exact index_str _ _ (by simp) _ (by simp) W
  have hn1 : 0 < n := by rw [← hn, h3]; simp
  have hn2 : (0 : Int) < (n : Int) := by omega
  have hn3 : (n : Int) ≤ 8000 := by omega
  have hg : ¬ (8000 : Int) < (n : Int) := by omega
  obtain ⟨bz, hbz⟩ : ∃ bz : Int, ((b.toNat : Nat) : Int) = bz := ⟨_, rfl⟩
  have hb1 : (bz == 10) = false := by
    rw [← hbz]
    have : b.toNat ≠ 10 := fun e => h4 (UInt8.toNat_inj.1 e)
    simp; omega
  rw [hbz] at hix
  clear hbz h4
  rw [hn] at hs
  clear h3 hn
  have HT := Lib.hid hT
  have HP1 := Lib.hid hP1
  have HP2 := Lib.hid hP2
  clear hT hP1 hP2 h8
  go_enter Tryz.func5, Tryz.ntmps5
  go_wp2_with fail
  refine (lives_any w HT.out).mono ?_
  rintro e w2 ⟨rfl, hb2⟩
  have B2 := Lib.hid hb2
  clear hb2
  go_wp2_with fail
  refine (HP1.out w2 B2.out).mono ?_
  rintro e w3 ⟨hb3, a1, e1, rfl, hr3⟩
  obtain ⟨X3, hX3⟩ : ∃ X, X = w3.alloc (.cells (nv y (.slice none y.l.length 0) (.slice a1 y.p.length e1)) 32) := ⟨_, rfl⟩
  obtain ⟨hbX, hbk⟩ := box_new w3 y _ _ hX3
  have B3 := Lib.hid (B2.out.trans ((hb3.trans (hbX.mono hb3.size)).mono B2.out.size))
  have HR3 := Lib.hid (hr3.under hbX)
  have HK3 := Lib.hid hbk
  have HX3 := Lib.hid hX3
  clear hb3 hr3 hX3 hbX hbk
  go_upto_region 6 with (fail)
  rw [← HX3.out]
  obtain ⟨g3, hg3⟩ : ∃ g, g = w3.heap.size := ⟨_, rfl⟩
  have HG3 := Lib.hid hg3
  rw [← hg3] at HK3 ⊢
  clear hg3
  go_wp2
  go_loopw [8, 9] (fun v i wr => ∃ (j : Nat) (u : K.T), v = S u ∧ Go.RowKit.Hid (u = K.sp j) ∧ i = .int .i64 (j : Int) ∧ j ≤ 9 ∧ wr = X3) (fun _ i _ => 9 - (intOf i).toNat)
  case atStart => exact ⟨0, [], rfl, Lib.hid (show ([] : K.T) = K.sp 0 from rfl), rfl, by omega, by first | rfl | trivial⟩
  case round =>
    obtain ⟨j, u, rfl, hu, rfl, hj, hwr⟩ := hrel
    have HU := Lib.hid hu.out
    clear hu
    subst wr
    have hj0 : (0 : Int) ≤ (j : Int) := by omega
    have hj9 : (j : Int) ≤ 9 := by omega
    have hul : (⟨u.toArray⟩ : ByteArray).size = j := by rw [S_size, HU.out, sp_len]
    by_cases q : (j : Int) < m ∧ j < 9
    · obtain ⟨q1, q2⟩ := q
      have q3 : (j : Int) < 9 := by omega
      obtain ⟨u', hu'⟩ : ∃ u', u' = K.sp (j + 1) := ⟨_, rfl⟩
      have HU2 := Lib.hid hu'
      clear hu'
      go_wp2
      go_roundw
      case rel => exact ⟨j + 1, u', (by rw [HU2.out, ← sp_snoc, ← HU.out]; exact cat2 u [32]), Lib.hid HU2.out, by go_num, by omega, by first | rfl | trivial⟩
      case measure => simp [intOf]; omega
    · have hq : ¬ (j : Int) < m ∨ ((j : Int) < m ∧ ¬ (j : Int) < 9) := by omega
      clear q
      rcases hq with q1 | ⟨q1, q2⟩
      all_goals
        go_wp2_with fail
        rw [show Value.string (((({ data := u.toArray } ++ { data := #[10, 35, 120, 58, 32, 121, 10] }) ++ { data := u.toArray }) ++ { data := #[35, 32, 122, 10] }) ++ { data := s.toArray }) = S (K.padded j s) from by unfold K.padded; rw [← HU.out]; exact cat5 u [10, 35, 120, 58, 32, 121, 10] u [35, 32, 122, 10] s]
        refine (HP2.out j hj X3 B3.out).mono ?_
        rintro e w4 ⟨hb4, a2, e2, rfl, hr4⟩
        obtain ⟨X4, hX4⟩ : ∃ X, X = w4.alloc (.cells (nv y (.slice none y.l.length 0) (.slice a2 y.p.length e2)) 32) := ⟨_, rfl⟩
        obtain ⟨hbX, hbk⟩ := box_new w4 y _ _ hX4
        have hbb := hb4.trans (hbX.mono hb4.size)
        have B4 := Lib.hid (B3.out.trans (hbb.mono B3.out.size))
        have HR4 := Lib.hid (HR3.out.under hbb)
        have HS := Lib.hid (same_yes y _ _ X4 _ _ _ _ HR4.out (hr4.under hbX))
        have HK4 := Lib.hid (HK3.out.under hbb)
        have HX4 := Lib.hid hX4
        obtain ⟨d0, d1, d2, d3⟩ := four HK4.out
        have hl3 := blk_lt HK4.out
        obtain ⟨f0, f1, f2, f3⟩ := four hbk
        have hl4 := blk_lt hbk
        clear hb4 hr4 hX4 hbX hbk hbb
        go_upto_region 12 with (fail)
        rw [← HX4.out]
        go_wp2_with fail
        refine (HS.out).mono ?_
        rintro e w5 ⟨rfl, hb5⟩
        have B5 := Lib.hid (B4.out.trans (hb5.mono B4.out.size))
        have HR5 := Lib.hid (HR4.out.under hb5)
        have HK5 := Lib.hid (HK4.out.under hb5)
        clear hb5 d0 d1 d2 d3 f0 f1 f2 f3 hl3 hl4
        go_wp2
        refine bodyPost_ret (v := .bool true) (by simp [results, Tryz.results5, go_sem]) rfl ?_
        exact ⟨rfl, B5.out⟩
theorem blanks_any (w : World) (s : K.T) (m : Int) (hl : s.length ≤ 140737488355000) (hT : Tb w) :
    Calls Tryz.prog 5 #[S s, .int .i64 m] w fun e w' => e = .returned (.bool true) ∧ Below w.heap.size w w' := by
  by_cases h8 : s.length ≤ 8000
  · cases h2 : K.parse s with
    | error o => exact blanks_err w s m h8 hT o h2
    | ok p =>
      obtain h3 | ⟨t, b, h3⟩ := List.eq_nil_or_concat s
      · exact blanks_nil w s m h8 hT p h2 h3
      · have h3 : s = t ++ [b] := by simpa using h3
        by_cases h4 : b = 10
        · subst h4
          exact blanks_lf w s m h8 hT p h2 t h3
        · exact blanks_oth w s m h8 hT p h2 t b h3 h4
  · exact blanks_long w s m hl (by omega) hT
theorem blanks_str (w : World) (s : ByteArray) (m : Int) (hs : s.size ≤ 140737488353000) (hT : Tb w) :
    Calls Tryz.prog 5 #[.string s, .int .i64 m] w fun e w' => e = .returned (.bool true) ∧ Below w.heap.size w w' := by
  obtain ⟨h1, h2⟩ := text_of s
  rw [h1]
  exact blanks_any w s.toList m (by omega) hT
end Go.Proofs.YtegobomfhdfodaaGreatDoor
