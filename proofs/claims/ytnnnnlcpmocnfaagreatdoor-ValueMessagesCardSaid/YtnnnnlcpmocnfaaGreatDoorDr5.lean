/- MESSAGES OF VALUES: the document's readPair; its read at any bytes; Read and ReadPair, WALKED. -/
import Derived.Test.YtnnnnlcpmocnfaaGreatDoorDr2
import Derived.Test.YtnnnnlcpmocnfaaGreatDoorDr3
import Derived.Test.YtnnnnlcpmocnfaaGreatDoorDr4
import Derived.Outline
import Derived.WalkLawsBesides
import Derived.Deep.Cut
namespace Go.Proofs.YtnnnnlcpmocnfaaGreatDoor
open Go.RowKit
set_option linter.unusedVariables false
set_option linter.unusedSimpArgs false
attribute [local go_sem] run_store_float

set_option maxRecDepth 100000 in
set_option maxHeartbeats 8000000 in
theorem drp_of (n : Nat) (hn : n ≤ 8) (ih : DReadC n) : DReadPC n := by
  intro s w hs
  obtain ⟨d, hd⟩ : ∃ d, d = 8 - (n : Int) := ⟨_, rfl⟩
  have hcall : ∀ (s : List UInt8) (w : World), s.length ≤ 9223372036854775807 → Calls Tryz.prog 24 #[.string ⟨s.toArray⟩, .int .i64 d] w (rdvP (rmsg n s) w) := fun s w hs => by rw [hd]; exact ih s w hs
  rw [← hd]
  have Hcall := Lib.hid hcall
  clear hcall ih hd
  obtain ⟨Wa, hWa⟩ : ∃ Wa, Wa = w.alloc (.cells #[.string ⟨#[]⟩, .int .u8 0, .string ⟨#[]⟩, .bool false, .int .i64 0, .float .f64 0, .slice none 0 0, .slice none 0 0] 29) := ⟨_, rfl⟩
  have hba : Below w.heap.size w Wa := by rw [hWa]; exact al w _
  have hra : Wa.heap[w.heap.size]? = some (.cells #[.string ⟨#[]⟩, .int .u8 0, .string ⟨#[]⟩, .bool false, .int .i64 0, .float .f64 0, .slice none 0 0, .slice none 0 0] 29 (0, 0)) := by rw [hWa]; exact blk_new w _
  have HRead := Lib.hid (rread_any s Wa hs)
  have HWa := Lib.hid hWa
  have Hba := Lib.hid hba
  have Hra := Lib.hid hra
  clear hWa hba hra hs hn
  cases hr : M.read s with
  | error c =>
    have HR := Lib.hid (show rpairG (rmsg n) s = .error (c : Int) by unfold rpairG; rw [hr])
    obtain ⟨hc1, hc2⟩ := errs_ne (read_no0 hr)
    have Hr := Lib.hid hr
    clear hr
    go_enter Tryz.func32, Tryz.ntmps32
    go_wp2_with fail
    rw [← HWa.out]
    refine (HRead.out).mono ?_
    intro e w1 h
    obtain ⟨hb1, h⟩ := h
    rw [Hr.out] at h
    have h : e = .returned (.tuple #[.slice none 0 0, .int .i64 (c : Int)]) := h
    subst h
    have Hb1 := Lib.hid (Hba.out.trans (hb1.mono Hba.out.size))
    have Hr1 := Lib.hid ((hb1.block _ (lt_of_block Hra.out)).trans Hra.out)
    clear hb1
    obtain ⟨⟨h0, h1, h2, h3, h4, h5, h6, h7⟩, g0, g1, g2, g3, g4, g5, g6, g7⟩ := zero_box8 Hr1.out
    go_wp2
    rw [HR.out]
    refine bodyPost_ret (v := .tuple #[.agg #[.string ⟨#[]⟩, .int .u8 0, .string ⟨#[]⟩, .bool false, .int .i64 0, .float .f64 0, .slice none 0 0, .slice none 0 0], .int .i64 c]) (by simp [results, Tryz.results32, go_sem, h0, h1, h2, h3, h4, h5, h6, h7]) rfl ?_
    exact ⟨rfl, set8 Hb1.out _ _ _ _ _ _ _ _⟩
  | ok fs =>
    have Hk0 := Lib.hid (str_short hr 1 2)
    have Hv0 := Lib.hid (str_short hr 2 2)
    have HRG := Lib.hid (show rpairG (rmsg n) s = if keyErr (BA (strOf (lastOf 1 2 fs))) = 0 then (match rmsg n (strOf (lastOf 2 2 fs)) with | .error c => .error c | .ok x => .ok (BA (strOf (lastOf 1 2 fs)), x)) else .error (keyErr (BA (strOf (lastOf 1 2 fs)))) by unfold rpairG; rw [hr]; rfl)
    have Hr := Lib.hid hr
    clear hr
    obtain ⟨A1, B1, C1, t1, hl1⟩ := lastVal_str (lastOf 1 2 fs)
    obtain ⟨A2, B2, C2, t2, hl2⟩ := lastVal_str (lastOf 2 2 fs)
    obtain ⟨ks, hks⟩ : ∃ ks, ks = strOf (lastOf 1 2 fs) := ⟨_, rfl⟩
    obtain ⟨vs, hvs⟩ : ∃ vs, vs = strOf (lastOf 2 2 fs) := ⟨_, rfl⟩
    rw [← hks] at hl1 Hk0 HRG
    rw [← hvs] at hl2 Hv0 HRG
    have Hl1 := Lib.hid hl1
    have Hl2 := Lib.hid hl2
    clear hl1 hl2 hks hvs
    obtain ⟨nf, hnf⟩ : ∃ nf, nf = fs.length := ⟨_, rfl⟩
    have Hnf := Lib.hid hnf
    clear hnf
    go_enter Tryz.func32, Tryz.ntmps32
    go_wp2_with fail
    rw [← HWa.out]
    refine (HRead.out).mono ?_
    intro e w1 h
    obtain ⟨hb1, h⟩ := h
    rw [Hr.out] at h
    obtain ⟨v, rfl, hrow, hfine, hl⟩ := h
    obtain ⟨ad, cap, rfl, hfl⟩ := hrow.flds hfine (by omega)
    rw [← Hnf.out]
    have Hb1 := Lib.hid (Hba.out.trans (hb1.mono Hba.out.size))
    have Hr1 := Lib.hid ((hb1.block _ (lt_of_block Hra.out)).trans Hra.out)
    have Hfl1 := Lib.hid hfl
    clear hfl hb1 hrow hfine hl
    go_wp2_with fail
    refine (rlast_any w1 ad nf cap 1 2 fs Hnf.out Hfl1.out (by decide) (by decide)).mono ?_
    rintro e w2 ⟨rfl, hb2⟩
    rw [show lastVal (lastOf 1 (Int.toNat 2) fs) = _ from Hl1.out]
    have Hb2 := Lib.hid (Hb1.out.trans (hb2.mono Hb1.out.size))
    have Hr2 := Lib.hid ((hb2.block _ (lt_of_block Hr1.out)).trans Hr1.out)
    have Hfl2 := Lib.hid (Hfl1.out.under hb2)
    clear hb2
    obtain ⟨W3, hW3⟩ : ∃ W3, W3 = w2.alloc (.cells (fcells A1 B1 C1 ks) 73) := ⟨_, rfl⟩
    have HW3 := Lib.hid hW3
    have h23 : Below w2.heap.size w2 W3 := by rw [hW3]; exact al w2 _
    have Hb3 := Lib.hid (Hb2.out.trans (h23.mono Hb2.out.size))
    have Hr3 := Lib.hid ((h23.block _ (lt_of_block Hr2.out)).trans Hr2.out)
    have Hfl3 := Lib.hid (Hfl2.out.under h23)
    have Hbx3 := Lib.hid (show W3.heap[w2.heap.size]? = some (.cells (fcells A1 B1 C1 ks) 73 (0, 0)) by rw [hW3]; exact blk_new w2 _)
    have Hlt := Lib.hid (show w.heap.size < w2.heap.size from lt_of_block Hr2.out)
    have Hkey := Lib.hid (rkey_any utf_is (BA ks) W3 (by have := Hk0.out; show ks.length ≤ _; omega))
    clear hW3 h23
    go_upto_region 5 with (fail)
    rw [← HW3.out]
    obtain ⟨q0, q1, q2, q3⟩ := box4 Hbx3.out
    go_wp2_with fail
    refine (Hkey.out).mono ?_
    rintro e w4 ⟨rfl, hb4⟩
    clear q0 q1 q2 q3
    have Hb4 := Lib.hid (Hb3.out.trans (hb4.mono Hb3.out.size))
    have Hr4 := Lib.hid ((hb4.block _ (lt_of_block Hr3.out)).trans Hr3.out)
    have Hfl4 := Lib.hid (Hfl3.out.under hb4)
    have Hbx4 := Lib.hid ((hb4.block _ (lt_of_block Hbx3.out)).trans Hbx3.out)
    clear hb4
    by_cases hk : keyErr (BA ks) = 0
    · rw [hk]
      have HRk := Lib.hid (show rpairG (rmsg n) s = (match rmsg n vs with | .error c => .error c | .ok x => .ok (BA ks, x)) by rw [HRG.out, if_pos hk])
      have Hkz := Lib.hid (show (BA ks).size ≤ 140737488353000 by have := Hk0.out; show ks.length ≤ _; omega)
      clear hk HRG
      go_wp2_with fail
      refine (rlast_any w4 ad nf cap 2 2 fs Hnf.out Hfl4.out (by decide) (by decide)).mono ?_
      rintro e w5 ⟨rfl, hb5⟩
      rw [show lastVal (lastOf 2 (Int.toNat 2) fs) = _ from Hl2.out]
      obtain ⟨W6, hW6⟩ : ∃ W6, W6 = w5.alloc (.cells (fcells A2 B2 C2 vs) 73) := ⟨_, rfl⟩
      have HW6 := Lib.hid hW6
      have h46 : Below w4.heap.size w4 W6 := by rw [hW6]; exact hb5.alloc hb5.size _
      have Hb6 := Lib.hid (Hb4.out.trans (h46.mono Hb4.out.size))
      have Hr6 := Lib.hid ((h46.block _ (lt_of_block Hr4.out)).trans Hr4.out)
      have Hbx6 := Lib.hid ((h46.block _ (lt_of_block Hbx4.out)).trans Hbx4.out)
      have Hby6 := Lib.hid (show W6.heap[w5.heap.size]? = some (.cells (fcells A2 B2 C2 vs) 73 (0, 0)) by rw [hW6]; exact blk_new w5 _)
      have Hc6 := Lib.hid (Hcall.out vs W6 (by have := Hv0.out; omega))
      clear hW6 h46 hb5
      go_upto_region 9 with (fail)
      rw [← HW6.out]
      obtain ⟨q0, q1, q2, q3⟩ := box4 Hby6.out
      cases hm : rmsg n vs with
      | error c =>
        rw [hm] at Hc6
        have HR := Lib.hid (show rpairG (rmsg n) s = .error c by rw [HRk.out, hm])
        obtain ⟨hc1, hc2⟩ := ne_facts (rmsg_no0 n _ _ hm)
        clear hm
        go_wp2_with fail
        refine (Hc6.out).mono ?_
        rintro e w7 ⟨rfl, hb7⟩
        clear q0 q1 q2 q3
        obtain ⟨W8, hW8⟩ : ∃ W8, W8 = w7.alloc (.cells #[.int .u8 0, .string ⟨#[]⟩, .bool false, .int .i64 0, .float .f64 0, .slice none 0 0, .slice none 0 0] 27) := ⟨_, rfl⟩
        have h68 : Below W6.heap.size W6 W8 := by rw [hW8]; exact hb7.alloc hb7.size _
        have Hb8 := Lib.hid (Hb6.out.trans (h68.mono Hb6.out.size))
        have Hr8 := Lib.hid ((h68.block _ (lt_of_block Hr6.out)).trans Hr6.out)
        go_upto_region 10 with (fail)
        rw [← hW8]
        clear hW8 h68 hb7
        obtain ⟨⟨h0, h1, h2, h3, h4, h5, h6, h7⟩, g0, g1, g2, g3, g4, g5, g6, g7⟩ := zero_box8 Hr8.out
        go_wp2
        rw [HR.out]
        refine bodyPost_ret (v := .tuple #[.agg #[.string ⟨#[]⟩, .int .u8 0, .string ⟨#[]⟩, .bool false, .int .i64 0, .float .f64 0, .slice none 0 0, .slice none 0 0], .int .i64 c]) (by simp [results, Tryz.results32, go_sem, h0, h1, h2, h3, h4, h5, h6, h7]) rfl ?_
        exact ⟨rfl, set8 Hb8.out _ _ _ _ _ _ _ _⟩
      | ok x =>
        rw [hm] at Hc6
        have HR := Lib.hid (show rpairG (rmsg n) s = .ok (BA ks, x) by rw [HRk.out, hm])
        clear hm
        go_wp2_with fail
        refine (Hc6.out).mono ?_
        rintro e w7 ⟨r1, r2, rfl, hr7, hb7⟩
        clear q0 q1 q2 q3
        obtain ⟨u1, v1, rfl, _⟩ := hr7.parts.2.1.form
        obtain ⟨u2, v2, rfl, _⟩ := hr7.parts.2.2.form
        obtain ⟨W8, hW8⟩ : ∃ W8, W8 = w7.alloc (.cells (cv x (.slice u1 x.l.length v1) (.slice u2 x.p.length v2)) 27) := ⟨_, rfl⟩
        have h78 : Below w7.heap.size w7 W8 := by rw [hW8]; exact al _ _
        have h68 : Below W6.heap.size W6 W8 := hb7.trans (h78.mono hb7.size)
        have Hb8 := Lib.hid (Hb6.out.trans (h68.mono Hb6.out.size))
        have Hr8 := Lib.hid ((h68.block _ (lt_of_block Hr6.out)).trans Hr6.out)
        have Hbx8 := Lib.hid ((h68.block _ (lt_of_block Hbx6.out)).trans Hbx6.out)
        have Hx8 := Lib.hid (show Box W8 w7.heap.size x _ _ by rw [hW8]; exact Box.new w7 x (.slice u1 x.l.length v1) (.slice u2 x.p.length v2))
        have Hrep8 := Lib.hid (new_under hr7 h78)
        have Hs6 := Lib.hid (show w.heap.size < W6.heap.size from lt_of_block Hr6.out)
        have HW8 := Lib.hid hW8
        go_upto_region 10 with (fail)
        rw [← HW8.out]
        clear hW8 h68 h78 hb7 hr7
        obtain ⟨⟨h0, h1, h2, h3, h4, h5, h6, h7⟩, g0, g1, g2, g3, g4, g5, g6, g7⟩ := zero_box8 Hr8.out
        obtain ⟨q0, q1, q2, q3⟩ := box4 Hbx8.out
        obtain ⟨x0, x1, x2, x3, x4, x5, x6⟩ := Hx8.out.at
        go_wp2
        rw [HR.out]
        refine bodyPost_ret (v := .tuple #[.agg (pv (BA ks) x (.slice u1 x.l.length v1) (.slice u2 x.p.length v2)), .int .i64 0]) (by simp [results, Tryz.results32, go_sem, h0, h1, h2, h3, h4, h5, h6, h7]) rfl ?_
        exact ⟨_, _, Hkz.out, rfl, rep_put8 Hrep8.out _ (Nat.le_of_lt Hs6.out) Hs6.out _ _ _ _ _ _ _ _, set8 Hb8.out _ _ _ _ _ _ _ _⟩
    · have HR := Lib.hid (show rpairG (rmsg n) s = .error (keyErr (BA ks)) by rw [HRG.out, if_neg hk])
      generalize keyErr (BA ks) = c at hk HR ⊢
      obtain ⟨hc1, hc2⟩ := ne_facts hk
      clear hk HRG
      obtain ⟨⟨h0, h1, h2, h3, h4, h5, h6, h7⟩, g0, g1, g2, g3, g4, g5, g6, g7⟩ := zero_box8 Hr4.out
      go_wp2
      rw [HR.out]
      refine bodyPost_ret (v := .tuple #[.agg #[.string ⟨#[]⟩, .int .u8 0, .string ⟨#[]⟩, .bool false, .int .i64 0, .float .f64 0, .slice none 0 0, .slice none 0 0], .int .i64 c]) (by simp [results, Tryz.results32, go_sem, h0, h1, h2, h3, h4, h5, h6, h7]) rfl ?_
      exact ⟨rfl, set8 Hb4.out _ _ _ _ _ _ _ _⟩

set_option maxRecDepth 100000 in
set_option maxHeartbeats 2000000 in
theorem dr_err (s : List UInt8) (c : Nat) (hr : M.read s = .error c) (hs : s.length ≤ 9223372036854775807) (d : Int) (w : World) :
    Calls Tryz.prog 24 #[.string ⟨s.toArray⟩, .int .i64 d] w (rdvP (.error (c : Int)) w) := by
  obtain ⟨Wa, hWa⟩ : ∃ Wa, Wa = w.alloc (.cells #[.int .u8 0, .string ⟨#[]⟩, .bool false, .int .i64 0, .float .f64 0, .slice none 0 0, .slice none 0 0] 27) := ⟨_, rfl⟩
  have hba : Below w.heap.size w Wa := by rw [hWa]; exact al w _
  have hra : Wa.heap[w.heap.size]? = some (.cells #[.int .u8 0, .string ⟨#[]⟩, .bool false, .int .i64 0, .float .f64 0, .slice none 0 0, .slice none 0 0] 27 (0, 0)) := by rw [hWa]; exact blk_new w _
  have HRead := Lib.hid (rread_any s Wa hs)
  obtain ⟨hc1, hc2⟩ := errs_ne (read_no0 hr)
  have HWa := Lib.hid hWa
  have Hba := Lib.hid hba
  have Hra := Lib.hid hra
  have Hr := Lib.hid hr
  clear hWa hba hra hs hr
  go_enter Tryz.func24, Tryz.ntmps24
  go_wp2_with fail
  rw [← HWa.out]
  refine (HRead.out).mono ?_
  intro e w1 h
  obtain ⟨hb1, h⟩ := h
  rw [Hr.out] at h
  have h : e = .returned (.tuple #[.slice none 0 0, .int .i64 (c : Int)]) := h
  subst h
  have Hb1 := Lib.hid (Hba.out.trans (hb1.mono Hba.out.size))
  have Hr1 := Lib.hid ((hb1.block _ (lt_of_block Hra.out)).trans Hra.out)
  clear hb1
  obtain ⟨⟨h0, h1, h2, h3, h4, h5, h6⟩, g0, g1, g2, g3, g4, g5, g6⟩ := zero_box Hr1.out
  go_wp2
  refine bodyPost_ret (v := .tuple #[.agg #[.int .u8 0, .string ⟨#[]⟩, .bool false, .int .i64 0, .float .f64 0, .slice none 0 0, .slice none 0 0], .int .i64 c]) (by simp [results, Tryz.results24, go_sem, h0, h1, h2, h3, h4, h5, h6]) rfl ?_
  exact ⟨rfl, set7 Hb1.out _ _ _ _ _ _ _⟩

theorem dread_step (n : Nat) (hn : n ≤ 8) (g : List UInt8 → Except Int V) (ih : ∀ m, n = m + 1 → DReadC m ∧ g = rmsg m) (s : List UInt8) (w : World) (hs : s.length ≤ 9223372036854775807) :
    Calls Tryz.prog 24 #[.string ⟨s.toArray⟩, .int .i64 (8 - (n : Int))] w (rdvP (rbody n g s) w) := by
  unfold rbody
  cases hr : M.read s with
  | error c => exact dr_err s c hr hs _ w
  | ok fs =>
    dsimp only
    have hmem := told_mem fs
    have hkind := told_kind fs
    have hrange := kindOf_range (toldOf fs).2
    obtain ⟨k, f, htf⟩ : ∃ k f, toldOf fs = (k, f) := ⟨_, _, rfl⟩
    rw [htf] at hmem hkind hrange
    have hfine : Fine f ∧ f.s.length ≤ 65536 := by
      rcases hmem with h | h
      · exact ⟨read_fine hr f h, read_s hr f h⟩
      · injection h with h1 h2
        rw [h2]
        exact ⟨⟨0, 0, 0, [], ⟨rfl, by decide, by decide, by decide, by decide, by decide, by decide, by decide⟩⟩, by simp⟩
    obtain ⟨⟨a, b, c, l, hf⟩, hs64⟩ := hfine
    have hn64 : f.n < 18446744073709551616 := by
      rw [hf.e]
      have := hf.c0; have := hf.c1
      show c.toNat < _
      omega
    rw [htf]
    dsimp only at hkind hrange ⊢
    have hk07 : 0 ≤ k ∧ k ≤ 7 := by
      rcases hkind with h | h
      · omega
      · omega
    by_cases k5 : k = 5
    · subst k5
      simp only [show ¬ (5 : Int) = 1 by decide, show ¬ (5 : Int) = 2 by decide, show ¬ (5 : Int) = 3 by decide, show ¬ (5 : Int) = 4 by decide, if_false, if_true]
      have h := dr_list s fs hr hs (8 - (n : Int)) f htf hs64 g n hn rfl ih w
      unfold listR rlistR at h
      exact h
    by_cases k6 : k = 6
    · subst k6
      simp only [show ¬ (6 : Int) = 1 by decide, show ¬ (6 : Int) = 2 by decide, show ¬ (6 : Int) = 3 by decide, show ¬ (6 : Int) = 4 by decide, show ¬ (6 : Int) = 5 by decide, if_false, if_true]
      have h := dr_map s fs hr hs (8 - (n : Int)) f htf hs64 g n hn rfl (fun m hm => ⟨drp_of m (by omega) (ih m hm).1, (ih m hm).2⟩) w
      unfold mapR rpairsR at h
      exact h
    have h := dr_leaf s fs hr hs (8 - (n : Int)) k f htf (by omega) hn64 hs64 w
    unfold leafR at h
    dsimp only at h
    by_cases k1 : k = 1
    · rw [if_pos k1] at h ⊢; subst k1; rw [tl_1] at h; exact h
    rw [if_neg k1] at h ⊢
    by_cases k7 : k = 7
    · rw [if_pos k7] at h
      subst k7
      rw [if_neg (by decide), if_neg (by decide), if_neg (by decide), if_neg (by decide), if_neg (by decide), if_pos rfl]
      rw [tl_7] at h
      exact h
    rw [if_neg k7] at h
    by_cases k2 : k = 2
    · rw [if_pos k2]; subst k2; rw [tl_2] at h; exact h
    rw [if_neg k2]
    by_cases k3 : k = 3
    · rw [if_pos k3]; subst k3; rw [tl_3] at h; exact h
    rw [if_neg k3]
    by_cases k4 : k = 4
    · rw [if_pos k4]; subst k4; rw [tl_4] at h; exact h
    rw [if_neg k4, if_neg k5, if_neg k6, if_neg k7]
    obtain rfl : k = 0 := by omega
    rw [tl_0] at h
    exact h
theorem dread_all : ∀ n, n ≤ 8 → DReadC n
  | 0, h => fun s w hs => dread_step 0 h _ (fun m hm => by omega) s w hs
  | n + 1, h => fun s w hs => dread_step (n + 1) h (rmsg n) (fun m hm => by
      obtain rfl : n = m := by omega
      exact ⟨dread_all n (by omega), rfl⟩) s w hs

set_option maxRecDepth 100000 in
set_option maxHeartbeats 2000000 in
theorem rrd_any (s : List UInt8) (w : World) (hs : s.length ≤ 9223372036854775807) : Calls Tryz.prog 8 #[.string ⟨s.toArray⟩] w (rdvP (readR s) w) := by
  obtain ⟨Wa, hWa⟩ : ∃ Wa, Wa = w.alloc (.cells #[.int .u8 0, .string ⟨#[]⟩, .bool false, .int .i64 0, .float .f64 0, .slice none 0 0, .slice none 0 0] 27) := ⟨_, rfl⟩
  have hba : Below w.heap.size w Wa := by rw [hWa]; exact al w _
  have hra : Wa.heap[w.heap.size]? = some (.cells #[.int .u8 0, .string ⟨#[]⟩, .bool false, .int .i64 0, .float .f64 0, .slice none 0 0, .slice none 0 0] 27 (0, 0)) := by rw [hWa]; exact blk_new w _
  have Hc := Lib.hid (show Calls Tryz.prog 24 #[.string ⟨s.toArray⟩, .int .i64 0] Wa (rdvP (readR s) Wa) from dread_all 8 (by decide) s Wa hs)
  have HWa := Lib.hid hWa
  have Hba := Lib.hid hba
  have Hra := Lib.hid hra
  clear hWa hba hra hs
  cases hm : readR s with
  | error c =>
    rw [hm] at Hc
    clear hm
    go_enter Tryz.func8, Tryz.ntmps8
    go_wp2_with fail
    rw [← HWa.out]
    refine (Hc.out).mono ?_
    rintro e w1 ⟨rfl, hb1⟩
    have Hb1 := Lib.hid (Hba.out.trans (hb1.mono Hba.out.size))
    obtain ⟨⟨h0, h1, h2, h3, h4, h5, h6⟩, g0, g1, g2, g3, g4, g5, g6⟩ := zero_box ((hb1.block _ (lt_of_block Hra.out)).trans Hra.out)
    clear hb1
    go_wp2
    refine bodyPost_ret (v := .tuple #[.agg #[.int .u8 0, .string ⟨#[]⟩, .bool false, .int .i64 0, .float .f64 0, .slice none 0 0, .slice none 0 0], .int .i64 c]) (by simp [results, Tryz.results8, go_sem, h0, h1, h2, h3, h4, h5, h6]) rfl ?_
    exact ⟨rfl, set7 Hb1.out _ _ _ _ _ _ _⟩
  | ok x =>
    rw [hm] at Hc
    clear hm
    go_enter Tryz.func8, Tryz.ntmps8
    go_wp2_with fail
    rw [← HWa.out]
    refine (Hc.out).mono ?_
    rintro e w1 ⟨r1, r2, rfl, hr1, hb1⟩
    obtain ⟨u1, v1, rfl, _⟩ := hr1.parts.2.1.form
    obtain ⟨u2, v2, rfl, _⟩ := hr1.parts.2.2.form
    have Hb1 := Lib.hid (Hba.out.trans (hb1.mono Hba.out.size))
    have Hrep := Lib.hid hr1
    have Hlt := Lib.hid (lt_of_block Hra.out)
    obtain ⟨⟨h0, h1, h2, h3, h4, h5, h6⟩, g0, g1, g2, g3, g4, g5, g6⟩ := zero_box ((hb1.block _ (lt_of_block Hra.out)).trans Hra.out)
    clear hb1 hr1
    go_wp2
    refine bodyPost_ret (v := .tuple #[.agg (cv x (.slice u1 x.l.length v1) (.slice u2 x.p.length v2)), .int .i64 0]) (by simp [results, Tryz.results8, go_sem, h0, h1, h2, h3, h4, h5, h6]) rfl ?_
    exact ⟨_, _, rfl, rep_put7 Hrep.out _ (Nat.le_of_lt Hlt.out) Hlt.out _ _ _ _ _ _ _, set7 Hb1.out _ _ _ _ _ _ _⟩

set_option maxRecDepth 100000 in
set_option maxHeartbeats 2000000 in
theorem rrdp_any (s : List UInt8) (w : World) (hs : s.length ≤ 9223372036854775807) : Calls Tryz.prog 12 #[.string ⟨s.toArray⟩] w (rdpP (readPR s) w) := by
  obtain ⟨Wa, hWa⟩ : ∃ Wa, Wa = w.alloc (.cells #[.string ⟨#[]⟩, .int .u8 0, .string ⟨#[]⟩, .bool false, .int .i64 0, .float .f64 0, .slice none 0 0, .slice none 0 0] 29) := ⟨_, rfl⟩
  have hba : Below w.heap.size w Wa := by rw [hWa]; exact al w _
  have hra : Wa.heap[w.heap.size]? = some (.cells #[.string ⟨#[]⟩, .int .u8 0, .string ⟨#[]⟩, .bool false, .int .i64 0, .float .f64 0, .slice none 0 0, .slice none 0 0] 29 (0, 0)) := by rw [hWa]; exact blk_new w _
  have Hc := Lib.hid (show Calls Tryz.prog 32 #[.string ⟨s.toArray⟩, .int .i64 0] Wa (rdpP (readPR s) Wa) from drp_of 8 (by decide) (dread_all 8 (by decide)) s Wa hs)
  have HWa := Lib.hid hWa
  have Hba := Lib.hid hba
  have Hra := Lib.hid hra
  clear hWa hba hra hs
  cases hm : readPR s with
  | error c =>
    rw [hm] at Hc
    clear hm
    go_enter Tryz.func12, Tryz.ntmps12
    go_wp2_with fail
    rw [← HWa.out]
    refine (Hc.out).mono ?_
    rintro e w1 ⟨rfl, hb1⟩
    have Hb1 := Lib.hid (Hba.out.trans (hb1.mono Hba.out.size))
    obtain ⟨⟨h0, h1, h2, h3, h4, h5, h6, h7⟩, g0, g1, g2, g3, g4, g5, g6, g7⟩ := zero_box8 ((hb1.block _ (lt_of_block Hra.out)).trans Hra.out)
    clear hb1
    go_wp2
    refine bodyPost_ret (v := .tuple #[.agg #[.string ⟨#[]⟩, .int .u8 0, .string ⟨#[]⟩, .bool false, .int .i64 0, .float .f64 0, .slice none 0 0, .slice none 0 0], .int .i64 c]) (by simp [results, Tryz.results12, go_sem, h0, h1, h2, h3, h4, h5, h6, h7]) rfl ?_
    exact ⟨rfl, set8 Hb1.out _ _ _ _ _ _ _ _⟩
  | ok x =>
    rw [hm] at Hc
    clear hm
    go_enter Tryz.func12, Tryz.ntmps12
    go_wp2_with fail
    rw [← HWa.out]
    refine (Hc.out).mono ?_
    rintro e w1 ⟨r1, r2, hkey, rfl, hr1, hb1⟩
    obtain ⟨u1, v1, rfl, _⟩ := hr1.parts.2.1.form
    obtain ⟨u2, v2, rfl, _⟩ := hr1.parts.2.2.form
    have Hb1 := Lib.hid (Hba.out.trans (hb1.mono Hba.out.size))
    have Hrep := Lib.hid hr1
    have Hlt := Lib.hid (lt_of_block Hra.out)
    have Hkey := Lib.hid hkey
    obtain ⟨⟨h0, h1, h2, h3, h4, h5, h6, h7⟩, g0, g1, g2, g3, g4, g5, g6, g7⟩ := zero_box8 ((hb1.block _ (lt_of_block Hra.out)).trans Hra.out)
    clear hb1 hr1 hkey
    go_wp2
    refine bodyPost_ret (v := .tuple #[.agg (pv x.1 x.2 (.slice u1 x.2.l.length v1) (.slice u2 x.2.p.length v2)), .int .i64 0]) (by simp [results, Tryz.results12, go_sem, h0, h1, h2, h3, h4, h5, h6, h7]) rfl ?_
    exact ⟨_, _, Hkey.out, rfl, rep_put8 Hrep.out _ (Nat.le_of_lt Hlt.out) Hlt.out _ _ _ _ _ _ _ _, set8 Hb1.out _ _ _ _ _ _ _ _⟩
end Go.Proofs.YtnnnnlcpmocnfaaGreatDoor
