/- MESSAGES OF VALUES: the document's read, up to the kind that is told, WALKED. -/
import Derived.Test.YtnnnnlcpmocnfaaGreatDoorDr1
import Derived.Test.YtnnnnlcpmocnfaaGreatDoorRv8
import Derived.Test.YtnnnnlcpmocnfaaGreatDoorRread
import Derived.Test.YtnnnnlcpmocnfaaGreatDoorAt4
import Derived.Test.YtnnnnlcpmocnfaaGreatDoorUt2
import Derived.Outline
import Derived.WalkLawsBesides
import Derived.RegionTactic
import Derived.ChangeAlike
import Derived.Deep.Cut
namespace Go.Proofs.YtnnnnlcpmocnfaaGreatDoor
open Go.RowKit
set_option linter.unusedVariables false
set_option linter.unusedSimpArgs false
attribute [local go_sem] run_store_float

/-- what reading answers at a kind without parts -/
def leafR (t : Int × M.Fd) : Except Int V := if t.1 = 1 then (if keyErr (BA t.2.s) = 0 then .ok (tl t) else .error (keyErr (BA t.2.s))) else if t.1 = 7 then (if t.2.s.length ≤ 4096 then .ok (tl t) else .error 4) else .ok (tl t)

set_option maxRecDepth 100000 in
set_option maxHeartbeats 16000000 in
theorem dr_leaf (s : List UInt8) (fs : List M.Fd) (hr : M.read s = .ok fs) (hs : s.length ≤ 9223372036854775807) (d : Int) (ki : Int) (f : M.Fd) (ht : toldOf fs = (ki, f)) (hki : ki = 0 ∨ ki = 2 ∨ ki = 3 ∨ ki = 4 ∨ ki = 1 ∨ ki = 7) (hn64 : f.n < 18446744073709551616) (hs64 : f.s.length ≤ 65536) (w : World) :
    Calls Tryz.prog 24 #[.string ⟨s.toArray⟩, .int .i64 d] w (rdvP (leafR (ki, f)) w) := by
  have Ht := Lib.hid ht
  have Hki := Lib.hid hki
  have Hn64 := Lib.hid hn64
  have Hs64 := Lib.hid hs64
  clear ht hki hn64 hs64
  obtain ⟨Wa, hWa⟩ : ∃ Wa, Wa = w.alloc (.cells #[.int .u8 0, .string ⟨#[]⟩, .bool false, .int .i64 0, .float .f64 0, .slice none 0 0, .slice none 0 0] 27) := ⟨_, rfl⟩
  have hba : Below w.heap.size w Wa := by rw [hWa]; exact al w _
  have hra : Wa.heap[w.heap.size]? = some (.cells #[.int .u8 0, .string ⟨#[]⟩, .bool false, .int .i64 0, .float .f64 0, .slice none 0 0, .slice none 0 0] 27 (0, 0)) := by rw [hWa]; exact blk_new w _
  have HRead := Lib.hid (rread_any s Wa hs)
  have Hr := Lib.hid hr
  have HWa := Lib.hid hWa
  have Hba := Lib.hid hba
  have Hra := Lib.hid hra
  clear hr hWa hba hra hs
  go_enter Tryz.func24, Tryz.ntmps24
  go_wp2_with fail
  rw [← HWa.out]
  refine (HRead.out).mono ?_
  intro e w1 h
  obtain ⟨hb1, h⟩ := h
  rw [Hr.out] at h
  obtain ⟨v, rfl, hrow, hfine, hl⟩ := h
  obtain ⟨ad, cap, rfl, hfl⟩ := hrow.flds hfine (by omega)
  obtain ⟨m, hm⟩ : ∃ m, m = fs.length := ⟨_, rfl⟩
  rw [← hm] at hl ⊢
  have Hm := Lib.hid hm
  have Hfl := Lib.hid hfl
  have Hbw := Lib.hid (Hba.out.trans (hb1.mono Hba.out.size))
  have Hr1 := Lib.hid ((hb1.block _ (lt_of_block Hra.out)).trans Hra.out)
  have Hl1 := Lib.hid (Nat.lt_of_lt_of_le (lt_of_block Hra.out) hb1.size)
  clear hm hfl hb1 hrow hfine
  go_wp2
  obtain ⟨W2, hW2⟩ : ∃ W2, W2 = w1.alloc (.cells #[.int .u8 0, .string ⟨#[]⟩, .bool false, .int .i64 0, .float .f64 0, .slice none 0 0, .slice none 0 0] 27) := ⟨_, rfl⟩
  rw [← hW2]
  have hstart : TInv fs w1 0 ⟨#[]⟩ W2 := by
    rw [hW2]
    exact ⟨rfl, blk_new w1 _, al w1 _⟩
  have Hstart := Lib.hid hstart
  clear hW2 hstart
  go_loopw [9, 31] (fun v i wr => ∃ (k : Nat), i = .int .i64 (k : Int) ∧ k ≤ m ∧ ∃ t : ByteArray, v = .string t ∧ Go.RowKit.Hid (TInv fs w1 k t wr)) (fun _ i _ => m - (intOf i).toNat)
  case atStart => exact ⟨0, rfl, by omega, _, rfl, Hstart⟩
  case round =>
    obtain ⟨k, rfl, hk, t, rfl, Hinv⟩ := hrel
    by_cases hlt : k < m
    · have hne : fs ≠ [] := by rintro rfl; have := Hm.out; simp at this; omega
      obtain ⟨g, off, rfl, hg, hi⟩ := (Hfl.out.keep Hinv.out.bel).2 hne
      obtain ⟨f2, hf⟩ : ∃ f2, fs[k]? = some f2 := ⟨fs[k]'(by have := Hm.out; omega), by simp⟩
      obtain ⟨a, b, c, l, hfit, q⟩ := hi k f2 hf
      obtain ⟨q0, q1, q2, q3⟩ := q
      obtain ⟨V0, hV0⟩ : ∃ V0, V0 = tl (toldOf (fs.take k)) := ⟨_, rfl⟩
      have hbox := Hinv.out.box
      rw [← hV0] at hbox
      obtain ⟨X, hX⟩ : ∃ X, X = wr.alloc (.cells (fcells a b c l) 73) := ⟨_, rfl⟩
      have HbX := Lib.hid (show X.heap[w1.heap.size]? = some (.cells (cv V0 N0 N0) 27 (0, 0)) by rw [hX]; exact blk_alloc hbox _)
      have HqX := Lib.hid (show X.heap[wr.heap.size]? = some (.cells (fcells a b c l) 73 (0, 0)) by rw [hX]; exact blk_new wr _)
      have HX := Lib.hid hX
      have Hfit := Lib.hid hfit
      have Ha := Lib.hid hf
      have hk0 : (0 : Int) ≤ (k : Int) := by omega
      have hkm : (k : Int) < (m : Int) := by omega
      have hb0 := hfit.b0
      clear hX hbox hfit hf hV0 hi hg hne
      have hlw : w1.heap.size < wr.heap.size := by have := lt_of_block Hinv.out.box; exact this
      have hne1 : ¬ wr.heap.size = w1.heap.size := by omega
      have hne2 : ¬ w1.heap.size = wr.heap.size := by omega
      go_upto_region 9 with (fail)
      rw [← HX.out]
      clear q0 q1 q2 q3
      obtain ⟨q0, q1, q2, q3⟩ := box4 HqX.out
      obtain ⟨⟨h0, h1, h2, h3, h4, h5, h6⟩, g0, g1, g2, g3, g4, g5, g6⟩ := boxf HbX.out
      have hcase : (a = 1 ∧ b = 2) ∨ (a = 2 ∧ b = 0) ∨ (a = 3 ∧ b = 0) ∨ (a = 4 ∧ b = 1) ∨ (a = 5 ∧ b = 2) ∨ (a = 6 ∧ b = 2) ∨ (a = 7 ∧ b = 2) ∨ (a = 1 ∧ ¬ b = 2) ∨ (a = 2 ∧ ¬ b = 0) ∨ (a = 3 ∧ ¬ b = 0) ∨ (a = 4 ∧ ¬ b = 1) ∨ (a = 5 ∧ ¬ b = 2) ∨ (a = 6 ∧ ¬ b = 2) ∨ (a = 7 ∧ ¬ b = 2) ∨ (¬ a = 1 ∧ ¬ a = 2 ∧ ¬ a = 3 ∧ ¬ a = 4 ∧ ¬ a = 5 ∧ ¬ a = 6 ∧ ¬ a = 7) := by omega
      rcases hcase with ⟨rfl, rfl⟩ | ⟨rfl, rfl⟩ | ⟨rfl, rfl⟩ | ⟨rfl, rfl⟩ | ⟨rfl, rfl⟩ | ⟨rfl, rfl⟩ | ⟨rfl, rfl⟩ | ⟨rfl, hne⟩ | ⟨rfl, hne⟩ | ⟨rfl, hne⟩ | ⟨rfl, hne⟩ | ⟨rfl, hne⟩ | ⟨rfl, hne⟩ | ⟨rfl, hne⟩ | ⟨n1, n2, n3, n4, n5, n6, n7⟩
      · have hcn := Int.toNat_of_nonneg Hfit.out.c0
        have HNext := Lib.hid (tinv_on (u := ⟨#[]⟩) Hinv.out Ha.out HX.out (j := 1) (by rw [Hfit.out.e]; simp [kindOf]) (by decide) (ti_no _ (by decide)) (.int .u8 1) (.string ⟨l.toArray⟩) (.bool false) (.int .i64 0) (.float .f64 0) (.slice none 0 0) (.slice none 0 0) (by rw [tl_1, Hfit.out.e]; rfl))
        clear hcn
        go_wp2
        go_roundw
        case rel => exact ⟨k + 1, by go_num, by omega, _, rfl, HNext.out⟩
        case measure => simp [intOf]; omega
      · have hcn := Int.toNat_of_nonneg Hfit.out.c0
        have HNext := Lib.hid (tinv_on (u := ⟨#[]⟩) Hinv.out Ha.out HX.out (j := 2) (by rw [Hfit.out.e]; simp [kindOf]) (by decide) (ti_no _ (by decide)) (.int .u8 2) (.string ⟨#[]⟩) (.bool (c != 0)) (.int .i64 0) (.float .f64 0) (.slice none 0 0) (.slice none 0 0) (by rw [tl_2, Hfit.out.e]; show _ = gv 2 ⟨#[]⟩ (((c.toNat : Nat) : Int) != 0) 0 0 N0 N0; rw [hcn]))
        clear hcn
        go_wp2
        go_roundw
        case rel => exact ⟨k + 1, by go_num, by omega, _, rfl, HNext.out⟩
        case measure => simp [intOf]; omega
      · have hcn := Int.toNat_of_nonneg Hfit.out.c0
        obtain ⟨z, hz⟩ : ∃ z, IntKind.i64.wrap c = z := ⟨_, rfl⟩
        have HNext := Lib.hid (tinv_on (u := ⟨#[]⟩) Hinv.out Ha.out HX.out (j := 3) (by rw [Hfit.out.e]; simp [kindOf]) (by decide) (ti_no _ (by decide)) (.int .u8 3) (.string ⟨#[]⟩) (.bool false) (.int .i64 z) (.float .f64 0) (.slice none 0 0) (.slice none 0 0) (by rw [tl_3, Hfit.out.e]; show _ = gv 3 ⟨#[]⟩ false (IntKind.i64.wrap ((c.toNat : Nat) : Int)) 0 N0 N0; rw [hcn, hz]))
        clear hcn
        have hzb := wrapi64 c
        rw [hz] at hzb
        obtain ⟨hzb0, hzb1⟩ := hzb
        go_wp2
        go_roundw
        case rel => exact ⟨k + 1, by go_num, by omega, _, rfl, HNext.out⟩
        case measure => simp [intOf]; omega
      · have hcn := Int.toNat_of_nonneg Hfit.out.c0
        have HNext := Lib.hid (tinv_on (u := ⟨#[]⟩) Hinv.out Ha.out HX.out (j := 4) (by rw [Hfit.out.e]; simp [kindOf]) (by decide) (ti_no _ (by decide)) (.int .u8 4) (.string ⟨#[]⟩) (.bool false) (.int .i64 0) (.float .f64 c.toNat) (.slice none 0 0) (.slice none 0 0) (by rw [tl_4, Hfit.out.e]; rfl))
        clear hcn
        have h60 := Tryz.from60
        go_wp2
        go_roundw
        case rel => exact ⟨k + 1, by go_num, by omega, _, rfl, HNext.out⟩
        case measure => simp [intOf]; omega
      · have hcn := Int.toNat_of_nonneg Hfit.out.c0
        have HNext := Lib.hid (tinv_on (u := ⟨l.toArray⟩) Hinv.out Ha.out HX.out (j := 5) (by rw [Hfit.out.e]; simp [kindOf]) (by decide) (by rw [← ti_56 _ (by decide), Hfit.out.e]) (.int .u8 5) (.string ⟨#[]⟩) (.bool false) (.int .i64 0) (.float .f64 0) (.slice none 0 0) (.slice none 0 0) (by rw [tl_5]; rfl))
        clear hcn
        go_wp2
        go_region
        all_goals
          go_wp2
          go_roundw
          case rel => exact ⟨k + 1, by go_num, by omega, _, rfl, (HNext.out).drew⟩
          case measure => simp [intOf]; omega
      · have hcn := Int.toNat_of_nonneg Hfit.out.c0
        have HNext := Lib.hid (tinv_on (u := ⟨l.toArray⟩) Hinv.out Ha.out HX.out (j := 6) (by rw [Hfit.out.e]; simp [kindOf]) (by decide) (by rw [← ti_56 _ (by decide), Hfit.out.e]) (.int .u8 6) (.string ⟨#[]⟩) (.bool false) (.int .i64 0) (.float .f64 0) (.slice none 0 0) (.slice none 0 0) (by rw [tl_6]; rfl))
        clear hcn
        go_wp2
        go_region
        all_goals
          go_wp2
          go_roundw
          case rel => exact ⟨k + 1, by go_num, by omega, _, rfl, (HNext.out).drew⟩
          case measure => simp [intOf]; omega
      · have hcn := Int.toNat_of_nonneg Hfit.out.c0
        have HNext := Lib.hid (tinv_on (u := ⟨#[]⟩) Hinv.out Ha.out HX.out (j := 7) (by rw [Hfit.out.e]; simp [kindOf]) (by decide) (ti_no _ (by decide)) (.int .u8 7) (.string ⟨l.toArray⟩) (.bool false) (.int .i64 0) (.float .f64 0) (.slice none 0 0) (.slice none 0 0) (by rw [tl_7, Hfit.out.e]; rfl))
        clear hcn
        go_wp2
        go_roundw
        case rel => exact ⟨k + 1, by go_num, by omega, _, rfl, HNext.out⟩
        case measure => simp [intOf]; omega
      · have h0k : 0 ≤ b := Hfit.out.b0
        have hb1 : (b == 2) = false := by simpa using hne
        have HNext := Lib.hid (tinv_off Hinv.out Ha.out (by rw [Hfit.out.e]; simp [kindOf]; omega) HX.out)
        clear hne
        go_wp2
        go_roundw
        case rel => exact ⟨k + 1, by go_num, by omega, _, rfl, HNext.out⟩
        case measure => simp [intOf]; omega
      · have h0k : 0 ≤ b := Hfit.out.b0
        have hb1 : (b == 0) = false := by simpa using hne
        have HNext := Lib.hid (tinv_off Hinv.out Ha.out (by rw [Hfit.out.e]; simp [kindOf]; omega) HX.out)
        clear hne
        go_wp2
        go_roundw
        case rel => exact ⟨k + 1, by go_num, by omega, _, rfl, HNext.out⟩
        case measure => simp [intOf]; omega
      · have h0k : 0 ≤ b := Hfit.out.b0
        have hb1 : (b == 0) = false := by simpa using hne
        have HNext := Lib.hid (tinv_off Hinv.out Ha.out (by rw [Hfit.out.e]; simp [kindOf]; omega) HX.out)
        clear hne
        go_wp2
        go_roundw
        case rel => exact ⟨k + 1, by go_num, by omega, _, rfl, HNext.out⟩
        case measure => simp [intOf]; omega
      · have h0k : 0 ≤ b := Hfit.out.b0
        have hb1 : (b == 1) = false := by simpa using hne
        have HNext := Lib.hid (tinv_off Hinv.out Ha.out (by rw [Hfit.out.e]; simp [kindOf]; omega) HX.out)
        clear hne
        go_wp2
        go_roundw
        case rel => exact ⟨k + 1, by go_num, by omega, _, rfl, HNext.out⟩
        case measure => simp [intOf]; omega
      · have h0k : 0 ≤ b := Hfit.out.b0
        have hb1 : (b == 2) = false := by simpa using hne
        have HNext := Lib.hid (tinv_off Hinv.out Ha.out (by rw [Hfit.out.e]; simp [kindOf]; omega) HX.out)
        clear hne
        go_wp2
        go_roundw
        case rel => exact ⟨k + 1, by go_num, by omega, _, rfl, HNext.out⟩
        case measure => simp [intOf]; omega
      · have h0k : 0 ≤ b := Hfit.out.b0
        have hb1 : (b == 2) = false := by simpa using hne
        have HNext := Lib.hid (tinv_off Hinv.out Ha.out (by rw [Hfit.out.e]; simp [kindOf]; omega) HX.out)
        clear hne
        go_wp2
        go_roundw
        case rel => exact ⟨k + 1, by go_num, by omega, _, rfl, HNext.out⟩
        case measure => simp [intOf]; omega
      · have h0k : 0 ≤ b := Hfit.out.b0
        have hb1 : (b == 2) = false := by simpa using hne
        have HNext := Lib.hid (tinv_off Hinv.out Ha.out (by rw [Hfit.out.e]; simp [kindOf]; omega) HX.out)
        clear hne
        go_wp2
        go_roundw
        case rel => exact ⟨k + 1, by go_num, by omega, _, rfl, HNext.out⟩
        case measure => simp [intOf]; omega
      · have h0k : 0 ≤ b := Hfit.out.b0
        have m1 : (a == 1) = false := by simpa using n1
        have m2 : (a == 2) = false := by simpa using n2
        have m3 : (a == 3) = false := by simpa using n3
        have m4 : (a == 4) = false := by simpa using n4
        have m5 : (a == 5) = false := by simpa using n5
        have m6 : (a == 6) = false := by simpa using n6
        have m7 : (a == 7) = false := by simpa using n7
        have HNext := Lib.hid (tinv_off Hinv.out Ha.out (by rw [Hfit.out.e]; simp [kindOf]; omega) HX.out)
        clear n1 n2 n3 n4 n5 n6 n7
        go_wp2
        go_roundw
        case rel => exact ⟨k + 1, by go_num, by omega, _, rfl, HNext.out⟩
        case measure => simp [intOf]; omega
    · obtain rfl : k = m := by omega
      have hinv := Hinv.out
      have htake : fs.take k = fs := List.take_of_length_le (by have := Hm.out; omega)
      obtain ⟨hstr, hbox, hbel⟩ := hinv
      rw [htake] at hstr hbox
      have Hbel := Lib.hid hbel
      have Hres := Lib.hid ((hbel.block _ Hl1.out).trans Hr1.out)
      have Hbwr := Lib.hid (Hbw.out.trans (hbel.mono (Nat.le_of_lt Hl1.out)))
      clear htake hbel Hinv
      rw [Ht.out] at hstr hbox
      obtain ⟨⟨h0, h1, h2, h3, h4, h5, h6⟩, g0, g1, g2, g3, g4, g5, g6⟩ := zero_box Hres.out
      rcases Hki.out with h | h | h | h | h | h
      · subst h
        rw [tl_0] at hbox
        have htt : t = ⟨#[]⟩ := by rw [hstr]; exact (ti_no f (by decide)).symm
        subst htt
        have HR := Lib.hid (show leafR (0, f) = .ok (.mk 0 ⟨#[]⟩ false 0 0 [] []) by rw [← tl_0 f]; simp [leafR])
        obtain ⟨z0, z1, z2, z3, z4, z5, z6⟩ := box7v (show wr.heap[w1.heap.size]? = some (.cells #[.int .u8 0, .string ⟨#[]⟩, .bool false, .int .i64 0, .float .f64 0, .slice none 0 0, .slice none 0 0] 27 (0, 0)) from hbox)
        clear hbox hstr
        go_wp2
        rw [HR.out]
        refine bodyPost_ret (v := .tuple #[.agg (gv 0 ⟨#[]⟩ false 0 0 N0 N0), .int .i64 0]) (by simp [results, Tryz.results24, go_sem, h0, h1, h2, h3, h4, h5, h6]) rfl ?_
        exact ⟨N0, N0, rfl, rep_nil (fit_leaf 0 _ _ _ _ (by omega) (by show (0 : Nat) ≤ _; omega) (by omega) (by omega)) rfl rfl, set7 Hbwr.out _ _ _ _ _ _ _⟩
      · subst h
        rw [tl_2] at hbox
        have htt : t = ⟨#[]⟩ := by rw [hstr]; exact (ti_no f (by decide)).symm
        subst htt
        obtain ⟨bb, hbb⟩ : ∃ bb, ((f.n : Int) != 0) = bb := ⟨_, rfl⟩
        rw [hbb] at hbox
        have HR := Lib.hid (show leafR (2, f) = .ok (.mk 2 ⟨#[]⟩ bb 0 0 [] []) by rw [← hbb, ← tl_2]; simp [leafR])
        clear hbb
        obtain ⟨z0, z1, z2, z3, z4, z5, z6⟩ := box7v (show wr.heap[w1.heap.size]? = some (.cells #[.int .u8 2, .string ⟨#[]⟩, .bool bb, .int .i64 0, .float .f64 0, .slice none 0 0, .slice none 0 0] 27 (0, 0)) from hbox)
        clear hbox hstr
        go_wp2
        rw [HR.out]
        refine bodyPost_ret (v := .tuple #[.agg (gv 2 ⟨#[]⟩ bb 0 0 N0 N0), .int .i64 0]) (by simp [results, Tryz.results24, go_sem, h0, h1, h2, h3, h4, h5, h6]) rfl ?_
        exact ⟨N0, N0, rfl, rep_nil (fit_leaf 2 _ _ _ _ (by omega) (by show (0 : Nat) ≤ _; omega) (by omega) (by omega)) rfl rfl, set7 Hbwr.out _ _ _ _ _ _ _⟩
      · subst h
        rw [tl_3] at hbox
        have htt : t = ⟨#[]⟩ := by rw [hstr]; exact (ti_no f (by decide)).symm
        subst htt
        obtain ⟨z, hz⟩ : ∃ z, IntKind.i64.wrap (f.n : Int) = z := ⟨_, rfl⟩
        have hzb := wrapi64 (f.n : Int)
        rw [hz] at hbox hzb
        have HR := Lib.hid (show leafR (3, f) = .ok (.mk 3 ⟨#[]⟩ false z 0 [] []) by rw [← hz, ← tl_3]; simp [leafR])
        have Hz := Lib.hid hzb
        clear hz hzb
        obtain ⟨z0, z1, z2, z3, z4, z5, z6⟩ := box7v (show wr.heap[w1.heap.size]? = some (.cells #[.int .u8 3, .string ⟨#[]⟩, .bool false, .int .i64 z, .float .f64 0, .slice none 0 0, .slice none 0 0] 27 (0, 0)) from hbox)
        clear hbox hstr
        go_wp2
        rw [HR.out]
        refine bodyPost_ret (v := .tuple #[.agg (gv 3 ⟨#[]⟩ false z 0 N0 N0), .int .i64 0]) (by simp [results, Tryz.results24, go_sem, h0, h1, h2, h3, h4, h5, h6]) rfl ?_
        exact ⟨N0, N0, rfl, rep_nil (fit_leaf 3 _ _ _ _ (by omega) (by show (0 : Nat) ≤ _; omega) Hz.out (by omega)) rfl rfl, set7 Hbwr.out _ _ _ _ _ _ _⟩
      · subst h
        rw [tl_4] at hbox
        have htt : t = ⟨#[]⟩ := by rw [hstr]; exact (ti_no f (by decide)).symm
        subst htt
        have HR := Lib.hid (show leafR (4, f) = .ok (.mk 4 ⟨#[]⟩ false 0 f.n [] []) by rw [← tl_4]; simp [leafR])
        obtain ⟨fn, hfn⟩ : ∃ fn, fn = f.n := ⟨_, rfl⟩
        rw [← hfn] at hbox HR
        have Hfn := Lib.hid (show fn < 18446744073709551616 by rw [hfn]; exact Hn64.out)
        clear hfn
        obtain ⟨z0, z1, z2, z3, z4, z5, z6⟩ := box7v (show wr.heap[w1.heap.size]? = some (.cells #[.int .u8 4, .string ⟨#[]⟩, .bool false, .int .i64 0, .float .f64 fn, .slice none 0 0, .slice none 0 0] 27 (0, 0)) from hbox)
        clear hbox hstr
        go_wp2
        rw [HR.out]
        refine bodyPost_ret (v := .tuple #[.agg (gv 4 ⟨#[]⟩ false 0 fn N0 N0), .int .i64 0]) (by simp [results, Tryz.results24, go_sem, h0, h1, h2, h3, h4, h5, h6]) rfl ?_
        exact ⟨N0, N0, rfl, rep_nil (fit_leaf 4 _ _ _ _ (by omega) (by show (0 : Nat) ≤ _; omega) (by omega) Hfn.out) rfl rfl, set7 Hbwr.out _ _ _ _ _ _ _⟩
      · subst h
        rw [tl_1] at hbox
        have htt : t = ⟨#[]⟩ := by rw [hstr]; exact (ti_no f (by decide)).symm
        subst htt
        obtain ⟨S, hS⟩ : ∃ S, S = BA f.s := ⟨_, rfl⟩
        have hSz : S.size = f.s.length := by rw [hS]; rfl
        have hSm : S.size ≤ 65536 := by rw [hSz]; exact Hs64.out
        rw [← hS] at hbox
        obtain ⟨z0, z1, z2, z3, z4, z5, z6⟩ := box7v (show wr.heap[w1.heap.size]? = some (.cells #[.int .u8 1, .string S, .bool false, .int .i64 0, .float .f64 0, .slice none 0 0, .slice none 0 0] 27 (0, 0)) from hbox)
        have Hbox := Lib.hid hbox
        clear hbox hstr
        by_cases hlong : S.size ≤ 4096
        · cases hu : utf S
          · have HR := Lib.hid (show leafR (1, f) = .error 12 by
              have hke : keyErr (BA f.s) = 12 := by rw [← hS]; unfold keyErr; rw [if_pos hlong, hu]; rfl
              unfold leafR; rw [if_pos rfl, hke]; rfl)
            have Hu := Lib.hid ((utf_is S wr (by omega)))
            rw [hu] at Hu
            have hl1 : (S.size : Int) ≤ 4096 := by omega
            clear hu hlong hSz hS
            go_wp2_with fail
            refine (Hu.out).mono ?_
            rintro e w2 ⟨rfl, hb2⟩
            clear h0 h1 h2 h3 h4 h5 h6 g0 g1 g2 g3 g4 g5 g6 z0 z1 z2 z3 z4 z5 z6
            have Hb2 := Lib.hid (Hbwr.out.trans (hb2.mono Hbwr.out.size))
            obtain ⟨⟨h0, h1, h2, h3, h4, h5, h6⟩, g0, g1, g2, g3, g4, g5, g6⟩ := zero_box ((hb2.block _ (lt_of_block Hres.out)).trans Hres.out)
            clear hb2
            go_wp2
            rw [HR.out]
            refine bodyPost_ret (v := .tuple #[.agg #[.int .u8 0, .string ⟨#[]⟩, .bool false, .int .i64 0, .float .f64 0, .slice none 0 0, .slice none 0 0], .int .i64 12]) (by simp [results, Tryz.results24, go_sem, h0, h1, h2, h3, h4, h5, h6]) rfl ?_
            exact ⟨rfl, set7 Hb2.out _ _ _ _ _ _ _⟩
          · have HR := Lib.hid (show leafR (1, f) = .ok (.mk 1 S false 0 0 [] []) by
              have hke : keyErr (BA f.s) = 0 := by rw [← hS]; unfold keyErr; rw [if_pos hlong, hu]; rfl
              unfold leafR; rw [if_pos rfl, if_pos hke, tl_1, hS])
            have Hu := Lib.hid ((utf_is S wr (by omega)))
            rw [hu] at Hu
            have hl1 : (S.size : Int) ≤ 4096 := by omega
            clear hu hlong hSz hS
            go_wp2_with fail
            refine (Hu.out).mono ?_
            rintro e w2 ⟨rfl, hb2⟩
            clear h0 h1 h2 h3 h4 h5 h6 g0 g1 g2 g3 g4 g5 g6 z0 z1 z2 z3 z4 z5 z6
            have Hb2 := Lib.hid (Hbwr.out.trans (hb2.mono Hbwr.out.size))
            obtain ⟨⟨h0, h1, h2, h3, h4, h5, h6⟩, g0, g1, g2, g3, g4, g5, g6⟩ := zero_box ((hb2.block _ (lt_of_block Hres.out)).trans Hres.out)
            obtain ⟨z0, z1, z2, z3, z4, z5, z6⟩ := box7v (show w2.heap[w1.heap.size]? = some (.cells #[.int .u8 1, .string S, .bool false, .int .i64 0, .float .f64 0, .slice none 0 0, .slice none 0 0] 27 (0, 0)) from (hb2.block _ (lt_of_block Hbox.out)).trans Hbox.out)
            clear hb2
            go_wp2
            rw [HR.out]
            refine bodyPost_ret (v := .tuple #[.agg (gv 1 S false 0 0 N0 N0), .int .i64 0]) (by simp [results, Tryz.results24, go_sem, h0, h1, h2, h3, h4, h5, h6]) rfl ?_
            exact ⟨N0, N0, rfl, rep_nil (fit_leaf 1 _ _ _ _ (by omega) (by omega) (by omega) (by omega)) rfl rfl, set7 Hb2.out _ _ _ _ _ _ _⟩
        · have HR := Lib.hid (show leafR (1, f) = .error 4 by
            have hke : keyErr (BA f.s) = 4 := by rw [← hS]; unfold keyErr; rw [if_neg hlong]
            unfold leafR; rw [if_pos rfl, hke]; rfl)
          have hl1 : (4096 : Int) < (S.size : Int) := by omega
          clear hlong hSz hS
          go_wp2
          rw [HR.out]
          refine bodyPost_ret (v := .tuple #[.agg #[.int .u8 0, .string ⟨#[]⟩, .bool false, .int .i64 0, .float .f64 0, .slice none 0 0, .slice none 0 0], .int .i64 4]) (by simp [results, Tryz.results24, go_sem, h0, h1, h2, h3, h4, h5, h6]) rfl ?_
          exact ⟨rfl, set7 Hbwr.out _ _ _ _ _ _ _⟩
      · subst h
        rw [tl_7] at hbox
        have htt : t = ⟨#[]⟩ := by rw [hstr]; exact (ti_no f (by decide)).symm
        subst htt
        obtain ⟨S, hS⟩ : ∃ S, S = BA f.s := ⟨_, rfl⟩
        have hSz : S.size = f.s.length := by rw [hS]; rfl
        have hSm : S.size ≤ 65536 := by rw [hSz]; exact Hs64.out
        rw [← hS] at hbox
        obtain ⟨z0, z1, z2, z3, z4, z5, z6⟩ := box7v (show wr.heap[w1.heap.size]? = some (.cells #[.int .u8 7, .string S, .bool false, .int .i64 0, .float .f64 0, .slice none 0 0, .slice none 0 0] 27 (0, 0)) from hbox)
        have Hbox := Lib.hid hbox
        clear hbox hstr
        by_cases hlong : S.size ≤ 4096
        · have HR := Lib.hid (show leafR (7, f) = .ok (.mk 7 S false 0 0 [] []) by
            unfold leafR; rw [if_neg (by show ¬ (7 : Int) = 1; decide), if_pos rfl, if_pos (by show f.s.length ≤ 4096; omega), tl_7, hS])
          have hl1 : (S.size : Int) ≤ 4096 := by omega
          clear hlong hSz hS
          go_wp2
          rw [HR.out]
          refine bodyPost_ret (v := .tuple #[.agg (gv 7 S false 0 0 N0 N0), .int .i64 0]) (by simp [results, Tryz.results24, go_sem, h0, h1, h2, h3, h4, h5, h6]) rfl ?_
          exact ⟨N0, N0, rfl, rep_nil (fit_leaf 7 _ _ _ _ (by omega) (by omega) (by omega) (by omega)) rfl rfl, set7 Hbwr.out _ _ _ _ _ _ _⟩
        · have HR := Lib.hid (show leafR (7, f) = .error 4 by
            unfold leafR; rw [if_neg (by show ¬ (7 : Int) = 1; decide), if_pos rfl, if_neg (by show ¬ f.s.length ≤ 4096; omega)])
          have hl1 : (4096 : Int) < (S.size : Int) := by omega
          clear hlong hSz hS
          go_wp2
          rw [HR.out]
          refine bodyPost_ret (v := .tuple #[.agg #[.int .u8 0, .string ⟨#[]⟩, .bool false, .int .i64 0, .float .f64 0, .slice none 0 0, .slice none 0 0], .int .i64 4]) (by simp [results, Tryz.results24, go_sem, h0, h1, h2, h3, h4, h5, h6]) rfl ?_
          exact ⟨rfl, set7 Hbwr.out _ _ _ _ _ _ _⟩
end Go.Proofs.YtnnnnlcpmocnfaaGreatDoor
