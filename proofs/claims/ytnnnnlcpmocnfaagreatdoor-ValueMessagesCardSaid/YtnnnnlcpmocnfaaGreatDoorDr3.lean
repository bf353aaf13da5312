/- MESSAGES OF VALUES: the document's read, up to the kind that is told, WALKED. -/
import Derived.Test.YtnnnnlcpmocnfaaGreatDoorDr1
import Derived.Test.YtnnnnlcpmocnfaaGreatDoorRv8
import Derived.Test.YtnnnnlcpmocnfaaGreatDoorRread
import Derived.Test.YtnnnnlcpmocnfaaGreatDoorAt4
import Derived.Test.YtnnnnlcpmocnfaaGreatDoorUt2
import Derived.Outline
import Derived.WalkLawsBesides
import Derived.RegionTactic
import Derived.ChangeAlike
import Derived.Deep.Cut
namespace Go.Proofs.YtnnnnlcpmocnfaaGreatDoor
open Go.RowKit
set_option linter.unusedVariables false
set_option linter.unusedSimpArgs false
attribute [local go_sem] run_store_float

def listR (g : List UInt8 → Except Int V) (s : List UInt8) (fu : Nat) : Except Int V := match partsR s fu with | .error c => .error c | .ok ps => rlistR g ps

set_option maxRecDepth 100000 in
set_option maxHeartbeats 16000000 in
theorem dr_list (s : List UInt8) (fs : List M.Fd) (hr : M.read s = .ok fs) (hs : s.length ≤ 9223372036854775807) (d : Int) (f : M.Fd) (ht : toldOf fs = (5, f)) (hs64 : f.s.length ≤ 65536) (g : List UInt8 → Except Int V) (fu : Nat) (hfu : fu ≤ 8) (hd : d = 8 - (fu : Int)) (hih : ∀ n, fu = n + 1 → DReadC n ∧ g = rmsg n) (w : World) :
    Calls Tryz.prog 24 #[.string ⟨s.toArray⟩, .int .i64 d] w (rdvP (listR g f.s fu) w) := by
  have Ht := Lib.hid ht
  have Hs64 := Lib.hid hs64
  have Hfu := Lib.hid hfu
  have Hd := Lib.hid hd
  have Hih := Lib.hid hih
  clear ht hs64 hfu hd hih
  obtain ⟨Wa, hWa⟩ : ∃ Wa, Wa = w.alloc (.cells #[.int .u8 0, .string ⟨#[]⟩, .bool false, .int .i64 0, .float .f64 0, .slice none 0 0, .slice none 0 0] 27) := ⟨_, rfl⟩
  have hba : Below w.heap.size w Wa := by rw [hWa]; exact al w _
  have hra : Wa.heap[w.heap.size]? = some (.cells #[.int .u8 0, .string ⟨#[]⟩, .bool false, .int .i64 0, .float .f64 0, .slice none 0 0, .slice none 0 0] 27 (0, 0)) := by rw [hWa]; exact blk_new w _
  have HRead := Lib.hid (rread_any s Wa hs)
  have Hr := Lib.hid hr
  have HWa := Lib.hid hWa
  have Hba := Lib.hid hba
  have Hra := Lib.hid hra
  clear hr hWa hba hra hs
  go_enter Tryz.func24, Tryz.ntmps24
  go_wp2_with fail
  rw [← HWa.out]
  refine (HRead.out).mono ?_
  intro e w1 h
  obtain ⟨hb1, h⟩ := h
  rw [Hr.out] at h
  obtain ⟨v, rfl, hrow, hfine, hl⟩ := h
  obtain ⟨ad, cap, rfl, hfl⟩ := hrow.flds hfine (by omega)
  obtain ⟨m, hm⟩ : ∃ m, m = fs.length := ⟨_, rfl⟩
  rw [← hm] at hl ⊢
  have Hm := Lib.hid hm
  have Hfl := Lib.hid hfl
  have Hbw := Lib.hid (Hba.out.trans (hb1.mono Hba.out.size))
  have Hr1 := Lib.hid ((hb1.block _ (lt_of_block Hra.out)).trans Hra.out)
  have Hl1 := Lib.hid (Nat.lt_of_lt_of_le (lt_of_block Hra.out) hb1.size)
  clear hm hfl hb1 hrow hfine
  go_wp2
  obtain ⟨W2, hW2⟩ : ∃ W2, W2 = w1.alloc (.cells #[.int .u8 0, .string ⟨#[]⟩, .bool false, .int .i64 0, .float .f64 0, .slice none 0 0, .slice none 0 0] 27) := ⟨_, rfl⟩
  rw [← hW2]
  have hstart : TInv fs w1 0 ⟨#[]⟩ W2 := by
    rw [hW2]
    exact ⟨rfl, blk_new w1 _, al w1 _⟩
  have Hstart := Lib.hid hstart
  clear hW2 hstart
  go_loopw [9, 31] (fun v i wr => ∃ (k : Nat), i = .int .i64 (k : Int) ∧ k ≤ m ∧ ∃ t : ByteArray, v = .string t ∧ Go.RowKit.Hid (TInv fs w1 k t wr)) (fun _ i _ => m - (intOf i).toNat)
  case atStart => exact ⟨0, rfl, by omega, _, rfl, Hstart⟩
  case round =>
    obtain ⟨k, rfl, hk, t, rfl, Hinv⟩ := hrel
    by_cases hlt : k < m
    · have hne : fs ≠ [] := by rintro rfl; have := Hm.out; simp at this; omega
      obtain ⟨gb, off, rfl, hg, hi⟩ := (Hfl.out.keep Hinv.out.bel).2 hne
      obtain ⟨f2, hf⟩ : ∃ f2, fs[k]? = some f2 := ⟨fs[k]'(by have := Hm.out; omega), by simp⟩
      obtain ⟨a, b, c, l, hfit, q⟩ := hi k f2 hf
      obtain ⟨q0, q1, q2, q3⟩ := q
      obtain ⟨V0, hV0⟩ : ∃ V0, V0 = tl (toldOf (fs.take k)) := ⟨_, rfl⟩
      have hbox := Hinv.out.box
      rw [← hV0] at hbox
      obtain ⟨X, hX⟩ : ∃ X, X = wr.alloc (.cells (fcells a b c l) 73) := ⟨_, rfl⟩
      have HbX := Lib.hid (show X.heap[w1.heap.size]? = some (.cells (cv V0 N0 N0) 27 (0, 0)) by rw [hX]; exact blk_alloc hbox _)
      have HqX := Lib.hid (show X.heap[wr.heap.size]? = some (.cells (fcells a b c l) 73 (0, 0)) by rw [hX]; exact blk_new wr _)
      have HX := Lib.hid hX
      have Hfit := Lib.hid hfit
      have Ha := Lib.hid hf
      have hk0 : (0 : Int) ≤ (k : Int) := by omega
      have hkm : (k : Int) < (m : Int) := by omega
      have hb0 := hfit.b0
      clear hX hbox hfit hf hV0 hi hg hne
      have hlw : w1.heap.size < wr.heap.size := by have := lt_of_block Hinv.out.box; exact this
      have hne1 : ¬ wr.heap.size = w1.heap.size := by omega
      have hne2 : ¬ w1.heap.size = wr.heap.size := by omega
      go_upto_region 9 with (fail)
      rw [← HX.out]
      clear q0 q1 q2 q3
      obtain ⟨q0, q1, q2, q3⟩ := box4 HqX.out
      obtain ⟨⟨h0, h1, h2, h3, h4, h5, h6⟩, g0, g1, g2, g3, g4, g5, g6⟩ := boxf HbX.out
      have hcase : (a = 1 ∧ b = 2) ∨ (a = 2 ∧ b = 0) ∨ (a = 3 ∧ b = 0) ∨ (a = 4 ∧ b = 1) ∨ (a = 5 ∧ b = 2) ∨ (a = 6 ∧ b = 2) ∨ (a = 7 ∧ b = 2) ∨ (a = 1 ∧ ¬ b = 2) ∨ (a = 2 ∧ ¬ b = 0) ∨ (a = 3 ∧ ¬ b = 0) ∨ (a = 4 ∧ ¬ b = 1) ∨ (a = 5 ∧ ¬ b = 2) ∨ (a = 6 ∧ ¬ b = 2) ∨ (a = 7 ∧ ¬ b = 2) ∨ (¬ a = 1 ∧ ¬ a = 2 ∧ ¬ a = 3 ∧ ¬ a = 4 ∧ ¬ a = 5 ∧ ¬ a = 6 ∧ ¬ a = 7) := by omega
      rcases hcase with ⟨rfl, rfl⟩ | ⟨rfl, rfl⟩ | ⟨rfl, rfl⟩ | ⟨rfl, rfl⟩ | ⟨rfl, rfl⟩ | ⟨rfl, rfl⟩ | ⟨rfl, rfl⟩ | ⟨rfl, hne⟩ | ⟨rfl, hne⟩ | ⟨rfl, hne⟩ | ⟨rfl, hne⟩ | ⟨rfl, hne⟩ | ⟨rfl, hne⟩ | ⟨rfl, hne⟩ | ⟨n1, n2, n3, n4, n5, n6, n7⟩
      · have hcn := Int.toNat_of_nonneg Hfit.out.c0
        have HNext := Lib.hid (tinv_on (u := ⟨#[]⟩) Hinv.out Ha.out HX.out (j := 1) (by rw [Hfit.out.e]; simp [kindOf]) (by decide) (ti_no _ (by decide)) (.int .u8 1) (.string ⟨l.toArray⟩) (.bool false) (.int .i64 0) (.float .f64 0) (.slice none 0 0) (.slice none 0 0) (by rw [tl_1, Hfit.out.e]; rfl))
        clear hcn
        go_wp2
        go_roundw
        case rel => exact ⟨k + 1, by go_num, by omega, _, rfl, HNext.out⟩
        case measure => simp [intOf]; omega
      · have hcn := Int.toNat_of_nonneg Hfit.out.c0
        have HNext := Lib.hid (tinv_on (u := ⟨#[]⟩) Hinv.out Ha.out HX.out (j := 2) (by rw [Hfit.out.e]; simp [kindOf]) (by decide) (ti_no _ (by decide)) (.int .u8 2) (.string ⟨#[]⟩) (.bool (c != 0)) (.int .i64 0) (.float .f64 0) (.slice none 0 0) (.slice none 0 0) (by rw [tl_2, Hfit.out.e]; show _ = gv 2 ⟨#[]⟩ (((c.toNat : Nat) : Int) != 0) 0 0 N0 N0; rw [hcn]))
        clear hcn
        go_wp2
        go_roundw
        case rel => exact ⟨k + 1, by go_num, by omega, _, rfl, HNext.out⟩
        case measure => simp [intOf]; omega
      · have hcn := Int.toNat_of_nonneg Hfit.out.c0
        obtain ⟨z, hz⟩ : ∃ z, IntKind.i64.wrap c = z := ⟨_, rfl⟩
        have HNext := Lib.hid (tinv_on (u := ⟨#[]⟩) Hinv.out Ha.out HX.out (j := 3) (by rw [Hfit.out.e]; simp [kindOf]) (by decide) (ti_no _ (by decide)) (.int .u8 3) (.string ⟨#[]⟩) (.bool false) (.int .i64 z) (.float .f64 0) (.slice none 0 0) (.slice none 0 0) (by rw [tl_3, Hfit.out.e]; show _ = gv 3 ⟨#[]⟩ false (IntKind.i64.wrap ((c.toNat : Nat) : Int)) 0 N0 N0; rw [hcn, hz]))
        clear hcn
        have hzb := wrapi64 c
        rw [hz] at hzb
        obtain ⟨hzb0, hzb1⟩ := hzb
        go_wp2
        go_roundw
        case rel => exact ⟨k + 1, by go_num, by omega, _, rfl, HNext.out⟩
        case measure => simp [intOf]; omega
      · have hcn := Int.toNat_of_nonneg Hfit.out.c0
        have HNext := Lib.hid (tinv_on (u := ⟨#[]⟩) Hinv.out Ha.out HX.out (j := 4) (by rw [Hfit.out.e]; simp [kindOf]) (by decide) (ti_no _ (by decide)) (.int .u8 4) (.string ⟨#[]⟩) (.bool false) (.int .i64 0) (.float .f64 c.toNat) (.slice none 0 0) (.slice none 0 0) (by rw [tl_4, Hfit.out.e]; rfl))
        clear hcn
        have h60 := Tryz.from60
        go_wp2
        go_roundw
        case rel => exact ⟨k + 1, by go_num, by omega, _, rfl, HNext.out⟩
        case measure => simp [intOf]; omega
      · have hcn := Int.toNat_of_nonneg Hfit.out.c0
        have HNext := Lib.hid (tinv_on (u := ⟨l.toArray⟩) Hinv.out Ha.out HX.out (j := 5) (by rw [Hfit.out.e]; simp [kindOf]) (by decide) (by rw [← ti_56 _ (by decide), Hfit.out.e]) (.int .u8 5) (.string ⟨#[]⟩) (.bool false) (.int .i64 0) (.float .f64 0) (.slice none 0 0) (.slice none 0 0) (by rw [tl_5]; rfl))
        clear hcn
        go_wp2
        go_region
        all_goals
          go_wp2
          go_roundw
          case rel => exact ⟨k + 1, by go_num, by omega, _, rfl, (HNext.out).drew⟩
          case measure => simp [intOf]; omega
      · have hcn := Int.toNat_of_nonneg Hfit.out.c0
        have HNext := Lib.hid (tinv_on (u := ⟨l.toArray⟩) Hinv.out Ha.out HX.out (j := 6) (by rw [Hfit.out.e]; simp [kindOf]) (by decide) (by rw [← ti_56 _ (by decide), Hfit.out.e]) (.int .u8 6) (.string ⟨#[]⟩) (.bool false) (.int .i64 0) (.float .f64 0) (.slice none 0 0) (.slice none 0 0) (by rw [tl_6]; rfl))
        clear hcn
        go_wp2
        go_region
        all_goals
          go_wp2
          go_roundw
          case rel => exact ⟨k + 1, by go_num, by omega, _, rfl, (HNext.out).drew⟩
          case measure => simp [intOf]; omega
      · have hcn := Int.toNat_of_nonneg Hfit.out.c0
        have HNext := Lib.hid (tinv_on (u := ⟨#[]⟩) Hinv.out Ha.out HX.out (j := 7) (by rw [Hfit.out.e]; simp [kindOf]) (by decide) (ti_no _ (by decide)) (.int .u8 7) (.string ⟨l.toArray⟩) (.bool false) (.int .i64 0) (.float .f64 0) (.slice none 0 0) (.slice none 0 0) (by rw [tl_7, Hfit.out.e]; rfl))
        clear hcn
        go_wp2
        go_roundw
        case rel => exact ⟨k + 1, by go_num, by omega, _, rfl, HNext.out⟩
        case measure => simp [intOf]; omega
      · have h0k : 0 ≤ b := Hfit.out.b0
        have hb1 : (b == 2) = false := by simpa using hne
        have HNext := Lib.hid (tinv_off Hinv.out Ha.out (by rw [Hfit.out.e]; simp [kindOf]; omega) HX.out)
        clear hne
        go_wp2
        go_roundw
        case rel => exact ⟨k + 1, by go_num, by omega, _, rfl, HNext.out⟩
        case measure => simp [intOf]; omega
      · have h0k : 0 ≤ b := Hfit.out.b0
        have hb1 : (b == 0) = false := by simpa using hne
        have HNext := Lib.hid (tinv_off Hinv.out Ha.out (by rw [Hfit.out.e]; simp [kindOf]; omega) HX.out)
        clear hne
        go_wp2
        go_roundw
        case rel => exact ⟨k + 1, by go_num, by omega, _, rfl, HNext.out⟩
        case measure => simp [intOf]; omega
      · have h0k : 0 ≤ b := Hfit.out.b0
        have hb1 : (b == 0) = false := by simpa using hne
        have HNext := Lib.hid (tinv_off Hinv.out Ha.out (by rw [Hfit.out.e]; simp [kindOf]; omega) HX.out)
        clear hne
        go_wp2
        go_roundw
        case rel => exact ⟨k + 1, by go_num, by omega, _, rfl, HNext.out⟩
        case measure => simp [intOf]; omega
      · have h0k : 0 ≤ b := Hfit.out.b0
        have hb1 : (b == 1) = false := by simpa using hne
        have HNext := Lib.hid (tinv_off Hinv.out Ha.out (by rw [Hfit.out.e]; simp [kindOf]; omega) HX.out)
        clear hne
        go_wp2
        go_roundw
        case rel => exact ⟨k + 1, by go_num, by omega, _, rfl, HNext.out⟩
        case measure => simp [intOf]; omega
      · have h0k : 0 ≤ b := Hfit.out.b0
        have hb1 : (b == 2) = false := by simpa using hne
        have HNext := Lib.hid (tinv_off Hinv.out Ha.out (by rw [Hfit.out.e]; simp [kindOf]; omega) HX.out)
        clear hne
        go_wp2
        go_roundw
        case rel => exact ⟨k + 1, by go_num, by omega, _, rfl, HNext.out⟩
        case measure => simp [intOf]; omega
      · have h0k : 0 ≤ b := Hfit.out.b0
        have hb1 : (b == 2) = false := by simpa using hne
        have HNext := Lib.hid (tinv_off Hinv.out Ha.out (by rw [Hfit.out.e]; simp [kindOf]; omega) HX.out)
        clear hne
        go_wp2
        go_roundw
        case rel => exact ⟨k + 1, by go_num, by omega, _, rfl, HNext.out⟩
        case measure => simp [intOf]; omega
      · have h0k : 0 ≤ b := Hfit.out.b0
        have hb1 : (b == 2) = false := by simpa using hne
        have HNext := Lib.hid (tinv_off Hinv.out Ha.out (by rw [Hfit.out.e]; simp [kindOf]; omega) HX.out)
        clear hne
        go_wp2
        go_roundw
        case rel => exact ⟨k + 1, by go_num, by omega, _, rfl, HNext.out⟩
        case measure => simp [intOf]; omega
      · have h0k : 0 ≤ b := Hfit.out.b0
        have m1 : (a == 1) = false := by simpa using n1
        have m2 : (a == 2) = false := by simpa using n2
        have m3 : (a == 3) = false := by simpa using n3
        have m4 : (a == 4) = false := by simpa using n4
        have m5 : (a == 5) = false := by simpa using n5
        have m6 : (a == 6) = false := by simpa using n6
        have m7 : (a == 7) = false := by simpa using n7
        have HNext := Lib.hid (tinv_off Hinv.out Ha.out (by rw [Hfit.out.e]; simp [kindOf]; omega) HX.out)
        clear n1 n2 n3 n4 n5 n6 n7
        go_wp2
        go_roundw
        case rel => exact ⟨k + 1, by go_num, by omega, _, rfl, HNext.out⟩
        case measure => simp [intOf]; omega
    · obtain rfl : k = m := by omega
      have hinv := Hinv.out
      have htake : fs.take k = fs := List.take_of_length_le (by have := Hm.out; omega)
      obtain ⟨hstr, hbox, hbel⟩ := hinv
      rw [htake] at hstr hbox
      have Hbel := Lib.hid hbel
      have Hres := Lib.hid ((hbel.block _ Hl1.out).trans Hr1.out)
      have Hbwr := Lib.hid (Hbw.out.trans (hbel.mono (Nat.le_of_lt Hl1.out)))
      clear htake hbel Hinv
      rw [Ht.out] at hstr hbox
      rw [tl_5] at hbox
      rw [← ti_56 f (by decide)] at hstr
      subst hstr
      have Hread := Lib.hid (rread_any f.s wr (by have := Hs64.out; omega))
      have Hbox := Lib.hid (show wr.heap[w1.heap.size]? = some (.cells (gv7 5 N0 N0) 27 (0, 0)) from hbox)
      obtain ⟨y0, y1, y2, y3, y4, y5, y6⟩ := box7v Hbox.out
      clear hbox
      go_wp2_with fail
      refine (Hread.out).mono ?_
      intro e w3 h
      obtain ⟨hb3, h⟩ := h
      have Hbw3 := Lib.hid (Hbwr.out.trans (hb3.mono Hbwr.out.size))
      have Hres3 := Lib.hid ((hb3.block _ (lt_of_block Hres.out)).trans Hres.out)
      have Hbox3 := Lib.hid ((hb3.block _ (lt_of_block Hbox.out)).trans Hbox.out)
      clear hb3 y0 y1 y2 y3 y4 y5 y6
      cases hm2 : M.read f.s with
      | error c =>
        rw [hm2] at h
        have h : e = .returned (.tuple #[.slice none 0 0, .int .i64 (c : Int)]) := h
        subst h
        obtain ⟨hc1, hc2⟩ := errs_ne (read_no0 hm2)
        have HR := Lib.hid (show listR g f.s fu = .error (c : Int) by unfold listR partsR; rw [hm2])
        clear hm2
        obtain ⟨⟨h0, h1, h2, h3, h4, h5, h6⟩, g0, g1, g2, g3, g4, g5, g6⟩ := zero_box Hres3.out
        go_wp2
        rw [HR.out]
        refine bodyPost_ret (v := .tuple #[.agg #[.int .u8 0, .string ⟨#[]⟩, .bool false, .int .i64 0, .float .f64 0, .slice none 0 0, .slice none 0 0], .int .i64 c]) (by simp [results, Tryz.results24, go_sem, h0, h1, h2, h3, h4, h5, h6]) rfl ?_
        exact ⟨rfl, set7 Hbw3.out _ _ _ _ _ _ _⟩
      | ok fs2 =>
        rw [hm2] at h
        obtain ⟨v2, he, hrow2, hfine2, hl2⟩ := h
        subst he
        obtain ⟨ad2, cap2, rfl, hfl2⟩ := hrow2.flds hfine2 (by omega)
        have hall := rall_any w3 ad2 fs2.length cap2 1 2 fs2 rfl hfl2 (by omega) (by decide) (by decide)
        have hfine4 : ∀ g ∈ allOf 1 2 fs2, Fine g := fun g hg => hfine2 g (List.mem_filter.1 hg).1
        have hlen4 := allOf_len 1 2 fs2
        obtain ⟨ps, hps⟩ : ∃ ps, ps = allOf 1 2 fs2 := ⟨_, rfl⟩
        have Hps := Lib.hid (show ∀ f ∈ ps, f.s.length ≤ 65536 by rw [hps]; exact part_s hm2)
        have hparts : partsR f.s fu = if 256 < ps.length then .error 3 else if fu = 0 then .error 11 else .ok ps := by unfold partsR; rw [hm2, hps]
        have hall' : Calls Tryz.prog 65 #[.slice ad2 fs2.length cap2, .int .i64 1, .int .u8 2] w3 fun e w' => ∃ v, e = .returned v ∧ FRow w' w3.heap.size v ps ∧ Below w3.heap.size w3 w' := by rw [hps]; exact hall
        rw [← hps] at hfine4 hlen4
        have Hall := Lib.hid hall'
        have Hfine4 := Lib.hid hfine4
        have Hl4 := Lib.hid (show ps.length ≤ 4096 by omega)
        have Hparts := Lib.hid hparts
        obtain ⟨n2, hn2⟩ : ∃ n2, n2 = fs2.length := ⟨_, rfl⟩
        rw [← hn2] at Hall ⊢
        clear hall hall' hfine4 hlen4 hps hparts hfl2 hrow2 hfine2 hl2 hm2 hn2
        go_wp2_with fail
        refine (Hall.out).mono ?_
        rintro e w4 ⟨v4, rfl, hrow4, hb4⟩
        have hlt4 := hrow4.lt
        obtain ⟨ad4, cap4, rfl, hfl4⟩ := hrow4.flds Hfine4.out (by have := Hl4.out; omega)
        have Hnew := Lib.hid (show ∀ gq o, ad4 = some ⟨gq, o, none⟩ → gq ≠ w1.heap.size from fun gq o e => by
          have h1 := (hlt4 gq (by rw [e]; rfl)).1
          have h2 := lt_of_block Hbox3.out
          omega)
        have Hbw4 := Lib.hid (Hbw3.out.trans (hb4.mono Hbw3.out.size))
        have Hres4 := Lib.hid ((hb4.block _ (lt_of_block Hres3.out)).trans Hres3.out)
        have Hbox4 := Lib.hid ((hb4.block _ (lt_of_block Hbox3.out)).trans Hbox3.out)
        have Hfl4 := Lib.hid hfl4
        obtain ⟨m, hm⟩ : ∃ m, m = ps.length := ⟨_, rfl⟩
        rw [← hm]
        have Hm := Lib.hid hm
        clear hlt4 hrow4 hfl4 hb4 hm
        by_cases h256 : m ≤ 256
        · cases fu with
          | zero =>
            have hd8 : (8 : Int) ≤ d := by have := Hd.out; omega
            have HR := Lib.hid (show listR g f.s 0 = .error 11 by unfold listR; rw [Hparts.out, if_neg (by have := Hm.out; omega), if_pos rfl])
            have hm256 : (m : Int) ≤ 256 := by omega
            clear h256
            obtain ⟨⟨h0, h1, h2, h3, h4, h5, h6⟩, g0, g1, g2, g3, g4, g5, g6⟩ := zero_box Hres4.out
            go_wp2
            rw [HR.out]
            refine bodyPost_ret (v := .tuple #[.agg #[.int .u8 0, .string ⟨#[]⟩, .bool false, .int .i64 0, .float .f64 0, .slice none 0 0, .slice none 0 0], .int .i64 11]) (by simp [results, Tryz.results24, go_sem, h0, h1, h2, h3, h4, h5, h6]) rfl ?_
            exact ⟨rfl, set7 Hbw4.out _ _ _ _ _ _ _⟩
          | succ n =>
            obtain ⟨ih, hg⟩ := Hih.out n rfl
            subst hg
            have hd8 : d < (8 : Int) := by have := Hd.out; omega
            have hd0 : (0 : Int) ≤ d := by have := Hd.out; have := Hfu.out; omega
            have HR := Lib.hid (show listR (rmsg n) f.s (n + 1) = rlistR (rmsg n) ps by unfold listR; rw [Hparts.out, if_neg (by have := Hm.out; omega), if_neg (by omega)])
            have hm256 : (m : Int) ≤ 256 := by omega
            have Hih' := Lib.hid ih
            have hdn : 8 - (n : Int) = d + 1 := by have := Hd.out; omega
            have Hdn := Lib.hid hdn
            have hadd : IntKind.i64.wrap (d + 1) = d + 1 := IntWalk.i64_in _ (by omega)
            have Hadd := Lib.hid hadd
            have Hm256 := Lib.hid h256
            clear ih hdn hadd h256 Hih
            obtain ⟨y0, y1, y2, y3, y4, y5, y6⟩ := box7v Hbox4.out
            have Hst := Lib.hid (show LInv (rmsg n) ps w w4 w1.heap.size 0 (.slice none 0 0) [] w4 from ⟨Hbox4.out, fun _ _ _ => rfl, VRow.nil _ _, rfl, rfl, Hbw4.out, Nat.le_refl _⟩)
            have Hgv := Lib.hid (lt_of_block Hbox4.out)
            go_wp2
            clear y0 y1 y2 y3 y4 y5 y6
            go_loopw [167] (fun i wr => ∃ (k : Nat) (cur : Value) (es : List (V × Value × Value)), i = .int .i64 (k : Int) ∧ k ≤ m ∧ Go.RowKit.Hid (LInv (rmsg n) ps w w4 w1.heap.size k cur es wr)) (fun i _ => m - (intOf i).toNat)
            case atStart => exact ⟨0, .slice none 0 0, [], rfl, by omega, Hst.out⟩
            case round =>
              obtain ⟨k, cur, es, rfl, hk, hinv⟩ := hrel
              have Hinv := Lib.hid hinv.out
              clear hinv
              by_cases hlt : k < m
              · obtain ⟨fk, hfk⟩ := get_at' (l := ps) (k := k) (by rw [← Hm.out]; exact hlt)
                have hne : ps ≠ [] := by rintro rfl; simp at hfk
                obtain ⟨gp, off, rfl, hgp, hi⟩ := Hfl4.out.2 hne
                obtain ⟨pa, pb, pc', pl, hfit, q⟩ := hi k fk hfk
                obtain ⟨q0, q1, q2, q3⟩ := cells_keep q (Hinv.out.keep gp hgp (Hnew.out gp off rfl))
                have hk0 : (0 : Int) ≤ (k : Int) := by omega
                have hkn : (k : Int) < (m : Int) := by omega
                have hpl : fk.s = pl := by rw [hfit.e]
                have hplen : pl.length ≤ 65536 := by rw [← hpl]; exact Hps.out fk (List.mem_of_getElem? hfk)
                have Hfk := Lib.hid hfk
                have Hpl := Lib.hid hpl
                obtain ⟨X, hX⟩ : ∃ X, X = wr.alloc (.cells (fcells pa pb pc' pl) 73) := ⟨_, rfl⟩
                have hBX : Below wr.heap.size wr X := by rw [hX]; exact al _ _
                have hbx9 : X.heap[wr.heap.size]? = some (.cells (fcells pa pb pc' pl) 73 (0, 0)) := by rw [hX]; exact blk_new wr _
                have Hbw := Lib.hid (show X.heap[w1.heap.size]? = some (.cells (gv7 5 cur (.slice none 0 0)) 27 (0, 0)) from (hBX.block _ (lt_of_block Hinv.out.box)).trans Hinv.out.box)
                have HBX := Lib.hid hBX
                have HbelX := Lib.hid (Hinv.out.bel.trans (hBX.mono Hinv.out.bel.size))
                have Hrow := Lib.hid (Hinv.out.row.under hBX)
                have Hne := Lib.hid (show cur.ownBlock ≠ some w1.heap.size from fun e => by have := (Hinv.out.row.lt _ e).1; have := Hgv.out; omega)
                have Hbase := Lib.hid (show w4.heap.size ≤ X.heap.size from Nat.le_trans Hinv.out.size hBX.size)
                have Hlen := Lib.hid (show es.length * 96 ≤ 140737488353100 by have := Hinv.out.len; omega)
                have HX := Lib.hid hX
                have Hcall := Lib.hid (Hih'.out pl X (by omega))
                rw [Hdn.out] at Hcall
                have Hres5 := Lib.hid ((hBX.block _ (lt_of_block ((Hinv.out.keep w.heap.size (Nat.lt_trans Hl1.out Hgv.out) (by have := Hl1.out; omega)).trans Hres4.out))).trans ((Hinv.out.keep w.heap.size (Nat.lt_trans Hl1.out Hgv.out) (by have := Hl1.out; omega)).trans Hres4.out))
                obtain ⟨adu, capu, hcur⟩ := Hinv.out.row.form
                have Hcur := Lib.hid hcur
                clear hcur
                go_upto_region 41 with (fail)
                rw [← HX.out]
                clear hX hBX hfk hpl hplen hfit hi hne hgp q q0 q1 q2 q3
                obtain ⟨z0, z1, z2, z3⟩ := box4 hbx9
                obtain ⟨y0, y1, y2, y3, y4, y5, y6⟩ := box7v Hbw.out
                have hadd := Hadd.out
                clear hbx9
                cases hm3 : rmsg n pl with
                | error cc =>
                  rw [hm3] at Hcall
                  obtain ⟨hc1, hc2⟩ := ne_facts (rmsg_no0 n _ _ hm3)
                  have HRc := Lib.hid (show rlistR (rmsg n) ps = .error cc by
                    have h1 : rlistG (rmsg n) (ps.take k ++ [fk]) = .error cc := by rw [rlistG_snoc, Hinv.out.eq]; dsimp only; rw [Hpl.out, hm3]
                    have h2 := rlistG_err h1 (ps.drop (k + 1))
                    unfold rlistR
                    rw [cut_snoc Hfk.out, h2])
                  clear hm3
                  go_wp2_with fail
                  refine (Hcall.out).mono ?_
                  rintro e w5 ⟨rfl, hb5⟩
                  clear hadd z0 z1 z2 z3 y0 y1 y2 y3 y4 y5 y6
                  obtain ⟨W6, hW6⟩ : ∃ W6, W6 = w5.alloc (.cells #[.int .u8 0, .string ⟨#[]⟩, .bool false, .int .i64 0, .float .f64 0, .slice none 0 0, .slice none 0 0] 27) := ⟨_, rfl⟩
                  have hb6 : Below X.heap.size X W6 := by rw [hW6]; exact hb5.alloc hb5.size _
                  have Hres6 := Lib.hid ((hb6.block _ (lt_of_block Hres5.out)).trans Hres5.out)
                  have Hbw6 := Lib.hid (HbelX.out.trans (hb6.mono HbelX.out.size))
                  go_upto_region 43 with (fail)
                  rw [← hW6]
                  clear hb5 hb6 hW6
                  obtain ⟨⟨h0, h1, h2, h3, h4, h5, h6⟩, g0, g1, g2, g3, g4, g5, g6⟩ := zero_box Hres6.out
                  go_wp2
                  rw [HR.out, HRc.out]
                  refine bodyPost_ret (v := .tuple #[.agg #[.int .u8 0, .string ⟨#[]⟩, .bool false, .int .i64 0, .float .f64 0, .slice none 0 0, .slice none 0 0], .int .i64 cc]) (by simp [results, Tryz.results24, go_sem, h0, h1, h2, h3, h4, h5, h6]) rfl ?_
                  exact ⟨rfl, set7 Hbw6.out _ _ _ _ _ _ _⟩
                | ok xa =>
                  rw [hm3] at Hcall
                  have Hok := Lib.hid (show rmsg n fk.s = .ok xa by rw [Hpl.out]; exact hm3)
                  clear hm3
                  go_wp2_with fail
                  refine (Hcall.out).mono ?_
                  rintro e w5 ⟨r1, r2, rfl, hr5, hb5⟩
                  clear hadd z0 z1 z2 z3 y0 y1 y2 y3 y4 y5 y6
                  obtain ⟨u1, v1, rfl, _⟩ := hr5.parts.2.1.form
                  obtain ⟨u2, v2, rfl, _⟩ := hr5.parts.2.2.form
                  obtain ⟨W6, hW6⟩ : ∃ W6, W6 = w5.alloc (.cells (cv xa (.slice u1 xa.l.length v1) (.slice u2 xa.p.length v2)) 27) := ⟨_, rfl⟩
                  have hb56 : Below w5.heap.size w5 W6 := by rw [hW6]; exact al _ _
                  have hb6 : Below X.heap.size X W6 := hb5.trans (hb56.mono hb5.size)
                  have Hbox6 := Lib.hid ((hb6.block _ (lt_of_block Hbw.out)).trans Hbw.out)
                  have Hx6 := Lib.hid (show Box W6 w5.heap.size xa _ _ by rw [hW6]; exact Box.new w5 xa (.slice u1 xa.l.length v1) (.slice u2 xa.p.length v2))
                  have Hrep6 := Lib.hid (far_newW Hrow.out (new_under hr5 hb56) (Nat.le_refl _) Hbase.out)
                  have Hrow6 := Lib.hid (Hrow.out.under hb6)
                  have Hb6 := Lib.hid hb6
                  have HW6 := Lib.hid hW6
                  have Hbase6 := Lib.hid (Nat.le_trans Hbase.out hb6.size)
                  go_upto_region 43 with (fail)
                  rw [← HW6.out]
                  clear hW6 hb56 hb6 hb5 hr5
                  obtain ⟨y0, y1, y2, y3, y4, y5, y6⟩ := box7v Hbox6.out
                  obtain ⟨x0, x1, x2, x3, x4, x5, x6⟩ := Hx6.out.at
                  go_wp2_with (at_builtin; refine wp_app_v rfl _ _ rfl w4.heap.size cur es rfl Hrow6.out xa _ _ _ rfl Hrep6.out _ rfl rfl Hlen.out Hbase6.out ?_)
                  intro v7 w7 hrow7 hgr7
                  have hbx7 := (grew_block (Below.refl _ W6) Hrow6.out hgr7 (lt_of_block Hbox6.out) Hne.out).trans Hbox6.out
                  obtain ⟨adv, capv, rfl⟩ := hrow7.form
                  have p5 := (box7v hbx7).2.2.2.2.2.1
                  have pf := frozen_of_row w7 w1.heap.size 5 _ 27 hbx7
                  have HNext := Lib.hid (linv_next Hinv.out Hgv.out Hl1.out HBX.out Hb6.out hrow7 hgr7 Hfk.out Hok.out)
                  rw [List.length_append] at HNext
                  clear y0 y1 y2 y3 y4 y5 y6 x0 x1 x2 x3 x4 x5 x6 hbx7 hrow7 hgr7
                  go_wp2
                  go_roundw
                  case rel => exact ⟨k + 1, _, es ++ [(xa, _, _)], by go_num, by omega, HNext.out⟩
                  case measure => simp [intOf]; omega
              · have hkm : k = m := by omega
                have HRk := Lib.hid (show rlistR (rmsg n) ps = .ok (.mk 5 ⟨#[]⟩ false 0 0 (es.map (·.1)) []) by
                  have h := Hinv.out.eq
                  rw [List.take_of_length_le (by have := Hm.out; omega)] at h
                  unfold rlistR
                  rw [h])
                have hrow := Hinv.out.row
                obtain ⟨adu, capu, rfl⟩ := hrow.form
                have hrr := (Hinv.out.keep w.heap.size (Nat.lt_trans Hl1.out Hgv.out) (by have := Hl1.out; omega)).trans Hres4.out
                obtain ⟨k0, k1, k2, k3, k4, k5, k6⟩ := box7v Hinv.out.box
                obtain ⟨⟨h0, h1, h2, h3, h4, h5, h6⟩, g0, g1, g2, g3, g4, g5, g6⟩ := zero_box hrr
                have Hl256 := Lib.hid (show es.length ≤ 256 by have := Hinv.out.len; have := Hm256.out; omega)
                clear hrow hrr
                go_wp2
                rw [HR.out, HRk.out]
                refine bodyPost_ret (v := .tuple #[.agg (gv7 5 (.slice adu es.length capu) (.slice none 0 0)), .int .i64 0]) (by simp [results, Tryz.results24, go_sem, h0, h1, h2, h3, h4, h5, h6]) rfl ?_
                have Hsz := Lib.hid (show w.heap.size + 1 ≤ w4.heap.size by have := Hl1.out; have := Hgv.out; omega)
                have hdata := Hinv.out.row.data (by have := Hl256.out; omega)
                refine ⟨.slice adu es.length capu, .slice none 0 0, rfl, Rep.of ⟨by show (0 : Int) ≤ 5; decide, by show (5 : Int) ≤ 255; decide, by show (0 : Nat) ≤ _; omega, by show (es.map (·.1)).length * 96 ≤ _; have := Hl256.out; rw [List.length_map]; omega, by show ([] : List (ByteArray × V)).length * 112 ≤ _; simp, by show -9223372036854775808 ≤ (0 : Int); decide, by show (0 : Int) ≤ 9223372036854775807; decide, by show (0 : Nat) < _; omega⟩ ?_ (RepP.nil _ _), set7 Hinv.out.bel _ _ _ _ _ _ _⟩
                refine hdata.keep ⟨by simp [World.setCell], fun g hg _ => (far_set (far_set (far_set (far_set (far_set (far_set (far_set (fun _ _ => rfl) (by simp)) (by simp)) (by simp)) (by simp)) (by simp)) (by simp)) (by simp)) g (Nat.le_trans Hsz.out hg.1)⟩ (fun g hg _ => ⟨by have := Hsz.out; have hg' : w4.heap.size ≤ g := hg.1; omega, hg.2.keep ((far_set (far_set (far_set (far_set (far_set (far_set (far_set (fun _ _ => rfl) (by simp)) (by simp)) (by simp)) (by simp)) (by simp)) (by simp)) (by simp)) g (Nat.le_trans Hsz.out hg.1))⟩)
        · have hm256 : (256 : Int) < (m : Int) := by omega
          have HR := Lib.hid (show listR g f.s fu = .error 3 by unfold listR; rw [Hparts.out, if_pos (by have := Hm.out; omega)])
          clear h256
          obtain ⟨⟨h0, h1, h2, h3, h4, h5, h6⟩, g0, g1, g2, g3, g4, g5, g6⟩ := zero_box Hres4.out
          go_wp2
          rw [HR.out]
          refine bodyPost_ret (v := .tuple #[.agg #[.int .u8 0, .string ⟨#[]⟩, .bool false, .int .i64 0, .float .f64 0, .slice none 0 0, .slice none 0 0], .int .i64 3]) (by simp [results, Tryz.results24, go_sem, h0, h1, h2, h3, h4, h5, h6]) rfl ?_
          exact ⟨rfl, set7 Hbw4.out _ _ _ _ _ _ _⟩
end Go.Proofs.YtnnnnlcpmocnfaaGreatDoor
