/- THE LAW ValueHeld: the document's pairs, WALKED. -/
import Derived.Test.YtnnnnlcpmocnfaaGreatDoorRk3
import Derived.Outline
import Derived.WalkLawsBesides
import Derived.Deep.RegionLaw
import Derived.Deep.RegionHeld3
namespace Go.Proofs.YtnnnnlcpmocnfaaGreatDoor
open Go.RowKit
set_option linter.unusedVariables false
set_option linter.unusedSimpArgs false
attribute [local go_sem] run_store_float


set_option maxRecDepth 100000 in
set_option maxHeartbeats 8000000 in
theorem rpairs_of (l : List (ByteArray × V)) (ih : ∀ e, e ∈ l → RCheckC e.2) : RCheckPC l := by
  intro w q d hq hl112 hd0 hd9 hd8
  obtain ⟨ad, cap, rfl, hl⟩ := hq.form
  obtain ⟨R, hR⟩ : ∃ R : Int, R = if chkP l d = 0 then onceErr l else chkP l d := ⟨_, rfl⟩
  unfold prsErr
  rw [← hR]
  have HR := Lib.hid hR
  obtain ⟨n, hn⟩ : ∃ n, n = l.length := ⟨_, rfl⟩
  rw [← hn] at hq hl hl112 ⊢
  have Hn := Lib.hid hn
  have Hq := Lib.hid hq
  have H112 := Lib.hid hl112
  have Ih := Lib.hid ih
  have Hd8 := Lib.hid hd8
  clear hn hq hl112 ih hd8 hR
  go_enter Tryz.func67, Tryz.ntmps67
  go_wp2
  go_loopw [12] (fun i wr => ∃ (k : Nat), i = .int .i64 (k : Int) ∧ k ≤ n ∧ Go.RowKit.Hid ((∀ (j : Nat) (y : ByteArray × V), j < k → l[j]? = some y → pairErr y.1 y.2 d = 0) ∧ Below w.heap.size w wr)) (fun i _ => n - (intOf i).toNat)
  case atStart => exact ⟨0, rfl, by omega, fun j y hj => absurd hj (by omega), Below.refl _ _⟩
  case round =>
    obtain ⟨k, rfl, hk, hinv⟩ := hrel
    have Hall := Lib.hid hinv.out.1
    have Hbel := Lib.hid hinv.out.2
    clear hinv
    by_cases hlt : k < n
    · obtain ⟨a, ha⟩ := get_at' (l := l) (k := k) (by rw [← Hn.out]; exact hlt)
      obtain ⟨g, o, c, dd, rfl, hg, ⟨c0, c1, c2, c3, c4, c5, c6, c7⟩, hky, hrep⟩ := (Hq.out.under Hbel.out).at ha
      obtain ⟨adc, capc, rfl, _⟩ := hrep.parts.2.1.form
      obtain ⟨add, capd, rfl, _⟩ := hrep.parts.2.2.form
      have hk0 : (0 : Int) ≤ (k : Int) := by omega
      have hkn : (k : Int) < (n : Int) := by omega
      obtain ⟨W, hW⟩ : ∃ W, W = wr.alloc (.cells (pv a.1 a.2 (.slice adc a.2.l.length capc) (.slice add a.2.p.length capd)) 29) := ⟨_, rfl⟩
      have hBW : Below wr.heap.size wr W := by rw [hW]; exact al _ _
      have hA : At8 W wr.heap.size 0 a.1 a.2 (.slice adc a.2.l.length capc) (.slice add a.2.p.length capd) := At8.box (t := 29) (by rw [hW]; exact blk_new wr _)
      have hd8 : d ≤ 8 := Hd8.out (List.ne_nil_of_mem (List.mem_of_getElem? ha))
      have Hkey := Lib.hid (rkey_any utf_is a.1 W hky)
      have HA := Lib.hid hA
      have Hlt := Lib.hid (show wr.heap.size < W.heap.size by rw [hW]; simp)
      have Hrep := Lib.hid (hrep.under hBW)
      have HW := Lib.hid hW
      have HbW := Lib.hid (Hbel.out.trans (hBW.mono Hbel.out.size))
      have Ha := Lib.hid ha
      obtain ⟨z0, z1, z2, z3, z4, z5, z6, z7⟩ := hA
      simp only [Nat.zero_add] at z0 z1 z2 z3 z4 z5 z6 z7
      clear hW hBW ha hrep hg hky
      by_cases h0 : keyErr a.1 = 0
      · have hp : pairErr a.1 a.2 d = chk a.2 d := by unfold pairErr; rw [if_pos h0]
        have Hp := Lib.hid hp
        rw [h0] at Hkey
        clear h0 hp
        go_wp2_with fail
        rw [← HW.out]
        refine (Hkey.out).mono ?_
        rintro e w1 ⟨rfl, hb1⟩
        clear z0 z1 z2 z3 z4 z5 z6 z7
        obtain ⟨z0, z1, z2, z3, z4, z5, z6, z7⟩ := HA.out.keep (hb1.block _ Hlt.out)
        simp only [Nat.zero_add] at z0 z1 z2 z3 z4 z5 z6 z7
        have Hcall := Lib.hid (Ih.out a (List.mem_of_getElem? Ha.out) w1 _ _ d (Hrep.out.under hb1) hd0 hd8)
        have Hb1 := Lib.hid (HbW.out.trans (hb1.mono HbW.out.size))
        clear hb1
        go_wp2_with fail
        refine (Hcall.out).mono ?_
        rintro e w2 ⟨rfl, hb2⟩
        have Hb2 := Lib.hid (Hb1.out.trans (hb2.mono Hb1.out.size))
        clear hb2 z0 z1 z2 z3 z4 z5 z6 z7
        by_cases hz : chk a.2 d = 0
        · have Hall' := Lib.hid (show ∀ (j : Nat) (y : ByteArray × V), j < k + 1 → l[j]? = some y → pairErr y.1 y.2 d = 0 from fun j y hj hy => by
            by_cases e : j = k
            · subst e; rw [Ha.out] at hy; obtain rfl := Option.some.inj hy; rw [Hp.out]; exact hz
            · exact Hall.out j y (by omega) hy)
          rw [hz]
          clear hz
          go_wp2
          go_roundw
          case rel => exact ⟨k + 1, by go_num, by omega, Hall'.out, Hb2.out⟩
          case measure => simp [intOf]; omega
        · have Hcut := Lib.hid (chkP_cut Ha.out Hall.out (by rw [Hp.out]; exact hz))
          have Hz := Lib.hid hz
          go_wp2
          go_ret
          exact ⟨by rw [HR.out, Hcut.out, Hp.out, if_neg Hz.out]; rfl, Hb2.out⟩
      · have hp : pairErr a.1 a.2 d = keyErr a.1 := by unfold pairErr; rw [if_neg h0]
        have Hcut := Lib.hid (chkP_cut Ha.out Hall.out (by rw [hp]; exact h0))
        have Hp := Lib.hid hp
        have H0 := Lib.hid h0
        clear hp
        go_wp2_with fail
        rw [← HW.out]
        refine (Hkey.out).mono ?_
        rintro e w1 ⟨rfl, hb1⟩
        have Hb1 := Lib.hid (HbW.out.trans (hb1.mono HbW.out.size))
        clear hb1 z0 z1 z2 z3 z4 z5 z6 z7
        go_wp2
        go_ret
        exact ⟨by rw [HR.out, Hcut.out, Hp.out, if_neg H0.out]; rfl, Hb1.out⟩
    · have hz : chkP l d = 0 := chkP_ok fun j y hy => Hall.out j y (by have := lt_of_get hy; have := Hn.out; omega) hy
      have HR' := Lib.hid (show R = onceErr l by rw [HR.out, if_pos hz])
      clear hz HR Hall
      go_wp2
      go_loopw [31] (fun i v => ∃ (k1 : Nat), i = .int .i64 (k1 : Int) ∧ k1 ≤ n ∧ Go.RowKit.Hid (((l.map (·.1)).take k1).Nodup ∧ Below w.heap.size w v)) (fun i _ => n - (intOf i).toNat)
      case atStart => exact ⟨0, rfl, by omega, by simp, Hbel.out⟩
      case round =>
        obtain ⟨k1, rfl, hk1, hinv⟩ := hrel
        have Hnd := Lib.hid hinv.out.1
        have Hb1 := Lib.hid hinv.out.2
        clear hinv
        by_cases hlt1 : k1 < n
        · obtain ⟨a, ha⟩ := get_at' (l := l) (k := k1) (by rw [← Hn.out]; exact hlt1)
          have Ha := Lib.hid ha
          clear ha
          have hk0 : (0 : Int) ≤ (k1 : Int) := by omega
          have hkn : (k1 : Int) < (n : Int) := by omega
          go_wp2
          go_loopw [9] (fun i v2 => ∃ (m : Nat), i = .int .i64 (m : Int) ∧ m ≤ k1 ∧ Go.RowKit.Hid ((∀ (j : Nat) (y : ByteArray × V), j < m → l[j]? = some y → a.1 ≠ y.1) ∧ Below w.heap.size w v2)) (fun i _ => k1 - (intOf i).toNat)
          case atStart => exact ⟨0, rfl, by omega, fun j y hj => absurd hj (by omega), Hb1.out⟩
          case round =>
            obtain ⟨m, rfl, hm, hinv⟩ := hrel
            have Hne := Lib.hid hinv.out.1
            have Hb2 := Lib.hid hinv.out.2
            clear hinv
            by_cases hlt2 : m < k1
            · obtain ⟨b, hb⟩ := get_at' (l := l) (k := m) (by rw [← Hn.out]; omega)
              obtain ⟨g, o, c, dd, rfl, hg, ⟨c0, c1, c2, c3, c4, c5, c6, c7⟩, hky, hrep⟩ := (Hq.out.under Hb2.out).at Ha.out
              obtain ⟨g', o', c', dd', had, hg', ⟨e0, e1, e2, e3, e4, e5, e6, e7⟩, hky', hrep'⟩ := (Hq.out.under Hb2.out).at hb
              cases had
              have Hb := Lib.hid hb
              clear hb hky hky' hrep hrep' hg hg' c1 c2 c3 c4 c5 c6 c7 e1 e2 e3 e4 e5 e6 e7
              have hm0 : (0 : Int) ≤ (m : Int) := by omega
              have hmk : (m : Int) < (k1 : Int) := by omega
              have hmn : (m : Int) < (n : Int) := by omega
              go_wp2
              go_quiet (fail)
              go_wp2
              · rename_i heq
                have e : a.1 = b.1 := Classical.byContradiction fun e => by rw [str_ne e] at heq; cases heq
                have hin : a.1 ∈ (l.map (·.1)).take k1 := by
                  refine List.mem_iff_getElem?.2 ⟨m, ?_⟩
                  rw [List.getElem?_take_of_lt hlt2, List.getElem?_map, Hb.out, e]
                  rfl
                have H6 : R = 6 := by rw [HR'.out, onceErr_no (dup_not (ks := l.map (·.1)) (k := k1) (by simp [Ha.out]) hin)]
                go_ret
                exact ⟨by rw [H6]; rfl, below_drewN Hb2.out _⟩
              · rename_i hneq
                refine ⟨⟨m + 1, by go_num, by omega, fun j y hj hy => ?_, below_drewN Hb2.out _⟩, by simp [intOf]; omega⟩
                by_cases e : j = m
                · subst e
                  rw [Hb.out] at hy
                  obtain rfl := Option.some.inj hy
                  exact fun e => by rw [e] at hneq; simp at hneq
                · exact Hne.out j y (by omega) hy
            · have Hnd' := Lib.hid (nodup_snoc (ks := l.map (·.1)) (k := k1) (s := a.1) (by simp [Ha.out]) Hnd.out (fun hin => by
                obtain ⟨j, hj⟩ := List.mem_iff_getElem?.1 hin
                have hjk : j < k1 := by
                  have := lt_of_get hj
                  rw [List.length_take] at this
                  omega
                rw [List.getElem?_take_of_lt hjk, List.getElem?_map] at hj
                obtain ⟨y, hy, e⟩ := Option.map_eq_some_iff.1 hj
                exact Hne.out j y (by omega) hy e.symm))
              go_wp2
              go_roundw
              case rel => exact ⟨k1 + 1, by go_num, by omega, Hnd'.out, Hb2.out⟩
              case measure => simp [intOf]; omega
        · have hnd : (l.map (·.1)).Nodup := by
            have h := Hnd.out
            rwa [List.take_of_length_le (by rw [List.length_map, ← Hn.out]; omega)] at h
          have H0 := Lib.hid (show R = 0 by rw [HR'.out, onceErr_ok hnd])
          go_wp2
          go_ret
          exact ⟨by rw [H0.out]; rfl, Hb1.out⟩
end Go.Proofs.YtnnnnlcpmocnfaaGreatDoor
