/- THE LAW ValueHeld's pairs, WALKED. -/
import Derived.Test.YtnnnnlcpmocnfaaGreatDoorCk6
import Derived.Test.YtnnnnlcpmocnfaaGreatDoorLaw0
import Derived.Handy
import Derived.Outline
import Derived.WalkLawsBesides
import Derived.Deep.RegionLaw
import Derived.Deep.RegionHeld3
namespace Go.Proofs.YtnnnnlcpmocnfaaGreatDoor
open Go.RowKit
set_option linter.unusedVariables false
set_option linter.unusedSimpArgs false
attribute [local go_sem] run_store_float


set_option maxRecDepth 100000 in
set_option maxHeartbeats 8000000 in
theorem cpair_of (key : ByteArray) (x : V) (ih : CheckC x) (w : World) (q1 q2 : Value) (d : Int) (hT : Tabs w) (hx : Rep Any w q1 q2 x) (hk : key.size ≤ 140737488353000) (hd0 : 0 ≤ d) (hd8 : d ≤ 8) : Calls Tryz.prog 26 #[.agg (pv key x q1 q2), .int .i64 d] w (Chk (pairErr key x d) w) := by
  obtain ⟨adc, capc, rfl, _⟩ := hx.parts.2.1.form
  obtain ⟨add, capd, rfl, _⟩ := hx.parts.2.2.form
  obtain ⟨W, hW⟩ : ∃ W, W = w.alloc (.cells (pv key x (.slice adc x.l.length capc) (.slice add x.p.length capd)) 29) := ⟨_, rfl⟩
  have hb0 : Below w.heap.size w W := by rw [hW]; exact al w _
  have hA : At8 W w.heap.size 0 key x (.slice adc x.l.length capc) (.slice add x.p.length capd) := At8.box (t := 29) (by rw [hW]; exact blk_new w _)
  have HA := Lib.hid hA
  have Hlt := Lib.hid (show w.heap.size < W.heap.size by rw [hW]; simp)
  have HW := Lib.hid hW
  have Hb0 := Lib.hid hb0
  have HT := Lib.hid (hT.under hb0)
  have Hrep := Lib.hid (hx.under hb0)
  have Ih := Lib.hid ih
  have Hkey := Lib.hid (ckey_any key W hk (hT.under hb0))
  clear hW hb0 hT hx ih hA
  obtain ⟨a0, a1, a2, a3, a4, a5, a6, a7⟩ := HA.out
  simp only [Nat.zero_add] at a0 a1 a2 a3 a4 a5 a6 a7
  by_cases h0 : keyErr key = 0
  · have hp : pairErr key x d = chk x d := by unfold pairErr; rw [if_pos h0]
    rw [hp]
    rw [h0] at Hkey
    clear h0 hp
    go_enter Tryz.func26, Tryz.ntmps26
    go_wp2_with fail
    rw [← HW.out]
    refine (Hkey.out).mono ?_
    intro e w1 hc
    obtain ⟨rfl, hb1⟩ := hc.ok
    clear hc a0 a1 a2 a3 a4 a5 a6 a7
    obtain ⟨a0, a1, a2, a3, a4, a5, a6, a7⟩ := HA.out.keep (hb1.block _ Hlt.out)
    simp only [Nat.zero_add] at a0 a1 a2 a3 a4 a5 a6 a7
    have HT1 := Lib.hid (HT.out.under hb1)
    have Hrep1 := Lib.hid (Hrep.out.under hb1)
    have Hb1 := Lib.hid (Hb0.out.trans (hb1.mono Hb0.out.size))
    clear hb1
    cases hz : decide (chk x d = 0)
    · have hne : chk x d ≠ 0 := of_decide_eq_false hz
      have Hne := Lib.hid hne
      clear hz hne
      go_wp2_with fail
      refine (Ih.out w1 _ _ d HT1.out Hrep1.out hd0 hd8).mono ?_
      intro e w2 hc
      obtain ⟨rfl, hb2⟩ := hc.no Hne.out
      exact ⟨rfl, by exact ⟨Ends.mkn Hne.out, Hb1.out.trans (hb2.mono Hb1.out.size)⟩⟩
    · have he : chk x d = 0 := of_decide_eq_true hz
      have He := Lib.hid he
      clear hz he
      go_wp2_with fail
      refine (Ih.out w1 _ _ d HT1.out Hrep1.out hd0 hd8).mono ?_
      intro e w2 hc
      rw [He.out] at hc
      obtain ⟨rfl, hb2⟩ := hc.ok
      go_wp2
      go_returns
      exact ⟨by rw [He.out]; exact Ends.mk0, Hb1.out.trans (hb2.mono Hb1.out.size)⟩
  · have hp : pairErr key x d = keyErr key := by unfold pairErr; rw [if_neg h0]
    rw [hp]
    have H0 := Lib.hid h0
    clear h0 hp
    go_enter Tryz.func26, Tryz.ntmps26
    go_wp2_with fail
    rw [← HW.out]
    refine (Hkey.out).mono ?_
    intro e w1 hc
    obtain ⟨rfl, hb1⟩ := hc.no H0.out
    exact ⟨rfl, by exact ⟨Ends.mkn H0.out, Hb0.out.trans (hb1.mono Hb0.out.size)⟩⟩

set_option maxRecDepth 100000 in
set_option maxHeartbeats 8000000 in
theorem cpairs_of (l : List (ByteArray × V)) (ih : ∀ e, e ∈ l → CheckC e.2) : CheckPC l := by
  intro w q d hT hq hl112 hd0 hd9 hd8
  obtain ⟨ad, cap, rfl, hl⟩ := hq.form
  by_cases hmany : ¬ l.length ≤ 256
  · have hp : pairsErr l d = 3 := by unfold pairsErr; rw [if_pos hmany]
    rw [hp]
    have Hm := Lib.hid (show ¬ ((l.length : Nat) : Int) ≤ 256 by omega)
    clear hp hmany hq hT ih
    go_enter Tryz.func48, Tryz.ntmps48
    go_wp2_with fail
    refine (many_no _ _ (by have := Hm.out; omega)).mono ?_
    rintro e w' ⟨rfl, rfl⟩
    exact ⟨rfl, by exact ⟨Ends.mkn (by decide), Below.refl _ _⟩⟩
  have hp : pairsErr l d = if chkP l d = 0 then onceErr l else chkP l d := by unfold pairsErr; rw [if_neg hmany]
  rw [hp]
  obtain ⟨R, hR⟩ : ∃ R : Int, R = if chkP l d = 0 then onceErr l else chkP l d := ⟨_, rfl⟩
  rw [← hR]
  have HR := Lib.hid hR
  obtain ⟨n, hn⟩ : ∃ n, n = l.length := ⟨_, rfl⟩
  rw [← hn] at hq hl hl112 hmany ⊢
  have hm : (n : Int) ≤ 256 := by omega
  have Hn := Lib.hid hn
  have Hq := Lib.hid hq
  have HT := Lib.hid hT
  have H112 := Lib.hid hl112
  have Ih := Lib.hid ih
  have Hd8 := Lib.hid hd8
  clear hn hq hT hl112 ih hp hmany hd8 hR
  go_enter Tryz.func48, Tryz.ntmps48
  go_wp2_with fail
  refine (many_ok _ _ hm).mono ?_
  rintro e w' ⟨rfl, rfl⟩
  go_wp2
  go_loopw [11] (fun i wr => ∃ (k : Nat), i = .int .i64 (k : Int) ∧ k ≤ n ∧ Go.RowKit.Hid ((∀ (j : Nat) (y : ByteArray × V), j < k → l[j]? = some y → pairErr y.1 y.2 d = 0) ∧ Below w.heap.size w wr)) (fun i _ => n - (intOf i).toNat)
  case atStart => exact ⟨0, rfl, by omega, fun j y hj => absurd hj (by omega), Below.refl _ _⟩
  case round =>
    obtain ⟨k, rfl, hk, hinv⟩ := hrel
    have Hall := Lib.hid hinv.out.1
    have Hbel := Lib.hid hinv.out.2
    clear hinv
    by_cases hlt : k < n
    · obtain ⟨a, ha⟩ := get_at' (l := l) (k := k) (by rw [← Hn.out]; exact hlt)
      obtain ⟨g, o, c, dd, rfl, hg, ⟨c0, c1, c2, c3, c4, c5, c6, c7⟩, hky, hrep⟩ := (Hq.out.under Hbel.out).at ha
      obtain ⟨adc, capc, rfl, _⟩ := hrep.parts.2.1.form
      obtain ⟨add, capd, rfl, _⟩ := hrep.parts.2.2.form
      have hk0 : (0 : Int) ≤ (k : Int) := by omega
      have hkn : (k : Int) < (n : Int) := by omega
      obtain ⟨W, hW⟩ : ∃ W, W = wr.alloc (.cells (pv a.1 a.2 (.slice adc a.2.l.length capc) (.slice add a.2.p.length capd)) 29) := ⟨_, rfl⟩
      have hBW : Below wr.heap.size wr W := by rw [hW]; exact al _ _
      have hA : At8 W wr.heap.size 0 a.1 a.2 (.slice adc a.2.l.length capc) (.slice add a.2.p.length capd) := At8.box (t := 29) (by rw [hW]; exact blk_new wr _)
      have hd8 : d ≤ 8 := Hd8.out (List.ne_nil_of_mem (List.mem_of_getElem? ha))
      have Hcall := Lib.hid (cpair_of a.1 a.2 (Ih.out a (List.mem_of_getElem? ha)) W _ _ d ((HT.out.under Hbel.out).under hBW) (hrep.under hBW) hky hd0 hd8)
      have HW := Lib.hid hW
      have HbW := Lib.hid (Hbel.out.trans (hBW.mono Hbel.out.size))
      have Ha := Lib.hid ha
      obtain ⟨z0, z1, z2, z3, z4, z5, z6, z7⟩ := hA
      simp only [Nat.zero_add] at z0 z1 z2 z3 z4 z5 z6 z7
      clear hW hBW ha hrep hg hky hd8
      cases hz : decide (pairErr a.1 a.2 d = 0)
      · have hne : pairErr a.1 a.2 d ≠ 0 := of_decide_eq_false hz
        have hcut := chkP_cut Ha.out Hall.out hne
        have Hne := Lib.hid hne
        have Hcut := Lib.hid hcut
        clear hz hne hcut
        go_wp2_with fail
        rw [← HW.out]
        refine (Hcall.out).mono ?_
        intro e w1 hc
        obtain ⟨rfl, hb1⟩ := hc.no Hne.out
        exact ⟨rfl, by rw [HR.out, Hcut.out, if_neg Hne.out]; exact ⟨Ends.mkn Hne.out, HbW.out.trans (hb1.mono HbW.out.size)⟩⟩
      · have he : pairErr a.1 a.2 d = 0 := of_decide_eq_true hz
        have Hall' := Lib.hid (show ∀ (j : Nat) (y : ByteArray × V), j < k + 1 → l[j]? = some y → pairErr y.1 y.2 d = 0 from fun j y hj hy => by
          by_cases e : j = k
          · subst e; rw [Ha.out] at hy; obtain rfl := Option.some.inj hy; exact he
          · exact Hall.out j y (by omega) hy)
        rw [he] at Hcall
        clear hz he
        go_wp2_with fail
        rw [← HW.out]
        refine (Hcall.out).mono ?_
        intro e w1 hc
        obtain ⟨rfl, hb1⟩ := hc.ok
        have Hb1 := Lib.hid (HbW.out.trans (hb1.mono HbW.out.size))
        clear hc hb1 z0 z1 z2 z3 z4 z5 z6 z7
        go_wp2
        go_roundw
        case rel => exact ⟨k + 1, by go_num, by omega, Hall'.out, Hb1.out⟩
        case measure => simp [intOf]; omega
    · have hz : chkP l d = 0 := chkP_ok fun j y hy => Hall.out j y (by have := lt_of_get hy; have := Hn.out; omega) hy
      have HR' := Lib.hid (show R = onceErr l by rw [HR.out, if_pos hz])
      have Honce := Lib.hid (once_any l wr _ (Hq.out.under Hbel.out) (by have := H112.out; have := Hn.out; omega))
      clear hz
      cases ho : decide (onceErr l = 0)
      · have Hne := Lib.hid (of_decide_eq_false ho)
        clear ho
        go_wp2_with fail
        refine (Honce.out).mono ?_
        intro e w1 hc
        obtain ⟨rfl, hb1⟩ := hc.no Hne.out
        exact ⟨rfl, by rw [HR'.out]; exact ⟨Ends.mkn Hne.out, Hbel.out.trans (hb1.mono Hbel.out.size)⟩⟩
      · have He := Lib.hid (of_decide_eq_true ho)
        clear ho
        rw [He.out] at Honce
        go_wp2_with fail
        refine (Honce.out).mono ?_
        intro e w1 hc
        obtain ⟨rfl, hb1⟩ := hc.ok
        go_wp2
        go_returns
        exact ⟨by rw [HR'.out, He.out]; exact Ends.mk0, Hbel.out.trans (hb1.mono Hbel.out.size)⟩
end Go.Proofs.YtnnnnlcpmocnfaaGreatDoor
