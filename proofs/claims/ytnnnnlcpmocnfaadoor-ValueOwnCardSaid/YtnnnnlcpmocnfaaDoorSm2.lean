/- THE WALKS OVER Same AND SamePairs, the document's own. -/
import Derived.Test.YtnnnnlcpmocnfaaDoorSm1
import Derived.StillTailTactics
import Derived.Deep.RegionHeld3
import Derived.BigQuiet
import Derived.Deep.QuietTactic
import Derived.WalkLawsBesides
namespace Go.Proofs.YtnnnnlcpmocnfaaDoor
open Go.RowKit
set_option linter.unusedVariables false
set_option linter.unusedSimpArgs false
attribute [local go_sem] run_store_float


theorem get_at {α : Type} {l : List α} {k : Nat} (h : k < l.length) : ∃ a, l[k]? = some a := ⟨l[k], by simp [h]⟩
theorem below_drewN {B : Nat} {a w : World} (h : Below B a w) (n : Nat) : Below B a (w.drewN n) := by
  induction n with
  | zero => exact h
  | succ n ih => exact ih.drew
theorem ones {k : Nat} {x y : List (ByteArray × V)} {a b : ByteArray × V} (ha : x[k]? = some a) (hb : y[k]? = some b) (h1 : a.1 = b.1) (h2 : one a.2 b.2 = true) (hall : ∀ j, j < k → x[j]? = y[j]?) : ∀ j, j < k + 1 → x[j]? = y[j]? := by
  intro j hj
  by_cases e : j = k
  · subst e
    rw [ha, hb, show a = b from Prod.ext h1 ((one_iff _ _).1 h2)]
  · exact hall j (by omega)
theorem twos {k : Nat} {x y : List (ByteArray × V)} {a b : ByteArray × V} (ha : x[k]? = some a) (hb : y[k]? = some b) (h : a ≠ b) : oneP x y = false := by
  apply oneP_no
  rintro rfl
  rw [ha] at hb
  exact h (Option.some.inj hb)

set_option maxRecDepth 100000 in
set_option maxHeartbeats 4000000 in
theorem rsp_main (x y : List (ByteArray × V)) (hle : x.length = y.length) (ih : ∀ (i : Nat) a b, x[i]? = some a → y[i]? = some b → SameC 21 a.2 b.2) : SamePC 23 x y := by
  intro w q r hq hr
  obtain ⟨ad, cap, rfl, hl1⟩ := hq.form
  obtain ⟨ad', cap', rfl, hl2⟩ := hr.form
  obtain ⟨n, hn⟩ : ∃ n, n = x.length := ⟨_, rfl⟩
  rw [← hle] at hr ⊢
  rw [← hn] at hq hr hl1 ⊢
  have hnn : ((n : Int) != (n : Int)) = false := by simp
  have Hq := Lib.hid hq
  have Hr := Lib.hid hr
  have Hn := Lib.hid hn
  have Hle := Lib.hid hle
  have Ih := Lib.hid ih
  clear hq hr hn hle ih hl2
  go_enter Tryd.func23, Tryd.ntmps23
  go_wp2
  go_loopw [13] (fun i wr => ∃ (k : Nat), i = .int .i64 (k : Int) ∧ k ≤ n ∧ Go.RowKit.Hid (∀ j, j < k → x[j]? = y[j]?) ∧ Below w.heap.size w wr) (fun i _ => n - (intOf i).toNat)
  case atStart => exact ⟨0, rfl, by omega, (fun j hj => absurd hj (by omega)), Below.refl _ _⟩
  case round =>
    obtain ⟨k, rfl, hk, hall, hbel⟩ := hrel
    have Hbel := Lib.hid hbel
    clear hbel
    by_cases hlt : k < n
    · obtain ⟨a, ha⟩ := get_at (l := x) (k := k) (by rw [← Hn.out]; exact hlt)
      obtain ⟨b, hb⟩ := get_at (l := y) (k := k) (by rw [← Hle.out, ← Hn.out]; exact hlt)
      obtain ⟨g, o, c, d, rfl, hg, ⟨c0, c1, c2, c3, c4, c5, c6, c7⟩, hky, hrep⟩ := (Hq.out.under Hbel.out).at ha
      obtain ⟨g', o', c', d', rfl, hg', hat', hky', hrep'⟩ := (Hr.out.under Hbel.out).at hb
      have hk0 : (0 : Int) ≤ (k : Int) := by omega
      have hkn : (k : Int) < (n : Int) := by omega
      
      obtain ⟨W, hW⟩ : ∃ W, W = wr := ⟨_, rfl⟩
      rw [← hW] at c0 c1 c2 c3 c4 c5 c6 c7
      obtain ⟨d0, d1, d2, d3, d4, d5, d6, d7⟩ := hat'.keep (w' := W) (by rw [hW])
      have HW := Lib.hid hW
      clear hW
      by_cases hkey : a.1 = b.1
      · have hcall := Ih.out k a b ha hb
        have Hcall := Lib.hid hcall
        have Hrep := Lib.hid hrep
        have Hrep' := Lib.hid hrep'
        have Hkey := Lib.hid hkey
        have Ha := Lib.hid ha
        have Hb := Lib.hid hb
        have hs : (a.1.toList == b.1.toList) = true := by rw [hkey]; simp
        clear hcall hrep hrep' hkey ha hb
        cases hv : one a.2 b.2
        · go_wp2
          rw [← HW.out]
          go_still_tail 22, (by kernel_rfl)
          change wpList _ _ _ _ _ W.drew
          go_wp2_with fail
          refine (Hcall.out _ _ _ _ _ (Hrep.out.under (by rw [HW.out]; exact (Below.refl _ _).drew)) (Hrep'.out.under (by rw [HW.out]; exact (Below.refl _ _).drew))).mono ?_
          rintro e w1 ⟨rfl, hb1⟩
          rw [hv]
          have Hb1 := Lib.hid (Hbel.out.trans ((show Below wr.heap.size wr W.drew by rw [HW.out]; exact (Below.refl _ _).drew).trans (hb1.mono (by rw [HW.out]; simp))|>.mono Hbel.out.size))
          clear hb1
          go_wp2
          go_ret
          exact ⟨by rw [twos Ha.out Hb.out (fun e => by rw [e, one_refl] at hv; cases hv)]; rfl, Hb1.out⟩
        · go_wp2
          rw [← HW.out]
          go_still_tail 22, (by kernel_rfl)
          change wpList _ _ _ _ _ W.drew
          go_wp2_with fail
          refine (Hcall.out _ _ _ _ _ (Hrep.out.under (by rw [HW.out]; exact (Below.refl _ _).drew)) (Hrep'.out.under (by rw [HW.out]; exact (Below.refl _ _).drew))).mono ?_
          rintro e w1 ⟨rfl, hb1⟩
          rw [hv]
          have Hv := Lib.hid hv
          have Hb1 := Lib.hid (Hbel.out.trans ((show Below wr.heap.size wr W.drew by rw [HW.out]; exact (Below.refl _ _).drew).trans (hb1.mono (by rw [HW.out]; simp))|>.mono Hbel.out.size))
          clear hb1 hv
          go_wp2
          go_roundw
          case rel => exact ⟨k + 1, by go_num, by omega, ones Ha.out Hb.out Hkey.out Hv.out hall.out, Hb1.out⟩
          case measure => simp [intOf]; omega
      · have hs := str_ne hkey
        have He := Lib.hid (twos ha hb (fun e => hkey (by rw [e])))
        clear hkey ha hb
        go_wp2
        rw [← HW.out]
        go_quiet (fail)
        go_wp2
        go_ret
        exact ⟨by rw [He.out]; rfl, below_drewN (Hbel.out.trans (show Below w.heap.size wr W by rw [HW.out]; exact Below.refl _ _)) _⟩
    · have e : oneP x y = true := (oneP_iff x y).2 (all_same Hle.out (by rw [← Hn.out]; intro j hj; exact hall.out j (by omega)))
      have He := Lib.hid e
      clear e
      go_wp2
      go_ret
      exact ⟨by rw [He.out]; rfl, Hbel.out⟩
end Go.Proofs.YtnnnnlcpmocnfaaDoor
