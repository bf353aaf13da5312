/- THE WALKS OVER Same AND SamePairs, the program's. -/
import Derived.Test.YtnnnnlcpmocnfaaDoorSm6
import Derived.StillTailTactics
import Derived.Deep.RegionHeld3
import Derived.BigQuiet
import Derived.Deep.QuietTactic
import Derived.WalkLawsBesides
namespace Go.Proofs.YtnnnnlcpmocnfaaDoor
open Go.RowKit
set_option linter.unusedVariables false
set_option linter.unusedSimpArgs false
attribute [local go_sem] run_store_float


set_option maxRecDepth 100000 in
set_option maxHeartbeats 8000000 in
theorem vs_main (x y : V) (hk : (x.k != y.k) = false) (hs : (x.s.toList == y.s.toList) = true) (hb : (x.b == y.b) = true) (hn : (x.n != y.n) = false) (hf : ((x.f : Int) != (y.f : Int)) = false) (hl : (((x.l.length : Nat) : Int) != ((y.l.length : Nat) : Int)) = false) (hq : x.k = y.k ∧ x.s = y.s ∧ x.b = y.b ∧ x.n = y.n ∧ x.f = y.f ∧ x.l.length = y.l.length)
    (ihl : ∀ (i : Nat) a b, x.l[i]? = some a → y.l[i]? = some b → SameC 20 a b) (ihp : SamePC 22 x.p y.p) : SameC 20 x y := by
  intro w q1 q2 r1 r2 hx hy
  have h58 := Tryd.bits58
  obtain ⟨adq, capq, rfl, hlq⟩ := hx.parts.2.1.form
  obtain ⟨adr, capr, rfl, hlr⟩ := hy.parts.2.1.form
  obtain ⟨W, hW⟩ : ∃ W, W = (w.alloc (.cells (cv x (.slice adq x.l.length capq) q2) 27)).alloc (.cells (cv y (.slice adr y.l.length capr) r2) 27) := ⟨_, rfl⟩
  have hA : At7 W w.heap.size 0 x (.slice adq x.l.length capq) q2 := At7.box (t := 27) (by rw [hW]; exact blk_alloc (blk_new w _) _)
  have hB : At7 W (w.heap.size + 1) 0 y (.slice adr y.l.length capr) r2 := At7.box (t := 27) (by rw [hW]; exact blk_at (by simp))
  have hb0 : Below w.heap.size w W := by rw [hW]; exact ((Below.refl _ _).alloc (Nat.le_refl _) _).alloc (by simp) _
  have hz : w.heap.size + 1 < W.heap.size := by rw [hW]; simp
  have HA := Lib.hid hA
  have HB := Lib.hid hB
  have HW := Lib.hid hW
  have Hb0 := Lib.hid hb0
  have Hz := Lib.hid hz
  obtain ⟨a0, a1, a2, a3, a4, a5, a6⟩ := hA
  obtain ⟨b0, b1, b2, b3, b4, b5, b6⟩ := hB
  simp only [Nat.zero_add] at a0 a1 a2 a3 a4 a5 a6 b0 b1 b2 b3 b4 b5 b6
  have HX0 := Lib.hid (hx.under hb0)
  have HY0 := Lib.hid (hy.under hb0)
  have Hq := Lib.hid hq
  have Ihl := Lib.hid ihl
  have Ihp := Lib.hid ihp
  have hle := hq.2.2.2.2.2
  have Hle := Lib.hid hle
  obtain ⟨n, hn'⟩ : ∃ n, n = x.l.length := ⟨_, rfl⟩
  have hnn : ((n : Int) != (n : Int)) = false := by simp
  have Hn := Lib.hid hn'
  rw [← hle, ← hn'] at HB HW b5 hlr
  rw [← hn'] at HA a5 hlq
  have e5 : (.slice adr y.l.length capr : Value) = .slice adr n capr := by rw [← hle, ← hn']
  have e6 : (.slice adq x.l.length capq : Value) = .slice adq n capq := by rw [← hn']
  rw [e5, e6]
  rw [e6] at HX0
  rw [e5] at HY0
  clear e5 e6 hW hb0 hz hx hy hq ihl ihp hle hn' hl
  go_enter Tryd.func20, Tryd.ntmps20
  go_wp2
  rw [← HW.out]
  go_quiet (fail)
  have hb' := Lib.hid (below_drewN (Below.refl W.heap.size W) nq)
  generalize W.drewN nq = W' at *
  have HA' := Lib.hid (HA.out.keep (hb'.out.block _ (by have := Hz.out; omega)))
  have HB' := Lib.hid (HB.out.keep (hb'.out.block _ Hz.out))
  clear a0 a1 a2 a3 a4 a5 a6 b0 b1 b2 b3 b4 b5 b6
  obtain ⟨a0, a1, a2, a3, a4, a5, a6⟩ := HA'.out
  obtain ⟨b0, b1, b2, b3, b4, b5, b6⟩ := HB'.out
  simp only [Nat.zero_add] at a0 a1 a2 a3 a4 a5 a6 b0 b1 b2 b3 b4 b5 b6
  go_wp2
  clear a0 a1 a2 a3 a4 a5 a6 b0 b1 b2 b3 b4 b5 b6
  go_loopw [52] (fun i wr => ∃ (k : Nat), i = .int .i64 (k : Int) ∧ k ≤ n ∧ Go.RowKit.Hid (∀ j, j < k → x.l[j]? = y.l[j]?) ∧ Below W.heap.size W wr) (fun i _ => n - (intOf i).toNat)
  case atStart => exact ⟨0, rfl, by omega, (fun j hj => absurd hj (by omega)), hb'.out⟩
  case round =>
    obtain ⟨k, rfl, hk, hall, hbel⟩ := hrel
    have Hbel := Lib.hid hbel
    clear hbel
    obtain ⟨a0, a1, a2, a3, a4, a5, a6⟩ := HA.out.keep (Hbel.out.block _ (by have := Hz.out; omega))
    have HBwr := Lib.hid (HB.out.keep (Hbel.out.block _ Hz.out))
    obtain ⟨b0, b1, b2, b3, b4, b5, b6⟩ := HBwr.out
    simp only [Nat.zero_add] at a0 a1 a2 a3 a4 a5 a6 b0 b1 b2 b3 b4 b5 b6
    have hxr := HX0.out.under Hbel.out
    have hyr := HY0.out.under Hbel.out
    by_cases hlt : k < n
    · obtain ⟨a, ha⟩ := get_at (l := x.l) (k := k) (by rw [← Hn.out]; exact hlt)
      obtain ⟨b, hb⟩ := get_at (l := y.l) (k := k) (by rw [← Hle.out, ← Hn.out]; exact hlt)
      obtain ⟨g, o, c, d, rfl, hg, ⟨c0, c1, c2, c3, c4, c5, c6⟩, hrep⟩ := hxr.parts.2.1.at ha
      obtain ⟨g', o', c', d', rfl, hg', hat', hrep'⟩ := hyr.parts.2.1.at hb
      have hk0 : (0 : Int) ≤ (k : Int) := by omega
      have hkn : (k : Int) < (n : Int) := by omega
      obtain ⟨adc, capc, rfl, _⟩ := hrep.parts.2.1.form
      obtain ⟨add, capd, rfl, _⟩ := hrep.parts.2.2.form
      obtain ⟨X, hX⟩ : ∃ X, X = wr.alloc (.cells (cv a (.slice adc a.l.length capc) (.slice add a.p.length capd)) 27) := ⟨_, rfl⟩
      obtain ⟨z0, z1, z2, z3, z4, z5, z6⟩ := At7.box (w := X) (by rw [hX]; exact blk_new wr _)
      have t5 := (HBwr.out.keep (w' := X) (by rw [hX]; exact Below.heap_alloc wr _ _ (Nat.lt_of_lt_of_le Hz.out Hbel.out.size))).c5
      obtain ⟨d0, d1, d2, d3, d4, d5, d6⟩ := hat'.keep (w' := X) (by rw [hX]; exact Below.heap_alloc wr _ g' hg')
      have hcall := Ihl.out k a b ha hb
      have HX := Lib.hid hX
      have Hcall := Lib.hid hcall
      have Hrep := Lib.hid hrep
      have Hrep' := Lib.hid hrep'
      have Ha := Lib.hid ha
      have Hb := Lib.hid hb
      clear hX hcall hrep hrep' ha hb hxr hyr hat' hg hg'
      cases hv : one a b
      · go_wp2
        rw [← HX.out]
        go_still_tail 6, (by kernel_rfl)
        change wpList _ _ _ _ _ X.drew
        go_wp2_with fail
        refine (Hcall.out _ _ _ _ _ (Hrep.out.under (by rw [HX.out]; exact ((Below.refl _ _).alloc (Nat.le_refl _) _).drew)) (Hrep'.out.under (by rw [HX.out]; exact ((Below.refl _ _).alloc (Nat.le_refl _) _).drew))).mono ?_
        rintro e w1 ⟨rfl, hb1⟩
        rw [hv]
        have Hv := Lib.hid hv
        have Hb1 := Lib.hid (Hbel.out.trans (((show Below wr.heap.size wr X.drew by rw [HX.out]; exact ((Below.refl _ _).alloc (Nat.le_refl _) _).drew).trans (hb1.mono (by rw [HX.out]; simp))).mono Hbel.out.size))
        clear hb1 hv
        go_wp2
        go_ret
        exact ⟨by rw [twosL Ha.out Hb.out Hv.out]; rfl, Hb0.out.trans (Hb1.out.mono Hb0.out.size)⟩
      · go_wp2
        rw [← HX.out]
        go_still_tail 6, (by kernel_rfl)
        change wpList _ _ _ _ _ X.drew
        go_wp2_with fail
        refine (Hcall.out _ _ _ _ _ (Hrep.out.under (by rw [HX.out]; exact ((Below.refl _ _).alloc (Nat.le_refl _) _).drew)) (Hrep'.out.under (by rw [HX.out]; exact ((Below.refl _ _).alloc (Nat.le_refl _) _).drew))).mono ?_
        rintro e w1 ⟨rfl, hb1⟩
        rw [hv]
        have Hv := Lib.hid hv
        have Hb1 := Lib.hid (Hbel.out.trans (((show Below wr.heap.size wr X.drew by rw [HX.out]; exact ((Below.refl _ _).alloc (Nat.le_refl _) _).drew).trans (hb1.mono (by rw [HX.out]; simp))).mono Hbel.out.size))
        clear hb1 hv
        go_wp2
        go_roundw
        case rel => exact ⟨k + 1, by go_num, by omega, onesL Ha.out Hb.out Hv.out hall.out, Hb1.out⟩
        case measure => simp [intOf]; omega
    · have e : x.l = y.l := all_same Hle.out (by rw [← Hn.out]; intro j hj; exact hall.out j (by omega))
      have he : one x y = oneP x.p y.p := one_rest x y ⟨Hq.out.1, Hq.out.2.1, Hq.out.2.2.1, Hq.out.2.2.2.1, Hq.out.2.2.2.2.1, e⟩
      have He := Lib.hid he
      have Hp := Lib.hid hxr.parts.2.2
      have Hp' := Lib.hid hyr.parts.2.2
      clear e he hxr hyr
      go_wp2_with fail
      refine (Ihp.out _ _ _ Hp.out Hp'.out).mono ?_
      rintro e w1 ⟨rfl, hb1⟩
      go_wp2
      go_ret
      exact ⟨by rw [He.out]; rfl, Hb0.out.trans ((Hbel.out.trans (hb1.mono Hbel.out.size)).mono Hb0.out.size)⟩
end Go.Proofs.YtnnnnlcpmocnfaaDoor
