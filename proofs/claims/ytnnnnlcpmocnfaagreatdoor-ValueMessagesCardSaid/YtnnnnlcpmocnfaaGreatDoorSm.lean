/- THE WALKS OVER Same AND SamePairs, ahead. -/
import Derived.Test.YtnnnnlcpmocnfaaGreatDoorVop
import Derived.StillTailTactics
import Derived.Deep.RegionHeld3
import Derived.BigQuiet
import Derived.Deep.QuietTactic
import Derived.WalkLawsBesides
namespace Go.Proofs.YtnnnnlcpmocnfaaGreatDoor
open Go.RowKit
set_option linter.unusedVariables false
set_option linter.unusedSimpArgs false
attribute [local go_sem] run_store_float


/-- Same of two values, by function F -/
def SameC (F : Nat) (x y : V) : Prop := ∀ (w : World) (q1 q2 r1 r2 : Value), Rep Any w q1 q2 x → Rep Any w r1 r2 y →
  Calls Tryz.prog F #[.agg (cv x q1 q2), .agg (cv y r1 r2)] w fun e w' => e = .returned (.bool (one x y)) ∧ Below w.heap.size w w'
/-- SamePairs of two lists, by function F -/
def SamePC (F : Nat) (x y : List (ByteArray × V)) : Prop := ∀ (w : World) (q r : Value), RepP Any w q x → RepP Any w r y →
  Calls Tryz.prog F #[q, r] w fun e w' => e = .returned (.bool (oneP x y)) ∧ Below w.heap.size w w'
theorem all_same {α : Type} {x y : List α} (hl : x.length = y.length) (h : ∀ j, j < x.length → x[j]? = y[j]?) : x = y := by
  apply List.ext_getElem? 
  intro i
  by_cases hi : i < x.length
  · exact h i hi
  · rw [List.getElem?_eq_none (by omega), List.getElem?_eq_none (by omega)]
theorem str_ne {a b : ByteArray} (h : a ≠ b) : (a.toList == b.toList) = false := by
  apply beq_eq_false_iff_ne.2
  intro e
  rw [Go.ByteArray.toList_eq, Go.ByteArray.toList_eq] at e
  exact h (ByteArray.ext (Array.toList_inj.1 e))

set_option maxRecDepth 100000 in
set_option maxHeartbeats 4000000 in
theorem rsp_len (x y : List (ByteArray × V)) (hne : x.length ≠ y.length) : SamePC 40 x y := by
  intro w q r hq hr
  obtain ⟨ad, cap, rfl, hl1⟩ := hq.form
  obtain ⟨ad', cap', rfl, hl2⟩ := hr.form
  have e := oneP_no (x := x) (y := y) (fun e => hne (by rw [e]))
  rw [e]
  have hnm : (((x.length : Nat) : Int) != ((y.length : Nat) : Int)) = true := by simp; omega
  clear hq hr e hne
  generalize x.length = n at *
  generalize y.length = m at *
  go_enter Tryz.func40, Tryz.ntmps40
  go_wp2
  go_ret
  exact ⟨rfl, Below.refl _ _⟩
end Go.Proofs.YtnnnnlcpmocnfaaGreatDoor

/- THE WALKS OVER Same AND SamePairs, the document's own. -/
namespace Go.Proofs.YtnnnnlcpmocnfaaGreatDoor
open Go.RowKit
set_option linter.unusedVariables false
set_option linter.unusedSimpArgs false
attribute [local go_sem] run_store_float


theorem get_at {α : Type} {l : List α} {k : Nat} (h : k < l.length) : ∃ a, l[k]? = some a := ⟨l[k], by simp [h]⟩
theorem below_drewN {B : Nat} {a w : World} (h : Below B a w) (n : Nat) : Below B a (w.drewN n) := by
  induction n with
  | zero => exact h
  | succ n ih => exact ih.drew
theorem ones {k : Nat} {x y : List (ByteArray × V)} {a b : ByteArray × V} (ha : x[k]? = some a) (hb : y[k]? = some b) (h1 : a.1 = b.1) (h2 : one a.2 b.2 = true) (hall : ∀ j, j < k → x[j]? = y[j]?) : ∀ j, j < k + 1 → x[j]? = y[j]? := by
  intro j hj
  by_cases e : j = k
  · subst e
    rw [ha, hb, show a = b from Prod.ext h1 ((one_iff _ _).1 h2)]
  · exact hall j (by omega)
theorem twos {k : Nat} {x y : List (ByteArray × V)} {a b : ByteArray × V} (ha : x[k]? = some a) (hb : y[k]? = some b) (h : a ≠ b) : oneP x y = false := by
  apply oneP_no
  rintro rfl
  rw [ha] at hb
  exact h (Option.some.inj hb)

set_option maxRecDepth 100000 in
set_option maxHeartbeats 4000000 in
theorem rsp_main (x y : List (ByteArray × V)) (hle : x.length = y.length) (ih : ∀ (i : Nat) a b, x[i]? = some a → y[i]? = some b → SameC 14 a.2 b.2) : SamePC 40 x y := by
  intro w q r hq hr
  obtain ⟨ad, cap, rfl, hl1⟩ := hq.form
  obtain ⟨ad', cap', rfl, hl2⟩ := hr.form
  obtain ⟨n, hn⟩ : ∃ n, n = x.length := ⟨_, rfl⟩
  rw [← hle] at hr ⊢
  rw [← hn] at hq hr hl1 ⊢
  have hnn : ((n : Int) != (n : Int)) = false := by simp
  have Hq := Lib.hid hq
  have Hr := Lib.hid hr
  have Hn := Lib.hid hn
  have Hle := Lib.hid hle
  have Ih := Lib.hid ih
  clear hq hr hn hle ih hl2
  go_enter Tryz.func40, Tryz.ntmps40
  go_wp2
  go_loopw [13] (fun i wr => ∃ (k : Nat), i = .int .i64 (k : Int) ∧ k ≤ n ∧ Go.RowKit.Hid (∀ j, j < k → x[j]? = y[j]?) ∧ Below w.heap.size w wr) (fun i _ => n - (intOf i).toNat)
  case atStart => exact ⟨0, rfl, by omega, (fun j hj => absurd hj (by omega)), Below.refl _ _⟩
  case round =>
    obtain ⟨k, rfl, hk, hall, hbel⟩ := hrel
    have Hbel := Lib.hid hbel
    clear hbel
    by_cases hlt : k < n
    · obtain ⟨a, ha⟩ := get_at (l := x) (k := k) (by rw [← Hn.out]; exact hlt)
      obtain ⟨b, hb⟩ := get_at (l := y) (k := k) (by rw [← Hle.out, ← Hn.out]; exact hlt)
      obtain ⟨g, o, c, d, rfl, hg, ⟨c0, c1, c2, c3, c4, c5, c6, c7⟩, hky, hrep⟩ := (Hq.out.under Hbel.out).at ha
      obtain ⟨g', o', c', d', rfl, hg', hat', hky', hrep'⟩ := (Hr.out.under Hbel.out).at hb
      have hk0 : (0 : Int) ≤ (k : Int) := by omega
      have hkn : (k : Int) < (n : Int) := by omega
      
      obtain ⟨W, hW⟩ : ∃ W, W = wr := ⟨_, rfl⟩
      rw [← hW] at c0 c1 c2 c3 c4 c5 c6 c7
      obtain ⟨d0, d1, d2, d3, d4, d5, d6, d7⟩ := hat'.keep (w' := W) (by rw [hW])
      have HW := Lib.hid hW
      clear hW
      by_cases hkey : a.1 = b.1
      · have hcall := Ih.out k a b ha hb
        have Hcall := Lib.hid hcall
        have Hrep := Lib.hid hrep
        have Hrep' := Lib.hid hrep'
        have Hkey := Lib.hid hkey
        have Ha := Lib.hid ha
        have Hb := Lib.hid hb
        have hs : (a.1.toList == b.1.toList) = true := by rw [hkey]; simp
        clear hcall hrep hrep' hkey ha hb
        cases hv : one a.2 b.2
        · go_wp2
          rw [← HW.out]
          go_still_tail 22, (by kernel_rfl)
          change wpList _ _ _ _ _ W.drew
          go_wp2_with fail
          refine (Hcall.out _ _ _ _ _ (Hrep.out.under (by rw [HW.out]; exact (Below.refl _ _).drew)) (Hrep'.out.under (by rw [HW.out]; exact (Below.refl _ _).drew))).mono ?_
          rintro e w1 ⟨rfl, hb1⟩
          rw [hv]
          have Hb1 := Lib.hid (Hbel.out.trans ((show Below wr.heap.size wr W.drew by rw [HW.out]; exact (Below.refl _ _).drew).trans (hb1.mono (by rw [HW.out]; simp))|>.mono Hbel.out.size))
          clear hb1
          go_wp2
          go_ret
          exact ⟨by rw [twos Ha.out Hb.out (fun e => by rw [e, one_refl] at hv; cases hv)]; rfl, Hb1.out⟩
        · go_wp2
          rw [← HW.out]
          go_still_tail 22, (by kernel_rfl)
          change wpList _ _ _ _ _ W.drew
          go_wp2_with fail
          refine (Hcall.out _ _ _ _ _ (Hrep.out.under (by rw [HW.out]; exact (Below.refl _ _).drew)) (Hrep'.out.under (by rw [HW.out]; exact (Below.refl _ _).drew))).mono ?_
          rintro e w1 ⟨rfl, hb1⟩
          rw [hv]
          have Hv := Lib.hid hv
          have Hb1 := Lib.hid (Hbel.out.trans ((show Below wr.heap.size wr W.drew by rw [HW.out]; exact (Below.refl _ _).drew).trans (hb1.mono (by rw [HW.out]; simp))|>.mono Hbel.out.size))
          clear hb1 hv
          go_wp2
          go_roundw
          case rel => exact ⟨k + 1, by go_num, by omega, ones Ha.out Hb.out Hkey.out Hv.out hall.out, Hb1.out⟩
          case measure => simp [intOf]; omega
      · have hs := str_ne hkey
        have He := Lib.hid (twos ha hb (fun e => hkey (by rw [e])))
        clear hkey ha hb
        go_wp2
        rw [← HW.out]
        go_quiet (fail)
        go_wp2
        go_ret
        exact ⟨by rw [He.out]; rfl, below_drewN (Hbel.out.trans (show Below w.heap.size wr W by rw [HW.out]; exact Below.refl _ _)) _⟩
    · have e : oneP x y = true := (oneP_iff x y).2 (all_same Hle.out (by rw [← Hn.out]; intro j hj; exact hall.out j (by omega)))
      have He := Lib.hid e
      clear e
      go_wp2
      go_ret
      exact ⟨by rw [He.out]; rfl, Hbel.out⟩
end Go.Proofs.YtnnnnlcpmocnfaaGreatDoor

/- THE WALKS OVER Same AND SamePairs, the program's. -/
namespace Go.Proofs.YtnnnnlcpmocnfaaGreatDoor
open Go.RowKit
set_option linter.unusedVariables false
set_option linter.unusedSimpArgs false
attribute [local go_sem] run_store_float


end Go.Proofs.YtnnnnlcpmocnfaaGreatDoor

/- THE WALKS OVER Same AND SamePairs, the document's own. -/
namespace Go.Proofs.YtnnnnlcpmocnfaaGreatDoor
open Go.RowKit
set_option linter.unusedVariables false
set_option linter.unusedSimpArgs false
attribute [local go_sem] run_store_float


set_option maxRecDepth 100000 in
set_option maxHeartbeats 4000000 in
theorem rs_k (x y : V)  (hk : (x.k != y.k) = true) (he : one x y = false) : SameC 14 x y := by
  intro w q1 q2 r1 r2 hx hy
  rw [he]
  have h58 := Tryz.bits39
  obtain ⟨adq, capq, rfl, hlq⟩ := hx.parts.2.1.form
  obtain ⟨adr, capr, rfl, hlr⟩ := hy.parts.2.1.form
  obtain ⟨W, hW⟩ : ∃ W, W = (w.alloc (.cells (cv x (.slice adq x.l.length capq) q2) 27)).alloc (.cells (cv y (.slice adr y.l.length capr) r2) 27) := ⟨_, rfl⟩
  have hA : At7 W w.heap.size 0 x (.slice adq x.l.length capq) q2 := At7.box (t := 27) (by rw [hW]; exact blk_alloc (blk_new w _) _)
  have hB : At7 W (w.heap.size + 1) 0 y (.slice adr y.l.length capr) r2 := At7.box (t := 27) (by rw [hW]; exact blk_at (by simp))
  have hb0 : Below w.heap.size w W := by rw [hW]; exact ((Below.refl _ _).alloc (Nat.le_refl _) _).alloc (by simp) _
  have hz : w.heap.size + 1 < W.heap.size := by rw [hW]; simp
  have HA := Lib.hid hA
  have HB := Lib.hid hB
  have HW := Lib.hid hW
  have Hb0 := Lib.hid hb0
  have Hz := Lib.hid hz
  obtain ⟨a0, a1, a2, a3, a4, a5, a6⟩ := hA
  obtain ⟨b0, b1, b2, b3, b4, b5, b6⟩ := hB
  simp only [Nat.zero_add] at a0 a1 a2 a3 a4 a5 a6 b0 b1 b2 b3 b4 b5 b6
  clear hW hb0 hz hx hy he
  go_enter Tryz.func14, Tryz.ntmps14
  go_wp2
  rw [← HW.out]
  go_quiet (fail)
  go_wp2
  go_ret
  exact ⟨rfl, below_drewN Hb0.out _⟩

set_option maxRecDepth 100000 in
set_option maxHeartbeats 4000000 in
theorem rs_s (x y : V) (hk : (x.k != y.k) = false) (hs : (x.s.toList == y.s.toList) = false) (he : one x y = false) : SameC 14 x y := by
  intro w q1 q2 r1 r2 hx hy
  rw [he]
  have h58 := Tryz.bits39
  obtain ⟨adq, capq, rfl, hlq⟩ := hx.parts.2.1.form
  obtain ⟨adr, capr, rfl, hlr⟩ := hy.parts.2.1.form
  obtain ⟨W, hW⟩ : ∃ W, W = (w.alloc (.cells (cv x (.slice adq x.l.length capq) q2) 27)).alloc (.cells (cv y (.slice adr y.l.length capr) r2) 27) := ⟨_, rfl⟩
  have hA : At7 W w.heap.size 0 x (.slice adq x.l.length capq) q2 := At7.box (t := 27) (by rw [hW]; exact blk_alloc (blk_new w _) _)
  have hB : At7 W (w.heap.size + 1) 0 y (.slice adr y.l.length capr) r2 := At7.box (t := 27) (by rw [hW]; exact blk_at (by simp))
  have hb0 : Below w.heap.size w W := by rw [hW]; exact ((Below.refl _ _).alloc (Nat.le_refl _) _).alloc (by simp) _
  have hz : w.heap.size + 1 < W.heap.size := by rw [hW]; simp
  have HA := Lib.hid hA
  have HB := Lib.hid hB
  have HW := Lib.hid hW
  have Hb0 := Lib.hid hb0
  have Hz := Lib.hid hz
  obtain ⟨a0, a1, a2, a3, a4, a5, a6⟩ := hA
  obtain ⟨b0, b1, b2, b3, b4, b5, b6⟩ := hB
  simp only [Nat.zero_add] at a0 a1 a2 a3 a4 a5 a6 b0 b1 b2 b3 b4 b5 b6
  clear hW hb0 hz hx hy he
  go_enter Tryz.func14, Tryz.ntmps14
  go_wp2
  rw [← HW.out]
  go_quiet (fail)
  go_wp2
  go_ret
  exact ⟨rfl, below_drewN Hb0.out _⟩

set_option maxRecDepth 100000 in
set_option maxHeartbeats 4000000 in
theorem rs_b (x y : V) (hk : (x.k != y.k) = false) (hs : (x.s.toList == y.s.toList) = true) (hb : (x.b == y.b) = false) (he : one x y = false) : SameC 14 x y := by
  intro w q1 q2 r1 r2 hx hy
  rw [he]
  have h58 := Tryz.bits39
  obtain ⟨adq, capq, rfl, hlq⟩ := hx.parts.2.1.form
  obtain ⟨adr, capr, rfl, hlr⟩ := hy.parts.2.1.form
  obtain ⟨W, hW⟩ : ∃ W, W = (w.alloc (.cells (cv x (.slice adq x.l.length capq) q2) 27)).alloc (.cells (cv y (.slice adr y.l.length capr) r2) 27) := ⟨_, rfl⟩
  have hA : At7 W w.heap.size 0 x (.slice adq x.l.length capq) q2 := At7.box (t := 27) (by rw [hW]; exact blk_alloc (blk_new w _) _)
  have hB : At7 W (w.heap.size + 1) 0 y (.slice adr y.l.length capr) r2 := At7.box (t := 27) (by rw [hW]; exact blk_at (by simp))
  have hb0 : Below w.heap.size w W := by rw [hW]; exact ((Below.refl _ _).alloc (Nat.le_refl _) _).alloc (by simp) _
  have hz : w.heap.size + 1 < W.heap.size := by rw [hW]; simp
  have HA := Lib.hid hA
  have HB := Lib.hid hB
  have HW := Lib.hid hW
  have Hb0 := Lib.hid hb0
  have Hz := Lib.hid hz
  obtain ⟨a0, a1, a2, a3, a4, a5, a6⟩ := hA
  obtain ⟨b0, b1, b2, b3, b4, b5, b6⟩ := hB
  simp only [Nat.zero_add] at a0 a1 a2 a3 a4 a5 a6 b0 b1 b2 b3 b4 b5 b6
  clear hW hb0 hz hx hy he
  go_enter Tryz.func14, Tryz.ntmps14
  go_wp2
  rw [← HW.out]
  go_quiet (fail)
  go_wp2
  go_ret
  exact ⟨rfl, below_drewN Hb0.out _⟩

set_option maxRecDepth 100000 in
set_option maxHeartbeats 4000000 in
theorem rs_n (x y : V) (hk : (x.k != y.k) = false) (hs : (x.s.toList == y.s.toList) = true) (hb : (x.b == y.b) = true) (hn : (x.n != y.n) = true) (he : one x y = false) : SameC 14 x y := by
  intro w q1 q2 r1 r2 hx hy
  rw [he]
  have h58 := Tryz.bits39
  obtain ⟨adq, capq, rfl, hlq⟩ := hx.parts.2.1.form
  obtain ⟨adr, capr, rfl, hlr⟩ := hy.parts.2.1.form
  obtain ⟨W, hW⟩ : ∃ W, W = (w.alloc (.cells (cv x (.slice adq x.l.length capq) q2) 27)).alloc (.cells (cv y (.slice adr y.l.length capr) r2) 27) := ⟨_, rfl⟩
  have hA : At7 W w.heap.size 0 x (.slice adq x.l.length capq) q2 := At7.box (t := 27) (by rw [hW]; exact blk_alloc (blk_new w _) _)
  have hB : At7 W (w.heap.size + 1) 0 y (.slice adr y.l.length capr) r2 := At7.box (t := 27) (by rw [hW]; exact blk_at (by simp))
  have hb0 : Below w.heap.size w W := by rw [hW]; exact ((Below.refl _ _).alloc (Nat.le_refl _) _).alloc (by simp) _
  have hz : w.heap.size + 1 < W.heap.size := by rw [hW]; simp
  have HA := Lib.hid hA
  have HB := Lib.hid hB
  have HW := Lib.hid hW
  have Hb0 := Lib.hid hb0
  have Hz := Lib.hid hz
  obtain ⟨a0, a1, a2, a3, a4, a5, a6⟩ := hA
  obtain ⟨b0, b1, b2, b3, b4, b5, b6⟩ := hB
  simp only [Nat.zero_add] at a0 a1 a2 a3 a4 a5 a6 b0 b1 b2 b3 b4 b5 b6
  clear hW hb0 hz hx hy he
  go_enter Tryz.func14, Tryz.ntmps14
  go_wp2
  rw [← HW.out]
  go_quiet (fail)
  go_wp2
  go_ret
  exact ⟨rfl, below_drewN Hb0.out _⟩

set_option maxRecDepth 100000 in
set_option maxHeartbeats 4000000 in
theorem rs_f (x y : V) (hk : (x.k != y.k) = false) (hs : (x.s.toList == y.s.toList) = true) (hb : (x.b == y.b) = true) (hn : (x.n != y.n) = false) (hf : ((x.f : Int) != (y.f : Int)) = true) (he : one x y = false) : SameC 14 x y := by
  intro w q1 q2 r1 r2 hx hy
  rw [he]
  have h58 := Tryz.bits39
  obtain ⟨adq, capq, rfl, hlq⟩ := hx.parts.2.1.form
  obtain ⟨adr, capr, rfl, hlr⟩ := hy.parts.2.1.form
  obtain ⟨W, hW⟩ : ∃ W, W = (w.alloc (.cells (cv x (.slice adq x.l.length capq) q2) 27)).alloc (.cells (cv y (.slice adr y.l.length capr) r2) 27) := ⟨_, rfl⟩
  have hA : At7 W w.heap.size 0 x (.slice adq x.l.length capq) q2 := At7.box (t := 27) (by rw [hW]; exact blk_alloc (blk_new w _) _)
  have hB : At7 W (w.heap.size + 1) 0 y (.slice adr y.l.length capr) r2 := At7.box (t := 27) (by rw [hW]; exact blk_at (by simp))
  have hb0 : Below w.heap.size w W := by rw [hW]; exact ((Below.refl _ _).alloc (Nat.le_refl _) _).alloc (by simp) _
  have hz : w.heap.size + 1 < W.heap.size := by rw [hW]; simp
  have HA := Lib.hid hA
  have HB := Lib.hid hB
  have HW := Lib.hid hW
  have Hb0 := Lib.hid hb0
  have Hz := Lib.hid hz
  obtain ⟨a0, a1, a2, a3, a4, a5, a6⟩ := hA
  obtain ⟨b0, b1, b2, b3, b4, b5, b6⟩ := hB
  simp only [Nat.zero_add] at a0 a1 a2 a3 a4 a5 a6 b0 b1 b2 b3 b4 b5 b6
  clear hW hb0 hz hx hy he
  go_enter Tryz.func14, Tryz.ntmps14
  go_wp2
  rw [← HW.out]
  go_quiet (fail)
  go_wp2
  go_ret
  exact ⟨rfl, below_drewN Hb0.out _⟩

set_option maxRecDepth 100000 in
set_option maxHeartbeats 4000000 in
theorem rs_l (x y : V) (hk : (x.k != y.k) = false) (hs : (x.s.toList == y.s.toList) = true) (hb : (x.b == y.b) = true) (hn : (x.n != y.n) = false) (hf : ((x.f : Int) != (y.f : Int)) = false) (hl : (((x.l.length : Nat) : Int) != ((y.l.length : Nat) : Int)) = true) (he : one x y = false) : SameC 14 x y := by
  intro w q1 q2 r1 r2 hx hy
  rw [he]
  have h58 := Tryz.bits39
  obtain ⟨adq, capq, rfl, hlq⟩ := hx.parts.2.1.form
  obtain ⟨adr, capr, rfl, hlr⟩ := hy.parts.2.1.form
  obtain ⟨W, hW⟩ : ∃ W, W = (w.alloc (.cells (cv x (.slice adq x.l.length capq) q2) 27)).alloc (.cells (cv y (.slice adr y.l.length capr) r2) 27) := ⟨_, rfl⟩
  have hA : At7 W w.heap.size 0 x (.slice adq x.l.length capq) q2 := At7.box (t := 27) (by rw [hW]; exact blk_alloc (blk_new w _) _)
  have hB : At7 W (w.heap.size + 1) 0 y (.slice adr y.l.length capr) r2 := At7.box (t := 27) (by rw [hW]; exact blk_at (by simp))
  have hb0 : Below w.heap.size w W := by rw [hW]; exact ((Below.refl _ _).alloc (Nat.le_refl _) _).alloc (by simp) _
  have hz : w.heap.size + 1 < W.heap.size := by rw [hW]; simp
  have HA := Lib.hid hA
  have HB := Lib.hid hB
  have HW := Lib.hid hW
  have Hb0 := Lib.hid hb0
  have Hz := Lib.hid hz
  obtain ⟨a0, a1, a2, a3, a4, a5, a6⟩ := hA
  obtain ⟨b0, b1, b2, b3, b4, b5, b6⟩ := hB
  simp only [Nat.zero_add] at a0 a1 a2 a3 a4 a5 a6 b0 b1 b2 b3 b4 b5 b6
  clear hW hb0 hz hx hy he
  go_enter Tryz.func14, Tryz.ntmps14
  go_wp2
  rw [← HW.out]
  go_quiet (fail)
  go_wp2
  go_ret
  exact ⟨rfl, below_drewN Hb0.out _⟩
end Go.Proofs.YtnnnnlcpmocnfaaGreatDoor

/- THE WALKS OVER Same AND SamePairs, the program's. -/
namespace Go.Proofs.YtnnnnlcpmocnfaaGreatDoor
open Go.RowKit
set_option linter.unusedVariables false
set_option linter.unusedSimpArgs false
attribute [local go_sem] run_store_float


end Go.Proofs.YtnnnnlcpmocnfaaGreatDoor

/- THE WALKS OVER Same AND SamePairs, the document's own. -/
namespace Go.Proofs.YtnnnnlcpmocnfaaGreatDoor
open Go.RowKit
set_option linter.unusedVariables false
set_option linter.unusedSimpArgs false
attribute [local go_sem] run_store_float


theorem onesL {k : Nat} {x y : List V} {a b : V} (ha : x[k]? = some a) (hb : y[k]? = some b) (h2 : one a b = true) (hall : ∀ j, j < k → x[j]? = y[j]?) : ∀ j, j < k + 1 → x[j]? = y[j]? := by
  intro j hj
  by_cases e : j = k
  · subst e
    rw [ha, hb, (one_iff _ _).1 h2]
  · exact hall j (by omega)
theorem twosL {k : Nat} {x y : V} {a b : V} (ha : x.l[k]? = some a) (hb : y.l[k]? = some b) (h : one a b = false) : one x y = false := by
  apply one_no
  rintro rfl
  rw [ha] at hb
  rw [Option.some.inj hb, one_refl] at h
  cases h
theorem one_rest (x y : V) (h : x.k = y.k ∧ x.s = y.s ∧ x.b = y.b ∧ x.n = y.n ∧ x.f = y.f ∧ x.l = y.l) : one x y = oneP x.p y.p := by
  have e : (x = y) ↔ x.p = y.p := by
    constructor
    · intro e; rw [e]
    · intro e; rw [x.eta, y.eta, h.1, h.2.1, h.2.2.1, h.2.2.2.1, h.2.2.2.2.1, h.2.2.2.2.2, e]
  cases hp : oneP x.p y.p
  · exact one_no fun e' => by rw [(oneP_iff _ _).2 (e.1 e')] at hp; cases hp
  · exact (one_iff _ _).2 (e.2 ((oneP_iff _ _).1 hp))

set_option maxRecDepth 100000 in
set_option maxHeartbeats 8000000 in
theorem rs_main (x y : V) (hk : (x.k != y.k) = false) (hs : (x.s.toList == y.s.toList) = true) (hb : (x.b == y.b) = true) (hn : (x.n != y.n) = false) (hf : ((x.f : Int) != (y.f : Int)) = false) (hl : (((x.l.length : Nat) : Int) != ((y.l.length : Nat) : Int)) = false) (hq : x.k = y.k ∧ x.s = y.s ∧ x.b = y.b ∧ x.n = y.n ∧ x.f = y.f ∧ x.l.length = y.l.length)
    (ihl : ∀ (i : Nat) a b, x.l[i]? = some a → y.l[i]? = some b → SameC 14 a b) (ihp : SamePC 40 x.p y.p) : SameC 14 x y := by
  intro w q1 q2 r1 r2 hx hy
  have h58 := Tryz.bits39
  obtain ⟨adq, capq, rfl, hlq⟩ := hx.parts.2.1.form
  obtain ⟨adr, capr, rfl, hlr⟩ := hy.parts.2.1.form
  obtain ⟨W, hW⟩ : ∃ W, W = (w.alloc (.cells (cv x (.slice adq x.l.length capq) q2) 27)).alloc (.cells (cv y (.slice adr y.l.length capr) r2) 27) := ⟨_, rfl⟩
  have hA : At7 W w.heap.size 0 x (.slice adq x.l.length capq) q2 := At7.box (t := 27) (by rw [hW]; exact blk_alloc (blk_new w _) _)
  have hB : At7 W (w.heap.size + 1) 0 y (.slice adr y.l.length capr) r2 := At7.box (t := 27) (by rw [hW]; exact blk_at (by simp))
  have hb0 : Below w.heap.size w W := by rw [hW]; exact ((Below.refl _ _).alloc (Nat.le_refl _) _).alloc (by simp) _
  have hz : w.heap.size + 1 < W.heap.size := by rw [hW]; simp
  have HA := Lib.hid hA
  have HB := Lib.hid hB
  have HW := Lib.hid hW
  have Hb0 := Lib.hid hb0
  have Hz := Lib.hid hz
  obtain ⟨a0, a1, a2, a3, a4, a5, a6⟩ := hA
  obtain ⟨b0, b1, b2, b3, b4, b5, b6⟩ := hB
  simp only [Nat.zero_add] at a0 a1 a2 a3 a4 a5 a6 b0 b1 b2 b3 b4 b5 b6
  have HX0 := Lib.hid (hx.under hb0)
  have HY0 := Lib.hid (hy.under hb0)
  have Hq := Lib.hid hq
  have Ihl := Lib.hid ihl
  have Ihp := Lib.hid ihp
  have hle := hq.2.2.2.2.2
  have Hle := Lib.hid hle
  obtain ⟨n, hn'⟩ : ∃ n, n = x.l.length := ⟨_, rfl⟩
  have hnn : ((n : Int) != (n : Int)) = false := by simp
  have Hn := Lib.hid hn'
  rw [← hle, ← hn'] at HB HW b5 hlr
  rw [← hn'] at HA a5 hlq
  have e5 : (.slice adr y.l.length capr : Value) = .slice adr n capr := by rw [← hle, ← hn']
  have e6 : (.slice adq x.l.length capq : Value) = .slice adq n capq := by rw [← hn']
  rw [e5, e6]
  rw [e6] at HX0
  rw [e5] at HY0
  clear e5 e6 hW hb0 hz hx hy hq ihl ihp hle hn' hl
  go_enter Tryz.func14, Tryz.ntmps14
  go_wp2
  rw [← HW.out]
  go_quiet (fail)
  have hb' := Lib.hid (below_drewN (Below.refl W.heap.size W) nq)
  generalize W.drewN nq = W' at *
  have HA' := Lib.hid (HA.out.keep (hb'.out.block _ (by have := Hz.out; omega)))
  have HB' := Lib.hid (HB.out.keep (hb'.out.block _ Hz.out))
  clear a0 a1 a2 a3 a4 a5 a6 b0 b1 b2 b3 b4 b5 b6
  obtain ⟨a0, a1, a2, a3, a4, a5, a6⟩ := HA'.out
  obtain ⟨b0, b1, b2, b3, b4, b5, b6⟩ := HB'.out
  simp only [Nat.zero_add] at a0 a1 a2 a3 a4 a5 a6 b0 b1 b2 b3 b4 b5 b6
  go_wp2
  clear a0 a1 a2 a3 a4 a5 a6 b0 b1 b2 b3 b4 b5 b6
  go_loopw [53] (fun i wr => ∃ (k : Nat), i = .int .i64 (k : Int) ∧ k ≤ n ∧ Go.RowKit.Hid (∀ j, j < k → x.l[j]? = y.l[j]?) ∧ Below W.heap.size W wr) (fun i _ => n - (intOf i).toNat)
  case atStart => exact ⟨0, rfl, by omega, (fun j hj => absurd hj (by omega)), hb'.out⟩
  case round =>
    obtain ⟨k, rfl, hk, hall, hbel⟩ := hrel
    have Hbel := Lib.hid hbel
    clear hbel
    obtain ⟨a0, a1, a2, a3, a4, a5, a6⟩ := HA.out.keep (Hbel.out.block _ (by have := Hz.out; omega))
    have HBwr := Lib.hid (HB.out.keep (Hbel.out.block _ Hz.out))
    obtain ⟨b0, b1, b2, b3, b4, b5, b6⟩ := HBwr.out
    simp only [Nat.zero_add] at a0 a1 a2 a3 a4 a5 a6 b0 b1 b2 b3 b4 b5 b6
    have hxr := HX0.out.under Hbel.out
    have hyr := HY0.out.under Hbel.out
    by_cases hlt : k < n
    · obtain ⟨a, ha⟩ := get_at (l := x.l) (k := k) (by rw [← Hn.out]; exact hlt)
      obtain ⟨b, hb⟩ := get_at (l := y.l) (k := k) (by rw [← Hle.out, ← Hn.out]; exact hlt)
      obtain ⟨g, o, c, d, rfl, hg, ⟨c0, c1, c2, c3, c4, c5, c6⟩, hrep⟩ := hxr.parts.2.1.at ha
      obtain ⟨g', o', c', d', rfl, hg', hat', hrep'⟩ := hyr.parts.2.1.at hb
      have hk0 : (0 : Int) ≤ (k : Int) := by omega
      have hkn : (k : Int) < (n : Int) := by omega
      
      obtain ⟨X, hX⟩ : ∃ X, X = wr := ⟨_, rfl⟩
      rw [← hX] at a0 a1 a2 a3 a4 a5 a6 b0 b1 b2 b3 b4 b5 b6 c0 c1 c2 c3 c4 c5 c6
      obtain ⟨d0, d1, d2, d3, d4, d5, d6⟩ := hat'.keep (w' := X) (by rw [hX])
      have hcall := Ihl.out k a b ha hb
      have HX := Lib.hid hX
      have Hcall := Lib.hid hcall
      have Hrep := Lib.hid hrep
      have Hrep' := Lib.hid hrep'
      have Ha := Lib.hid ha
      have Hb := Lib.hid hb
      clear hX hcall hrep hrep' ha hb hxr hyr hat' hg hg'
      cases hv : one a b
      · go_wp2
        rw [← HX.out]
        go_still_tail 10, (by kernel_rfl)
        change wpList _ _ _ _ _ X.drew
        go_wp2_with fail
        refine (Hcall.out _ _ _ _ _ (Hrep.out.under (by rw [HX.out]; exact (Below.refl _ _).drew)) (Hrep'.out.under (by rw [HX.out]; exact (Below.refl _ _).drew))).mono ?_
        rintro e w1 ⟨rfl, hb1⟩
        rw [hv]
        have Hv := Lib.hid hv
        have Hb1 := Lib.hid (Hbel.out.trans (((show Below wr.heap.size wr X.drew by rw [HX.out]; exact (Below.refl _ _).drew).trans (hb1.mono (by rw [HX.out]; simp))).mono Hbel.out.size))
        clear hb1 hv
        go_wp2
        go_ret
        exact ⟨by rw [twosL Ha.out Hb.out Hv.out]; rfl, Hb0.out.trans (Hb1.out.mono Hb0.out.size)⟩
      · go_wp2
        rw [← HX.out]
        go_still_tail 10, (by kernel_rfl)
        change wpList _ _ _ _ _ X.drew
        go_wp2_with fail
        refine (Hcall.out _ _ _ _ _ (Hrep.out.under (by rw [HX.out]; exact (Below.refl _ _).drew)) (Hrep'.out.under (by rw [HX.out]; exact (Below.refl _ _).drew))).mono ?_
        rintro e w1 ⟨rfl, hb1⟩
        rw [hv]
        have Hv := Lib.hid hv
        have Hb1 := Lib.hid (Hbel.out.trans (((show Below wr.heap.size wr X.drew by rw [HX.out]; exact (Below.refl _ _).drew).trans (hb1.mono (by rw [HX.out]; simp))).mono Hbel.out.size))
        clear hb1 hv
        go_wp2
        go_roundw
        case rel => exact ⟨k + 1, by go_num, by omega, onesL Ha.out Hb.out Hv.out hall.out, Hb1.out⟩
        case measure => simp [intOf]; omega
    · have e : x.l = y.l := all_same Hle.out (by rw [← Hn.out]; intro j hj; exact hall.out j (by omega))
      have he : one x y = oneP x.p y.p := one_rest x y ⟨Hq.out.1, Hq.out.2.1, Hq.out.2.2.1, Hq.out.2.2.2.1, Hq.out.2.2.2.2.1, e⟩
      have He := Lib.hid he
      have Hp := Lib.hid hxr.parts.2.2
      have Hp' := Lib.hid hyr.parts.2.2
      clear e he hxr hyr
      go_wp2_with fail
      refine (Ihp.out _ _ _ Hp.out Hp'.out).mono ?_
      rintro e w1 ⟨rfl, hb1⟩
      go_wp2
      go_ret
      exact ⟨by rw [He.out]; rfl, Hb0.out.trans ((Hbel.out.trans (hb1.mono Hbel.out.size)).mono Hb0.out.size)⟩
end Go.Proofs.YtnnnnlcpmocnfaaGreatDoor

/- THE WALKS OVER Same AND SamePairs, the program's. -/
namespace Go.Proofs.YtnnnnlcpmocnfaaGreatDoor
open Go.RowKit
set_option linter.unusedVariables false
set_option linter.unusedSimpArgs false
attribute [local go_sem] run_store_float


end Go.Proofs.YtnnnnlcpmocnfaaGreatDoor

/- Same AND SamePairs OF ANY VALUES, the document's own and the program's. -/
namespace Go.Proofs.YtnnnnlcpmocnfaaGreatDoor
open Go.RowKit
set_option linter.unusedVariables false

theorem bne_no {a b : Int} (h : a = b) : (a != b) = false := by rw [h]; simp
theorem bne_yes {a b : Int} (h : a ≠ b) : (a != b) = true := by simp [h]
theorem str_eq {a b : ByteArray} (h : a = b) : (a.toList == b.toList) = true := by rw [h]; simp
theorem bool_eq {a b : Bool} (h : a = b) : (a == b) = true := by rw [h]; simp
theorem bool_ne {a b : Bool} (h : a ≠ b) : (a == b) = false := by cases a <;> cases b <;> simp_all
theorem cast_eq {a b : Nat} (h : a = b) : ((a : Int) != (b : Int)) = false := bne_no (by omega)
theorem cast_ne {a b : Nat} (h : a ≠ b) : ((a : Int) != (b : Int)) = true := bne_yes (by omega)

theorem rs_step (x y : V) (ihl : ∀ (i : Nat) a b, x.l[i]? = some a → y.l[i]? = some b → SameC 14 a b) (ihp : SamePC 40 x.p y.p) : SameC 14 x y := by
  by_cases hk : x.k = y.k
  · by_cases hs : x.s = y.s
    · by_cases hb : x.b = y.b
      · by_cases hn : x.n = y.n
        · by_cases hf : x.f = y.f
          · by_cases hl : x.l.length = y.l.length
            · exact rs_main x y (bne_no hk) (str_eq hs) (bool_eq hb) (bne_no hn) (cast_eq hf) (cast_eq hl) ⟨hk, hs, hb, hn, hf, hl⟩ ihl ihp
            · exact rs_l x y (bne_no hk) (str_eq hs) (bool_eq hb) (bne_no hn) (cast_eq hf) (cast_ne hl) (one_no fun e => hl (by rw [e]))
          · exact rs_f x y (bne_no hk) (str_eq hs) (bool_eq hb) (bne_no hn) (cast_ne hf) (one_no fun e => hf (by rw [e]))
        · exact rs_n x y (bne_no hk) (str_eq hs) (bool_eq hb) (bne_yes hn) (one_no fun e => hn (by rw [e]))
      · exact rs_b x y (bne_no hk) (str_eq hs) (bool_ne hb) (one_no fun e => hb (by rw [e]))
    · exact rs_s x y (bne_no hk) (str_ne hs) (one_no fun e => hs (by rw [e]))
  · exact rs_k x y (bne_yes hk) (one_no fun e => hk (by rw [e]))
theorem rsp_step (x y : List (ByteArray × V)) (ih : ∀ (i : Nat) a b, x[i]? = some a → y[i]? = some b → SameC 14 a.2 b.2) : SamePC 40 x y := by
  by_cases h : x.length = y.length
  · exact rsp_main x y h ih
  · exact rsp_len x y h
theorem rs_sized : ∀ (n : Nat) (x : V), SizeOf.sizeOf x ≤ n → ∀ y, SameC 14 x y := by
  intro n
  induction n with
  | zero => intro x hx y; cases x; simp only [V.mk.sizeOf_spec] at hx; omega
  | succ n ih =>
    intro x hx y
    exact rs_step x y (fun i a b ha hb => ih a (by have := V.size_l (List.mem_of_getElem? ha); omega) b) (rsp_step _ _ fun i a b ha hb => ih a.2 (by have := V.size_p (List.mem_of_getElem? ha); omega) b.2)
theorem rs_any (x y : V) : SameC 14 x y := rs_sized _ x (Nat.le_refl _) y
theorem rsp_any (x y : List (ByteArray × V)) : SamePC 40 x y := rsp_step x y fun i a b _ _ => rs_any a.2 b.2

end Go.Proofs.YtnnnnlcpmocnfaaGreatDoor
