/- THE WALKS OVER Same AND SamePairs, the program's. -/
import Derived.Test.YtnnnnlcpmocnfaaDoorSm3
import Derived.StillTailTactics
import Derived.Deep.RegionHeld3
import Derived.BigQuiet
import Derived.Deep.QuietTactic
import Derived.WalkLawsBesides
namespace Go.Proofs.YtnnnnlcpmocnfaaDoor
open Go.RowKit
set_option linter.unusedVariables false
set_option linter.unusedSimpArgs false
attribute [local go_sem] run_store_float


set_option maxRecDepth 100000 in
set_option maxHeartbeats 4000000 in
theorem vs_k (x y : V)  (hk : (x.k != y.k) = true) (he : one x y = false) : SameC 20 x y := by
  intro w q1 q2 r1 r2 hx hy
  rw [he]
  have h58 := Tryd.bits58
  obtain ⟨adq, capq, rfl, hlq⟩ := hx.parts.2.1.form
  obtain ⟨adr, capr, rfl, hlr⟩ := hy.parts.2.1.form
  obtain ⟨W, hW⟩ : ∃ W, W = (w.alloc (.cells (cv x (.slice adq x.l.length capq) q2) 27)).alloc (.cells (cv y (.slice adr y.l.length capr) r2) 27) := ⟨_, rfl⟩
  have hA : At7 W w.heap.size 0 x (.slice adq x.l.length capq) q2 := At7.box (t := 27) (by rw [hW]; exact blk_alloc (blk_new w _) _)
  have hB : At7 W (w.heap.size + 1) 0 y (.slice adr y.l.length capr) r2 := At7.box (t := 27) (by rw [hW]; exact blk_at (by simp))
  have hb0 : Below w.heap.size w W := by rw [hW]; exact ((Below.refl _ _).alloc (Nat.le_refl _) _).alloc (by simp) _
  have hz : w.heap.size + 1 < W.heap.size := by rw [hW]; simp
  have HA := Lib.hid hA
  have HB := Lib.hid hB
  have HW := Lib.hid hW
  have Hb0 := Lib.hid hb0
  have Hz := Lib.hid hz
  obtain ⟨a0, a1, a2, a3, a4, a5, a6⟩ := hA
  obtain ⟨b0, b1, b2, b3, b4, b5, b6⟩ := hB
  simp only [Nat.zero_add] at a0 a1 a2 a3 a4 a5 a6 b0 b1 b2 b3 b4 b5 b6
  clear hW hb0 hz hx hy he
  go_enter Tryd.func20, Tryd.ntmps20
  go_wp2
  go_ret
  exact ⟨rfl, (by have := Hb0.out; rw [HW.out] at this; exact this)⟩

set_option maxRecDepth 100000 in
set_option maxHeartbeats 4000000 in
theorem vs_s (x y : V) (hk : (x.k != y.k) = false) (hs : (x.s.toList == y.s.toList) = false) (he : one x y = false) : SameC 20 x y := by
  intro w q1 q2 r1 r2 hx hy
  rw [he]
  have h58 := Tryd.bits58
  obtain ⟨adq, capq, rfl, hlq⟩ := hx.parts.2.1.form
  obtain ⟨adr, capr, rfl, hlr⟩ := hy.parts.2.1.form
  obtain ⟨W, hW⟩ : ∃ W, W = (w.alloc (.cells (cv x (.slice adq x.l.length capq) q2) 27)).alloc (.cells (cv y (.slice adr y.l.length capr) r2) 27) := ⟨_, rfl⟩
  have hA : At7 W w.heap.size 0 x (.slice adq x.l.length capq) q2 := At7.box (t := 27) (by rw [hW]; exact blk_alloc (blk_new w _) _)
  have hB : At7 W (w.heap.size + 1) 0 y (.slice adr y.l.length capr) r2 := At7.box (t := 27) (by rw [hW]; exact blk_at (by simp))
  have hb0 : Below w.heap.size w W := by rw [hW]; exact ((Below.refl _ _).alloc (Nat.le_refl _) _).alloc (by simp) _
  have hz : w.heap.size + 1 < W.heap.size := by rw [hW]; simp
  have HA := Lib.hid hA
  have HB := Lib.hid hB
  have HW := Lib.hid hW
  have Hb0 := Lib.hid hb0
  have Hz := Lib.hid hz
  obtain ⟨a0, a1, a2, a3, a4, a5, a6⟩ := hA
  obtain ⟨b0, b1, b2, b3, b4, b5, b6⟩ := hB
  simp only [Nat.zero_add] at a0 a1 a2 a3 a4 a5 a6 b0 b1 b2 b3 b4 b5 b6
  clear hW hb0 hz hx hy he
  go_enter Tryd.func20, Tryd.ntmps20
  go_wp2
  go_ret
  exact ⟨rfl, (by have := Hb0.out; rw [HW.out] at this; exact this)⟩

set_option maxRecDepth 100000 in
set_option maxHeartbeats 4000000 in
theorem vs_b (x y : V) (hk : (x.k != y.k) = false) (hs : (x.s.toList == y.s.toList) = true) (hb : (x.b == y.b) = false) (he : one x y = false) : SameC 20 x y := by
  intro w q1 q2 r1 r2 hx hy
  rw [he]
  have h58 := Tryd.bits58
  obtain ⟨adq, capq, rfl, hlq⟩ := hx.parts.2.1.form
  obtain ⟨adr, capr, rfl, hlr⟩ := hy.parts.2.1.form
  obtain ⟨W, hW⟩ : ∃ W, W = (w.alloc (.cells (cv x (.slice adq x.l.length capq) q2) 27)).alloc (.cells (cv y (.slice adr y.l.length capr) r2) 27) := ⟨_, rfl⟩
  have hA : At7 W w.heap.size 0 x (.slice adq x.l.length capq) q2 := At7.box (t := 27) (by rw [hW]; exact blk_alloc (blk_new w _) _)
  have hB : At7 W (w.heap.size + 1) 0 y (.slice adr y.l.length capr) r2 := At7.box (t := 27) (by rw [hW]; exact blk_at (by simp))
  have hb0 : Below w.heap.size w W := by rw [hW]; exact ((Below.refl _ _).alloc (Nat.le_refl _) _).alloc (by simp) _
  have hz : w.heap.size + 1 < W.heap.size := by rw [hW]; simp
  have HA := Lib.hid hA
  have HB := Lib.hid hB
  have HW := Lib.hid hW
  have Hb0 := Lib.hid hb0
  have Hz := Lib.hid hz
  obtain ⟨a0, a1, a2, a3, a4, a5, a6⟩ := hA
  obtain ⟨b0, b1, b2, b3, b4, b5, b6⟩ := hB
  simp only [Nat.zero_add] at a0 a1 a2 a3 a4 a5 a6 b0 b1 b2 b3 b4 b5 b6
  clear hW hb0 hz hx hy he
  go_enter Tryd.func20, Tryd.ntmps20
  go_wp2
  go_ret
  exact ⟨rfl, (by have := Hb0.out; rw [HW.out] at this; exact this)⟩

set_option maxRecDepth 100000 in
set_option maxHeartbeats 4000000 in
theorem vs_n (x y : V) (hk : (x.k != y.k) = false) (hs : (x.s.toList == y.s.toList) = true) (hb : (x.b == y.b) = true) (hn : (x.n != y.n) = true) (he : one x y = false) : SameC 20 x y := by
  intro w q1 q2 r1 r2 hx hy
  rw [he]
  have h58 := Tryd.bits58
  obtain ⟨adq, capq, rfl, hlq⟩ := hx.parts.2.1.form
  obtain ⟨adr, capr, rfl, hlr⟩ := hy.parts.2.1.form
  obtain ⟨W, hW⟩ : ∃ W, W = (w.alloc (.cells (cv x (.slice adq x.l.length capq) q2) 27)).alloc (.cells (cv y (.slice adr y.l.length capr) r2) 27) := ⟨_, rfl⟩
  have hA : At7 W w.heap.size 0 x (.slice adq x.l.length capq) q2 := At7.box (t := 27) (by rw [hW]; exact blk_alloc (blk_new w _) _)
  have hB : At7 W (w.heap.size + 1) 0 y (.slice adr y.l.length capr) r2 := At7.box (t := 27) (by rw [hW]; exact blk_at (by simp))
  have hb0 : Below w.heap.size w W := by rw [hW]; exact ((Below.refl _ _).alloc (Nat.le_refl _) _).alloc (by simp) _
  have hz : w.heap.size + 1 < W.heap.size := by rw [hW]; simp
  have HA := Lib.hid hA
  have HB := Lib.hid hB
  have HW := Lib.hid hW
  have Hb0 := Lib.hid hb0
  have Hz := Lib.hid hz
  obtain ⟨a0, a1, a2, a3, a4, a5, a6⟩ := hA
  obtain ⟨b0, b1, b2, b3, b4, b5, b6⟩ := hB
  simp only [Nat.zero_add] at a0 a1 a2 a3 a4 a5 a6 b0 b1 b2 b3 b4 b5 b6
  clear hW hb0 hz hx hy he
  go_enter Tryd.func20, Tryd.ntmps20
  go_wp2
  go_ret
  exact ⟨rfl, (by have := Hb0.out; rw [HW.out] at this; exact this)⟩

set_option maxRecDepth 100000 in
set_option maxHeartbeats 4000000 in
theorem vs_f (x y : V) (hk : (x.k != y.k) = false) (hs : (x.s.toList == y.s.toList) = true) (hb : (x.b == y.b) = true) (hn : (x.n != y.n) = false) (hf : ((x.f : Int) != (y.f : Int)) = true) (he : one x y = false) : SameC 20 x y := by
  intro w q1 q2 r1 r2 hx hy
  rw [he]
  have h58 := Tryd.bits58
  obtain ⟨adq, capq, rfl, hlq⟩ := hx.parts.2.1.form
  obtain ⟨adr, capr, rfl, hlr⟩ := hy.parts.2.1.form
  obtain ⟨W, hW⟩ : ∃ W, W = (w.alloc (.cells (cv x (.slice adq x.l.length capq) q2) 27)).alloc (.cells (cv y (.slice adr y.l.length capr) r2) 27) := ⟨_, rfl⟩
  have hA : At7 W w.heap.size 0 x (.slice adq x.l.length capq) q2 := At7.box (t := 27) (by rw [hW]; exact blk_alloc (blk_new w _) _)
  have hB : At7 W (w.heap.size + 1) 0 y (.slice adr y.l.length capr) r2 := At7.box (t := 27) (by rw [hW]; exact blk_at (by simp))
  have hb0 : Below w.heap.size w W := by rw [hW]; exact ((Below.refl _ _).alloc (Nat.le_refl _) _).alloc (by simp) _
  have hz : w.heap.size + 1 < W.heap.size := by rw [hW]; simp
  have HA := Lib.hid hA
  have HB := Lib.hid hB
  have HW := Lib.hid hW
  have Hb0 := Lib.hid hb0
  have Hz := Lib.hid hz
  obtain ⟨a0, a1, a2, a3, a4, a5, a6⟩ := hA
  obtain ⟨b0, b1, b2, b3, b4, b5, b6⟩ := hB
  simp only [Nat.zero_add] at a0 a1 a2 a3 a4 a5 a6 b0 b1 b2 b3 b4 b5 b6
  clear hW hb0 hz hx hy he
  go_enter Tryd.func20, Tryd.ntmps20
  go_wp2
  rw [← HW.out]
  go_quiet (fail)
  go_wp2
  go_ret
  exact ⟨rfl, below_drewN Hb0.out _⟩

set_option maxRecDepth 100000 in
set_option maxHeartbeats 4000000 in
theorem vs_l (x y : V) (hk : (x.k != y.k) = false) (hs : (x.s.toList == y.s.toList) = true) (hb : (x.b == y.b) = true) (hn : (x.n != y.n) = false) (hf : ((x.f : Int) != (y.f : Int)) = false) (hl : (((x.l.length : Nat) : Int) != ((y.l.length : Nat) : Int)) = true) (he : one x y = false) : SameC 20 x y := by
  intro w q1 q2 r1 r2 hx hy
  rw [he]
  have h58 := Tryd.bits58
  obtain ⟨adq, capq, rfl, hlq⟩ := hx.parts.2.1.form
  obtain ⟨adr, capr, rfl, hlr⟩ := hy.parts.2.1.form
  obtain ⟨W, hW⟩ : ∃ W, W = (w.alloc (.cells (cv x (.slice adq x.l.length capq) q2) 27)).alloc (.cells (cv y (.slice adr y.l.length capr) r2) 27) := ⟨_, rfl⟩
  have hA : At7 W w.heap.size 0 x (.slice adq x.l.length capq) q2 := At7.box (t := 27) (by rw [hW]; exact blk_alloc (blk_new w _) _)
  have hB : At7 W (w.heap.size + 1) 0 y (.slice adr y.l.length capr) r2 := At7.box (t := 27) (by rw [hW]; exact blk_at (by simp))
  have hb0 : Below w.heap.size w W := by rw [hW]; exact ((Below.refl _ _).alloc (Nat.le_refl _) _).alloc (by simp) _
  have hz : w.heap.size + 1 < W.heap.size := by rw [hW]; simp
  have HA := Lib.hid hA
  have HB := Lib.hid hB
  have HW := Lib.hid hW
  have Hb0 := Lib.hid hb0
  have Hz := Lib.hid hz
  obtain ⟨a0, a1, a2, a3, a4, a5, a6⟩ := hA
  obtain ⟨b0, b1, b2, b3, b4, b5, b6⟩ := hB
  simp only [Nat.zero_add] at a0 a1 a2 a3 a4 a5 a6 b0 b1 b2 b3 b4 b5 b6
  clear hW hb0 hz hx hy he
  go_enter Tryd.func20, Tryd.ntmps20
  go_wp2
  rw [← HW.out]
  go_quiet (fail)
  go_wp2
  go_ret
  exact ⟨rfl, below_drewN Hb0.out _⟩
end Go.Proofs.YtnnnnlcpmocnfaaDoor
