/- CONF: THE WALK OVER the document's Same, of two nodes that are one. -/
import Derived.Test.YtegobomfhdfodaaGreatDoorDq
import Derived.BigQuiet
import Derived.Deep.QuietTactic
import Derived.Test.YtegobomfhdfodaaGreatDoorCix
import Derived.StillTailTactics
namespace Go.Proofs.YtegobomfhdfodaaGreatDoor
open Go.RowKit
set_option maxRecDepth 100000
set_option linter.unusedVariables false
set_option linter.unusedSimpArgs false

/-- Same says yes -/
def SameY (x : Nd) : Prop := ∀ (B B' : Nat → Prop) (w : World) (a1 a2 b1 b2 : Value), Rep B w a1 a2 x → Rep B' w b1 b2 x → Calls Tryz.prog 17 #[.agg (nv x a1 a2), .agg (nv x b1 b2)] w fun e w' => e = .returned (.bool true) ∧ Below w.heap.size w w'
set_option maxHeartbeats 8000000 in
theorem same_step (x : Nd) (ih : ∀ y ∈ x.p, SameY y.2) : SameY x := by
  intro B B' w a1 a2 b1 b2 hr hs
  obtain ⟨fit, hrt, hrk⟩ := hr.parts
  obtain ⟨_, hst, hsk⟩ := hs.parts
  obtain ⟨ad1, cap1, rfl, hl1⟩ := hrt.form
  obtain ⟨ad2, cap2, rfl, hl2⟩ := hrk.form
  obtain ⟨bd1, cbp1, rfl, _⟩ := hst.form
  obtain ⟨bd2, cbp2, rfl, _⟩ := hsk.form
  obtain ⟨n, hn⟩ : ∃ n, n = x.l.length := ⟨_, rfl⟩
  obtain ⟨m, hm⟩ : ∃ m, m = x.p.length := ⟨_, rfl⟩
  have hro := hrk.room
  have hso := hsk.room
  obtain ⟨W, hW⟩ : ∃ W, W = (w.alloc (.cells #[.int .u8 (x.k : Int), S x.s, .slice ad1 n cap1, .slice ad2 m cap2] 32)).alloc (.cells #[.int .u8 (x.k : Int), S x.s, .slice bd1 n cbp1, .slice bd2 m cbp2] 32) := ⟨_, rfl⟩
  have hB : Below w.heap.size w W := by rw [hW]; exact ((Below.refl _ w).alloc (Nat.le_refl _) _).alloc (by simp) _
  have hb0 : W.heap[w.heap.size]? = some (.cells #[.int .u8 (x.k : Int), S x.s, .slice ad1 n cap1, .slice ad2 m cap2] 32 (0, 0)) := by rw [hW]; exact blk_under (blk_new w _) ((Below.refl _ _).alloc (Nat.le_refl _) _)
  have hb1 : W.heap[w.heap.size + 1]? = some (.cells #[.int .u8 (x.k : Int), S x.s, .slice bd1 n cbp1, .slice bd2 m cbp2] 32 (0, 0)) := by
    rw [hW]
    have := blk_new (w.alloc (.cells #[.int .u8 (x.k : Int), S x.s, .slice ad1 n cap1, .slice ad2 m cap2] 32)) (.cells #[.int .u8 (x.k : Int), S x.s, .slice bd1 n cbp1, .slice bd2 m cbp2] 32)
    simpa using this
  rw [← hn] at hrt hst hl1 ⊢
  rw [← hm] at hrk hsk hl2 hro hso ⊢
  have HW := Lib.hid hW
  have HB := Lib.hid (And.intro hB (And.intro hb0 hb1))
  have HR := Lib.hid (And.intro (hrt.under hB) (And.intro (hrk.under hB) (And.intro (hst.under hB) (hsk.under hB))))
  have HN := Lib.hid (And.intro hn hm)
  obtain ⟨c0, c1, c2, c3⟩ := four hb0
  obtain ⟨d0, d1, d2, d3⟩ := four hb1
  have hlt0 := blk_lt hb0
  have hlt1 := blk_lt hb1
  obtain ⟨kz, hkz⟩ : ∃ z : Int, (x.k : Int) = z := ⟨_, rfl⟩
  obtain ⟨hr1, hr2⟩ := hro
  obtain ⟨hs1, hs2⟩ := hso
  clear hW hB hb0 hb1 hrt hrk hst hsk hn hm hr hs
  go_enter Tryz.func17, Tryz.ntmps17
  go_upto_region 1 with (fail)
  rw [← HW.out]
  go_wp2
  go_loopw [5, 40] (fun _ i wr => ∃ k : Nat, i = .int .i64 (k : Int) ∧ k ≤ n ∧ Below W.heap.size W wr) (fun _ i _ => n - (intOf i).toNat)
  case atStart => exact ⟨0, rfl, Nat.zero_le _, Below.refl _ _⟩
  case round =>
    obtain ⟨k, rfl, hk, hbel⟩ := hrel
    have hx0 := blk_under HB.out.2.1 hbel
    have hx1 := blk_under HB.out.2.2 hbel
    obtain ⟨u0, u1, u2, u3⟩ := four hx0
    obtain ⟨v0, v1, v2, v3⟩ := four hx1
    have hq0 := blk_lt hx0
    have hq1 := blk_lt hx1
    clear c0 c1 c2 c3 d0 d1 d2 d3
    by_cases hlt : k < n
    · obtain ⟨s, hsk⟩ := get_at (l := x.l) (k := k) (by rw [← HN.out.1]; exact hlt)
      obtain ⟨g, o, rfl, hg, e0, _⟩ := (HR.out.1.under hbel).at hsk
      obtain ⟨g', o', rfl, hg', e1, _⟩ := (HR.out.2.2.1.under hbel).at hsk
      have HBE := Lib.hid hbel
      have hk0 : (0 : Int) ≤ (k : Int) := by omega
      have hkn : (k : Int) < (n : Int) := by omega
      clear hbel hx0 hx1 hsk
      go_upto_region 6 with (fail)
      go_quiet (fail)
      go_wp2
      go_roundw
      case rel => exact ⟨k + 1, by go_num, by omega, HBE.out.trans ((below_drewN' _ _).mono HBE.out.size)⟩
      case measure => simp [intOf]; omega
    · have hkn : ¬ (k : Int) < (n : Int) := by omega
      have HBE := Lib.hid hbel
      clear hbel hx0 hx1
      obtain ⟨w0, hw0⟩ : ∃ w0, w0 = wr := ⟨_, rfl⟩
      go_wp2
      go_loopw [6, 58] (fun _ i wr => ∃ j : Nat, i = .int .i64 (j : Int) ∧ j ≤ m ∧ Below W.heap.size W wr) (fun _ i _ => m - (intOf i).toNat)
      case atStart => exact ⟨0, rfl, Nat.zero_le _, HBE.out⟩
      case round =>
        obtain ⟨j, rfl, hj, hbel⟩ := hrel
        have hx0 := blk_under HB.out.2.1 hbel
        have hx1 := blk_under HB.out.2.2 hbel
        obtain ⟨u0, u1, u2, u3⟩ := four hx0
        obtain ⟨v0, v1, v2, v3⟩ := four hx1
        have hq0 := blk_lt hx0
        have hq1 := blk_lt hx1
        have HBE := Lib.hid hbel
        by_cases hjm : j < m
        · obtain ⟨y, hy⟩ := get_at (l := x.p) (k := j) (by rw [← HN.out.2]; exact hjm)
          obtain ⟨g, o, p1, p2, rfl, hg, ⟨e0, e1, e2, e3, e4⟩, _, hrn⟩ := (HR.out.2.1.under hbel).at hy
          obtain ⟨g', o', t1, t2, rfl, hg', ⟨f0, f1, f2, f3, f4⟩, _, hsn⟩ := (HR.out.2.2.2.under hbel).at hy
          have hD : Below _ _ _ := (Below.refl wr.heap.size wr).drew
          have hc := ih y (List.mem_of_getElem? hy) _ _ wr.drew p1 p2 t1 t2 (hrn.under hD) (hsn.under hD)
          obtain ⟨z1, z2, rfl, _⟩ := hrn.parts.2.1.form
          obtain ⟨z3, z4, rfl, _⟩ := hrn.parts.2.2.form
          obtain ⟨z5, z6, rfl, _⟩ := hsn.parts.2.1.form
          obtain ⟨z7, z8, rfl, _⟩ := hsn.parts.2.2.form
          have HC := Lib.hid hc
          have hj0 : (0 : Int) ≤ (j : Int) := by omega
          have hjn : (j : Int) < (m : Int) := by omega
          clear hbel hx0 hx1 hy hc hrn hsn hD
          go_upto_region 12 with (fail)
          go_still_tail 26, (by kernel_rfl)
          change wpList _ _ _ _ _ wr.drew
          go_wp2_with fail
          refine (HC.out).mono ?_
          rintro e' w2 ⟨rfl, hb2⟩
          have HB2 := Lib.hid (HBE.out.trans ((((Below.refl wr.heap.size wr).drew).trans hb2).mono HBE.out.size))
          clear hb2
          go_wp2
          go_roundw
          case rel => exact ⟨j + 1, by go_num, by omega, HB2.out⟩
          case measure => simp [intOf]; omega
        · have hjn : ¬ (j : Int) < (m : Int) := by omega
          clear hbel hx0 hx1
          go_wp2
          refine bodyPost_ret (v := .bool true) (by simp [results, Tryz.results17, go_sem]) rfl ?_
          exact ⟨rfl, HB.out.1.trans (HBE.out.mono HB.out.1.size)⟩
theorem same_yes (x : Nd) : SameY x := same_step x (fun y hy => same_yes y.2)
termination_by SizeOf.sizeOf x
decreasing_by exact Nd.size_p hy
end Go.Proofs.YtegobomfhdfodaaGreatDoor
