/- SERVER: THE WALKS OVER Take. -/
import Derived.Test.YtomicdkmbgckkaaGreatDoorGav
namespace Go.Proofs.YtomicdkmbgckkaaGreatDoor
open Go.RowKit
set_option maxRecDepth 100000
set_option linter.unusedVariables false
set_option linter.unusedSimpArgs false
/-- Take's answer -/
def takeM (c : Cn) (m : Int) : Cn × H.T × Int := if chk c m ≠ 0 then (cn0, [], chk c m) else (⟨c.buf, [], c.closed, c.busy, c.last, c.since⟩, c.out, 0)
set_option maxHeartbeats 8000000 in
theorem cn_take7 (w : World) (c : Cn) (m idle : Int) :
    Calls Tryz.prog 7 #[.agg c.cells, .agg #[.int .i64 m, .int .u64 idle]] w fun e w' => e = .returned (.tuple #[.agg (takeM c m).1.cells, S (takeM c m).2.1, .int .i64 (takeM c m).2.2]) ∧ Below w.heap.size w w' := by
  obtain ⟨buf, out, closed, busy, last, since⟩ := c
  obtain ⟨X, hX⟩ : ∃ X, X = ((w.alloc (.cells #[S buf, S out, .bool closed, .bool busy, .bool last, .int .u64 since] 24)).alloc (.cells #[.int .i64 m, .int .u64 idle] 26)).alloc (.cells #[S [], S [], .bool false, .bool false, .bool false, .int .u64 0] 24) := ⟨_, rfl⟩
  have hb : Below w.heap.size w X := by rw [hX]; exact (((Below.refl _ w).alloc (Nat.le_refl _) _).alloc (by simp) _).alloc (by simp; omega) _
  have hx : X.heap[w.heap.size]? = some (.cells #[S buf, S out, .bool closed, .bool busy, .bool last, .int .u64 since] 24 (0, 0)) := by rw [hX]; exact blk_alloc (blk_alloc (blk_new w _) _) _
  have hr : X.heap[w.heap.size + 1]? = some (.cells #[.int .i64 m, .int .u64 idle] 26 (0, 0)) := by rw [hX]; exact blk_alloc (blk_at (by simp)) _
  have ho : X.heap[w.heap.size + 1 + 1]? = some (.cells #[S [], S [], .bool false, .bool false, .bool false, .int .u64 0] 24 (0, 0)) := by rw [hX]; exact blk_at (by simp)
  have hch := cn_check X ⟨buf, out, closed, busy, last, since⟩ m idle
  have Hb := Lib.hid hb
  have Hx := Lib.hid hx
  have Hr := Lib.hid hr
  have Ho := Lib.hid ho
  obtain ⟨c0, c1, c2, c3, c4, c5⟩ := box6 hx
  obtain ⟨r0, r1⟩ := box2 hr
  obtain ⟨k, hk⟩ : ∃ k, chk ⟨buf, out, closed, busy, last, since⟩ m = k := ⟨_, rfl⟩
  rw [hk] at hch
  unfold takeM
  rw [hk]
  have Hk := Lib.hid hk
  have Hch := Lib.hid hch
  have hla := blk_lt hx
  have hlb := blk_lt hr
  clear hb hx hr ho hch hk 
  by_cases hk0 : k = 0
  · subst hk0
    rw [if_neg (by simp)]
    simp only
    go_enter Tryz.func7, Tryz.ntmps7
    go_upto_region 1 with (fail)
    rw [← hX]
    clear hX
    go_wp2_with fail
    refine Hch.out.mono ?_
    rintro e w1 ⟨rfl, h1⟩
    have H1 := Lib.hid (Hb.out.trans (h1.mono Hb.out.size))
    have ho1 := blk_under Ho.out h1
    have Ho1 := Lib.hid ho1
    obtain ⟨f0, f1, f2, f3, f4, f5⟩ := frz6 ho1
    obtain ⟨o0, o1, o2, o3, o4, o5⟩ := box6 ho1
    have hlo := blk_lt ho1
    obtain ⟨c0, c1, c2, c3, c4, c5⟩ := box6 (blk_under Hx.out h1)
    obtain ⟨r0, r1⟩ := box2 (blk_under Hr.out h1)
    have hlc := blk_lt (blk_under Hx.out h1)
    have hlr := blk_lt (blk_under Hr.out h1)
    obtain ⟨Y, hY⟩ : ∃ Y, Y = w1.alloc (.cells #[S buf, S out, .bool closed, .bool busy, .bool last, .int .u64 since] 46) := ⟨_, rfl⟩
    have hbY : Below w1.heap.size w1 Y := by rw [hY]; exact (Below.refl _ w1).alloc (Nat.le_refl _) _
    have hkY : Y.heap[w1.heap.size]? = some (.cells (Cn.mk buf out closed busy last since).cells 46 (0, 0)) := by rw [hY]; exact blk_new w1 _
    have hex := cn_take Y w1.heap.size ⟨buf, out, closed, busy, last, since⟩ hkY
    have Hex := Lib.hid hex
    have HoY := Lib.hid (blk_under ho1 hbY)
    have HbY := Lib.hid (H1.out.trans (hbY.mono H1.out.size))
    have hYs := hbY.size
    have hlY := blk_lt hkY
    clear h1 ho1 hbY hkY hex
    go_upto_region 5 with (fail)
    rw [← hY]
    clear hY c0 c1 c2 c3 c4 c5 r0 r1 o0 o1 o2 o3 o4 o5 f0 f1 f2 f3 f4 f5
    go_wp2_with fail
    refine Hex.out.mono ?_
    rintro e w2 ⟨rfl, hk2, hg2⟩
    have ho2 := (hg2.block (w.heap.size + 1 + 1) (by omega) (by intro e; injection e with e; omega)).trans HoY.out
    obtain ⟨f0, f1, f2, f3, f4, f5⟩ := frz6 ho2
    obtain ⟨o0, o1, o2, o3, o4, o5⟩ := box6 ho2
    obtain ⟨c0, c1, c2, c3, c4, c5⟩ := box6 hk2
    have hl2 := blk_lt hk2
    have hlo2 := blk_lt ho2
    have Ho2 := Lib.hid ho2
    have H2 := Lib.hid (grown_below HbY.out hg2 (by omega) hlY)
    clear hk2 hg2 ho2
    go_wp2
    obtain ⟨V, hV⟩ : ∃ V, V = (((((w2.setCell ⟨w.heap.size + 1 + 1, 0, none⟩ (S buf)).setCell ⟨w.heap.size + 1 + 1, 1, none⟩ (S [])).setCell ⟨w.heap.size + 1 + 1, 2, none⟩ (.bool closed)).setCell ⟨w.heap.size + 1 + 1, 3, none⟩ (.bool busy)).setCell ⟨w.heap.size + 1 + 1, 4, none⟩ (.bool last)).setCell ⟨w.heap.size + 1 + 1, 5, none⟩ (.int .u64 since) := ⟨_, rfl⟩
    rw [← hV]
    obtain ⟨hkV, hgV⟩ := put6 Ho2.out _ _ _ _ _ _ hV
    obtain ⟨k0, k1, k2, k3, k4, k5⟩ := box6 hkV
    clear hV o0 o1 o2 o3 o4 o5 f0 f1 f2 f3 f4 f5 c0 c1 c2 c3 c4 c5
    refine bodyPost_ret (by simp [results, Tryz.results7, go_sem, k0, k1, k2, k3, k4, k5]; try rfl) rfl ?_
    exact ⟨rfl, grown_below H2.out hgV (by omega) hlo2⟩
  · rw [if_pos hk0]
    go_enter Tryz.func7, Tryz.ntmps7
    go_upto_region 1 with (fail)
    rw [← hX]
    clear hX
    go_wp2_with fail
    refine Hch.out.mono ?_
    rintro e w1 ⟨rfl, h1⟩
    have H1 := Lib.hid (Hb.out.trans (h1.mono Hb.out.size))
    have ho1 := blk_under Ho.out h1
    have Ho1 := Lib.hid ho1
    obtain ⟨f0, f1, f2, f3, f4, f5⟩ := frz6 ho1
    obtain ⟨o0, o1, o2, o3, o4, o5⟩ := box6 ho1
    have hlo := blk_lt ho1
    clear h1 ho1 c0 c1 c2 c3 c4 c5 r0 r1
    go_wp2
    obtain ⟨V, hV⟩ : ∃ V, V = (((((w1.setCell ⟨w.heap.size + 1 + 1, 0, none⟩ (S [])).setCell ⟨w.heap.size + 1 + 1, 1, none⟩ (S [])).setCell ⟨w.heap.size + 1 + 1, 2, none⟩ (.bool false)).setCell ⟨w.heap.size + 1 + 1, 3, none⟩ (.bool false)).setCell ⟨w.heap.size + 1 + 1, 4, none⟩ (.bool false)).setCell ⟨w.heap.size + 1 + 1, 5, none⟩ (.int .u64 0) := ⟨_, rfl⟩
    rw [← hV]
    obtain ⟨hkV, hgV⟩ := put6 Ho1.out _ _ _ _ _ _ hV
    obtain ⟨k0, k1, k2, k3, k4, k5⟩ := box6 hkV
    clear hV o0 o1 o2 o3 o4 o5 f0 f1 f2 f3 f4 f5
    refine bodyPost_ret (by simp [results, Tryz.results7, go_sem, k0, k1, k2, k3, k4, k5]; try rfl) rfl ?_
    exact ⟨rfl, grown_below H1.out hgV (by omega) hlo⟩
end Go.Proofs.YtomicdkmbgckkaaGreatDoor
