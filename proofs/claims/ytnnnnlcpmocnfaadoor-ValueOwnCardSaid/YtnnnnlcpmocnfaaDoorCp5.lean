/- THE WALKS OVER copied, copiedPair, copiedPairs, the document's own. -/
import Derived.Test.YtnnnnlcpmocnfaaDoorCp4
import Derived.Deep.RegionHeld3
import Derived.Deep.RegionLaw
import Derived.StillTailTactics
import Derived.WalkLawsBesides
import Derived.Outline
namespace Go.Proofs.YtnnnnlcpmocnfaaDoor
open Go.RowKit
set_option linter.unusedVariables false
set_option linter.unusedSimpArgs false
attribute [local go_sem] run_store_float


set_option maxRecDepth 100000 in
set_option maxHeartbeats 8000000 in
theorem rcopyPairs_of (l : List (ByteArray × V)) (ih : ∀ e, e ∈ l → CopyC 59 e.2) : CopyPC 24 l := by
  intro w q hq hl112
  obtain ⟨ad, cap, rfl, hl⟩ := hq.form
  obtain ⟨n, hn⟩ : ∃ n, n = l.length := ⟨_, rfl⟩
  rw [← hn] at hq hl hl112 ⊢
  have Hn := Lib.hid hn
  have Hq := Lib.hid hq
  have H112 := Lib.hid hl112
  have Ih := Lib.hid ih
  clear hn hq hl112 ih
  go_enter Tryd.func24, Tryd.ntmps24
  go_wp2
  go_loopw [3, 8] (fun v i wr => ∃ (k : Nat) (es : List (ByteArray × V × Value × Value)), i = .int .i64 (k : Int) ∧ k ≤ n ∧ Go.RowKit.Hid (PInv l w k v es wr)) (fun _ i _ => n - (intOf i).toNat)
  case atStart => exact ⟨0, [], rfl, by omega, ⟨PRow.nil _ _, by simp, Below.refl _ _⟩⟩
  case round =>
    obtain ⟨k, es, rfl, hk, hinv⟩ := hrel
    have Hinv := Lib.hid hinv.out
    clear hinv
    by_cases hlt : k < n
    · obtain ⟨a, ha⟩ := get_at' (l := l) (k := k) (by rw [← Hn.out]; exact hlt)
      obtain ⟨g, o, c, d, rfl, hg, ⟨c0, c1, c2, c3, c4, c5, c6, c7⟩, hky, hrep⟩ := (Hq.out.under Hinv.out.bel).at ha
      obtain ⟨adc, capc, rfl, _⟩ := hrep.parts.2.1.form
      obtain ⟨add, capd, rfl, _⟩ := hrep.parts.2.2.form
      have hk0 : (0 : Int) ≤ (k : Int) := by omega
      have hkn : (k : Int) < (n : Int) := by omega
      have hlen : es.length * 112 ≤ 140737488353100 := by
        have h1 : es.length = (es.map kv).length := by simp
        rw [Hinv.out.eq, List.length_take] at h1
        have := H112.out
        omega
      obtain ⟨W, hW⟩ : ∃ W, W = wr.alloc (.cells (pv a.1 a.2 (.slice adc a.2.l.length capc) (.slice add a.2.p.length capd)) 51) := ⟨_, rfl⟩
      have hBW : Below wr.heap.size wr W := by rw [hW]; exact (Below.refl _ _).alloc (Nat.le_refl _) _
      have hA : At8 W wr.heap.size 0 a.1 a.2 (.slice adc a.2.l.length capc) (.slice add a.2.p.length capd) := At8.box (t := 51) (by rw [hW]; exact blk_new wr _)
      have HA := Lib.hid hA
      obtain ⟨z0, z1, z2, z3, z4, z5, z6, z7⟩ := hA
      simp only [Nat.zero_add] at z0 z1 z2 z3 z4 z5 z6 z7
      have Hcall := Lib.hid (Ih.out a (List.mem_of_getElem? ha))
      have Hrep := Lib.hid (hrep.under hBW)
      have Hrow := Lib.hid (Hinv.out.row.under hBW)
      have Hbase := Lib.hid (show w.heap.size ≤ W.heap.size from Nat.le_trans Hinv.out.bel.size hBW.size)
      have Hlt := Lib.hid (show wr.heap.size < W.heap.size by rw [hW]; simp)
      have HBW := Lib.hid hBW
      have HW := Lib.hid hW
      have Hlen := Lib.hid hlen
      have Hky := Lib.hid hky
      have Ha := Lib.hid ha
      clear hW hBW hlen hky ha hrep hg
      go_wp2
      rw [← HW.out]
      go_region_law (first | (refine step_app_p rfl (.tmp 12) (.tmp 19) rfl w.heap.size _ es (by rfl) (Hrow.out.under (below_drew hb1)) a.1 a.2 r1 r2 _ (by rfl) Hky.out (far_newP Hrow.out hr1 Hbase.out) _ (by rfl) (by rfl) Hlen.out (Nat.le_trans Hbase.out (below_drew hb1).size) ?_; intro v2 w2 hrow2 hgr2) | (go_simp; go_at_call 59; refine (Hcall.out _ _ _ (Hrep.out.under (Below.refl _ _).drew)).mono ?_; rintro e w1 ⟨r1, r2, rfl, hr1, hb1⟩; have s0 := (HA.out.keep ((below_drew hb1).block _ Hlt.out)).c0; have s0' := cell_alloc s0))
      all_goals
        have Hnext := Lib.hid (pinv_next Hinv.out HBW.out (below_drew hb1) hrow2 hgr2 Ha.out)
        clear hrow2 hgr2 hb1 hr1
        go_wp2
        go_roundw
        case rel => exact ⟨k + 1, _, by go_num, by omega, Hnext.out⟩
        case measure => simp [intOf]; omega
    · have he := Hinv.out.eq
      rw [List.take_of_length_le (by have := Hn.out; omega)] at he
      have He := Lib.hid he
      clear he
      go_wp2
      go_ret
      exact ⟨_, es, rfl, Hinv.out.row, He.out, Hinv.out.bel⟩

theorem rcopy_sized : ∀ (n : Nat) (x : V), SizeOf.sizeOf x ≤ n → CopyC 59 x := by
  intro n
  induction n with
  | zero => intro x hx; cases x; simp only [V.mk.sizeOf_spec] at hx; omega
  | succ n ih =>
    intro x hx
    exact rcopy_main x (fun a ha => ih a (by have := V.size_l ha; omega)) (rcopyPairs_of _ fun e he => ih e.2 (by have := V.size_p he; omega))
theorem rcopy_any (x : V) : CopyC 59 x := rcopy_sized _ x (Nat.le_refl _)
theorem rcopyPairs_any (l : List (ByteArray × V)) : CopyPC 24 l := rcopyPairs_of l fun e _ => rcopy_any e.2
end Go.Proofs.YtnnnnlcpmocnfaaDoor
