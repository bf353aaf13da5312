/- THE WALKS OVER copied, copiedPair, copiedPairs, the program's. -/
import Derived.Test.YtnnnnlcpmocnfaaDoorCp2
import Derived.Deep.RegionHeld3
import Derived.Deep.RegionLaw
import Derived.StillTailTactics
import Derived.WalkLawsBesides
import Derived.Outline
namespace Go.Proofs.YtnnnnlcpmocnfaaDoor
open Go.RowKit
set_option linter.unusedVariables false
set_option linter.unusedSimpArgs false
attribute [local go_sem] run_store_float


/-- where copiedPairs stands behind k rounds -/
structure PInv (l : List (ByteArray × V)) (w : World) (k : Nat) (v : Value) (es : List (ByteArray × V × Value × Value)) (wr : World) : Prop where
  row : PRow wr w.heap.size v es
  eq : es.map kv = l.take k
  bel : Below w.heap.size w wr
theorem pinv_next {l : List (ByteArray × V)} {w wr W w1 w2 : World} {k : Nat} {v v2 r1 r2 : Value} {es : List (ByteArray × V × Value × Value)} {a : ByteArray × V} (h : PInv l w k v es wr) (hW : Below wr.heap.size wr W) (hb1 : Below W.heap.size W w1)
    (hrow2 : PRow w2 w.heap.size v2 (es ++ [(a.1, a.2, r1, r2)])) (hg : Grew w1 v w2 v2) (ha : l[k]? = some a) : PInv l w (k + 1) v2 (es ++ [(a.1, a.2, r1, r2)]) w2 := by
  refine ⟨hrow2, ?_, ?_⟩
  · rw [List.map_append, h.eq, take_get ha]; rfl
  · have hb := (h.bel.trans (hW.mono h.bel.size))
    exact (hb.trans (hb1.mono hb.size)).trans (hg.below (by have := hb.size; have := hb1.size; omega) fun k hk => (h.row.lt k hk).1)
theorem far_newP' {W w0 w1 : World} {base : Nat} {v : Value} {es : List (ByteArray × V × Value × Value)} {r1 r2 : Value} {a : V} (hrow : PRow W base v es) (hr : Rep (New W.heap.size w1) w1 r1 r2 a) (hb : base ≤ W.heap.size) : Rep (Far w1 base v.ownBlock) w1 r1 r2 a :=
  hr.keep (Kept.of_below (Below.refl _ _) _) fun g hg _ => ⟨Nat.le_trans hb hg.1, (fun e => by have := (hrow.lt g e).2; have := hg.1; omega), hg.2⟩

set_option maxRecDepth 100000 in
set_option maxHeartbeats 8000000 in
theorem copiedPairs_of (l : List (ByteArray × V)) (ih : ∀ e, e ∈ l → CopyC 60 e.2) : CopyPC 61 l := by
  intro w q hq hl112
  obtain ⟨ad, cap, rfl, hl⟩ := hq.form
  obtain ⟨n, hn⟩ : ∃ n, n = l.length := ⟨_, rfl⟩
  rw [← hn] at hq hl hl112 ⊢
  have Hn := Lib.hid hn
  have Hq := Lib.hid hq
  have H112 := Lib.hid hl112
  have Ih := Lib.hid ih
  clear hn hq hl112 ih
  go_enter Tryd.func61, Tryd.ntmps61
  go_wp2
  go_loopw [3, 8] (fun v i wr => ∃ (k : Nat) (es : List (ByteArray × V × Value × Value)), i = .int .i64 (k : Int) ∧ k ≤ n ∧ Go.RowKit.Hid (PInv l w k v es wr)) (fun _ i _ => n - (intOf i).toNat)
  case atStart => exact ⟨0, [], rfl, by omega, ⟨PRow.nil _ _, by simp, Below.refl _ _⟩⟩
  case round =>
    obtain ⟨k, es, rfl, hk, hinv⟩ := hrel
    have Hinv := Lib.hid hinv.out
    clear hinv
    by_cases hlt : k < n
    · obtain ⟨a, ha⟩ := get_at' (l := l) (k := k) (by rw [← Hn.out]; exact hlt)
      obtain ⟨g, o, c, d, rfl, hg, ⟨c0, c1, c2, c3, c4, c5, c6, c7⟩, hky, hrep⟩ := (Hq.out.under Hinv.out.bel).at ha
      obtain ⟨adc, capc, rfl, _⟩ := hrep.parts.2.1.form
      obtain ⟨add, capd, rfl, _⟩ := hrep.parts.2.2.form
      have hk0 : (0 : Int) ≤ (k : Int) := by omega
      have hkn : (k : Int) < (n : Int) := by omega
      have hlen : es.length * 112 ≤ 140737488353100 := by
        have h1 : es.length = (es.map kv).length := by simp
        rw [Hinv.out.eq, List.length_take] at h1
        have := H112.out
        omega
      obtain ⟨W, hW⟩ : ∃ W, W = wr.alloc (.cells (pv a.1 a.2 (.slice adc a.2.l.length capc) (.slice add a.2.p.length capd)) 51) := ⟨_, rfl⟩
      have hBW : Below wr.heap.size wr W := by rw [hW]; exact (Below.refl _ _).alloc (Nat.le_refl _) _
      have hA : At8 W wr.heap.size 0 a.1 a.2 (.slice adc a.2.l.length capc) (.slice add a.2.p.length capd) := At8.box (t := 51) (by rw [hW]; exact blk_new wr _)
      have HA := Lib.hid hA
      obtain ⟨z0, z1, z2, z3, z4, z5, z6, z7⟩ := hA
      simp only [Nat.zero_add] at z0 z1 z2 z3 z4 z5 z6 z7
      have Hcall := Lib.hid (Ih.out a (List.mem_of_getElem? ha))
      have Hrep := Lib.hid (hrep.under hBW)
      have Hrow := Lib.hid (Hinv.out.row.under hBW)
      have Hbase := Lib.hid (show w.heap.size ≤ W.heap.size from Nat.le_trans Hinv.out.bel.size hBW.size)
      have Hlt := Lib.hid (show wr.heap.size < W.heap.size by rw [hW]; simp)
      have HBW := Lib.hid hBW
      have HW := Lib.hid hW
      have Hlen := Lib.hid hlen
      have Hky := Lib.hid hky
      have Ha := Lib.hid ha
      clear hW hBW hlen hky ha hrep hg
      go_wp2_with fail
      rw [← HW.out]
      refine (copied1_of _ _ Hcall.out _ _ _ Hrep.out).mono ?_
      rintro e w1 ⟨r1, r2, rfl, hr1, hb1⟩
      obtain ⟨u1, v1, hu1, _⟩ := hr1.parts.2.1.form
      obtain ⟨u2, v2, hu2, _⟩ := hr1.parts.2.2.form
      have Hb1 := Lib.hid hb1
      have Hr1 := Lib.hid hr1
      clear hb1 hr1 hu1 hu2
      go_wp2_with (at_builtin; refine wp_app_p rfl _ _ rfl w.heap.size _ es rfl (Hrow.out.under Hb1.out) a.1 a.2 r1 r2 _ rfl Hky.out (far_newP' (w0 := W) Hrow.out Hr1.out Hbase.out) _ rfl (by simp) Hlen.out (Nat.le_trans Hbase.out Hb1.out.size) ?_)
      intro v2 w2 hrow2 hgr2
      have Hnext := Lib.hid (pinv_next Hinv.out HBW.out Hb1.out hrow2 hgr2 Ha.out)
      clear hrow2 hgr2
      go_wp2
      go_roundw
      case rel => exact ⟨k + 1, _, by go_num, by omega, Hnext.out⟩
      case measure => simp [intOf]; omega
    · have he := Hinv.out.eq
      rw [List.take_of_length_le (by have := Hn.out; omega)] at he
      have He := Lib.hid he
      clear he
      go_wp2
      go_ret
      exact ⟨_, es, rfl, Hinv.out.row, He.out, Hinv.out.bel⟩

theorem copied_sized : ∀ (n : Nat) (x : V), SizeOf.sizeOf x ≤ n → CopyC 60 x := by
  intro n
  induction n with
  | zero => intro x hx; cases x; simp only [V.mk.sizeOf_spec] at hx; omega
  | succ n ih =>
    intro x hx
    exact copied_main x (fun a ha => ih a (by have := V.size_l ha; omega)) (copiedPairs_of _ fun e he => ih e.2 (by have := V.size_p he; omega))
theorem copied_any (x : V) : CopyC 60 x := copied_sized _ x (Nat.le_refl _)
theorem copiedPairs_any (l : List (ByteArray × V)) : CopyPC 61 l := copiedPairs_of l fun e _ => copied_any e.2
theorem copied1_any (key : ByteArray) (x : V) (w : World) (q1 q2 : Value) (hx : Rep Any w q1 q2 x) : Calls Tryd.prog 62 #[.agg (pv key x q1 q2)] w (Copied1 key x w) := copied1_of key x (copied_any x) w q1 q2 hx
end Go.Proofs.YtnnnnlcpmocnfaaDoor
