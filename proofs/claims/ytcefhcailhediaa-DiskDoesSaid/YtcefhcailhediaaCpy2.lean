/- THE WALK OVER the document's Copy. -/
import Derived.Test.YtcefhcailhediaaSam
import Derived.Test.YtcefhcailhediaaPut2
namespace Go.Proofs.Ytcefhcailhediaa
open Go.RowKit
set_option linter.unusedVariables false
set_option linter.unusedSimpArgs false

set_option maxHeartbeats 2000000 in
theorem copyW_some (w : World) (a : Addr) (n cap : Nat) (down : Bool) (fuse fault : Int) (fs : List F) (hn : n = fs.length) (hf : Fls w w.heap.size (some a) fs) (h64 : n * 40 ≤ 140737488355328) :
    Calls Try.prog 9 #[.agg (dcells (.slice (some a) n cap) down fuse fault)] w fun e w' => ∃ ad2 cap2, e = .returned (.agg (dcells (.slice ad2 n cap2) down fuse fault)) ∧ Inp w' w'.heap.size ad2 n cap2 fs ∧ Below w.heap.size w w' ∧ ∀ b, (Value.slice ad2 n cap2).ownBlock = some b → w.heap.size ≤ b := by
  obtain ⟨i0, hi, hz0, hz1, hz2⟩ := info_parts Try.info46
  have hb0 : Below w.heap.size w ((w.alloc (.cells (dcells (.slice (some a) n cap) down fuse fault) 24)).alloc (.cells #[.slice none 0 0, .bool false, .int .i64 0, .int .i64 0] 24)) := ((Below.refl _ w).alloc (Nat.le_refl _) _).alloc (by simp) _
  have hx : Dk ((w.alloc (.cells (dcells (.slice (some a) n cap) down fuse fault) 24)).alloc (.cells #[.slice none 0 0, .bool false, .int .i64 0, .int .i64 0] 24)) w.heap.size 24 (.slice (some a) n cap) down fuse fault := blk_alloc (blk_new w _) _
  have hy : ((w.alloc (.cells (dcells (.slice (some a) n cap) down fuse fault) 24)).alloc (.cells #[.slice none 0 0, .bool false, .int .i64 0, .int .i64 0] 24)).heap[w.heap.size + 1]? = some (.cells #[.slice none 0 0, .bool false, .int .i64 0, .int .i64 0] 24) := by
    have := blk_new (w.alloc (.cells (dcells (.slice (some a) n cap) down fuse fault) 24)) (.cells #[.slice none 0 0, .bool false, .int .i64 0, .int .i64 0] 24)
    simpa using this
  have Hx := Lib.hid hx
  have Hy := Lib.hid hy
  have Hnews := Lib.hid (src_cells hf (hb0.alloc (by simp; omega) (.cells #[] 46)))
  have Hb0 := Lib.hid hb0
  have hl : (fs.flatMap fc).length = n * 3 := by rw [hn]; exact fc_len fs
  have Hl := Lib.hid hl
  have Hn := Lib.hid hn
  have hs2 : ((w.alloc (.cells (dcells (.slice (some a) n cap) down fuse fault) 24)).alloc (.cells #[.slice none 0 0, .bool false, .int .i64 0, .int .i64 0] 24)).heap.size = w.heap.size + 2 := by simp
  have hown := World.ownsRow_lit (base := w.heap.size + 2) (e := 46) (size := 3) ((w.alloc (.cells (dcells (.slice (some a) n cap) down fuse fault) 24)).alloc (.cells #[.slice none 0 0, .bool false, .int .i64 0, .int .i64 0] 24)) #[] 0 (by simp) (by simp [maxLen]) rfl
  have hbW := (Below.refl ((w.alloc (.cells (dcells (.slice (some a) n cap) down fuse fault) 24)).alloc (.cells #[.slice none 0 0, .bool false, .int .i64 0, .int .i64 0] 24)).heap.size ((w.alloc (.cells (dcells (.slice (some a) n cap) down fuse fault) 24)).alloc (.cells #[.slice none 0 0, .bool false, .int .i64 0, .int .i64 0] 24))).alloc (Nat.le_refl _) (.cells #[] 46)
  have HbW := Lib.hid hbW
  rw [hs2] at hown
  have Hown := Lib.hid hown
  clear hn hb0 hl hown hs2 hbW hf hx hy
  go_enter Try.func9, Try.ntmps9
  go_wp2_with (at_builtin; refine wpList_append_own_at _ rfl _ _ 22 rfl (w.heap.size + 2) 46 i0 _ 3 40 Try.underlying22 hi hz0 hz1 hz2 rfl (by decide) (.slice (some ⟨w.heap.size + 2, 0, none⟩) 0 0) 0 _ rfl Hown.out a n cap (fs.flatMap fc) rfl Hl.out Hnews.out (fc_one fs) (by simp [maxLen]; omega) (by omega) (by simp) ?_)
  intro v' w' h1 h2 _ _
  have hbB := HbW.out.grown h2 (by simp) (fun k hk => by simp [Value.ownBlock] at hk; simp; omega)
  have hr : FRow w' (w.heap.size + 2) v' fs := by have := h1; rw [Hn.out] at this; exact this
  have hD : Dk w' w.heap.size 24 (.slice (some a) n cap) down fuse fault := Dk.keep Hx.out hbB (by simp; omega)
  have hY := (hbB.block _ (Array.getElem?_eq_some_iff.1 Hy.out).1).trans Hy.out
  have hb := Hb0.out.trans (hbB.mono (by simp; omega))
  obtain ⟨ad1, cap1, rfl, hc1, hc2, hf1⟩ := hr.fls
  have hE : Dk w' (w.heap.size + 1) 24 (.slice none 0 0) false 0 0 := by simpa [Dk] using hY
  obtain ⟨⟨d0, d1, d2, d3⟩, f0, f1, f2, f3⟩ := hD.facts
  obtain ⟨⟨e0, e1, e2, e3⟩, g0, g1, g2, g3⟩ := hE.facts
  have hneX : (Value.slice ad1 fs.length cap1).ownBlock ≠ some w.heap.size := fun e => by have := (hr.lt _ e).1; omega
  have hneY : (Value.slice ad1 fs.length cap1).ownBlock ≠ some (w.heap.size + 1) := fun e => by have := (hr.lt _ e).1; omega
  have hI : Inp w' w'.heap.size ad1 fs.length cap1 fs := ⟨rfl, hc1, hc2, hf1⟩
  have HI := Lib.hid (Inp.set (o := 3) (u := .int .i64 fault) (Inp.set (o := 2) (u := .int .i64 fuse) (Inp.set (o := 1) (u := .bool down) (Inp.set (o := 0) (u := .slice ad1 fs.length cap1) (Inp.set (o := 0) (u := .slice ad1 fs.length cap1) hI hneX) hneY) hneY) hneY) hneY)
  have Hb := Lib.hid (below_put (hb.setCell (p := ⟨w.heap.size, 0, none⟩) (Nat.le_refl _) (.slice ad1 fs.length cap1)) (q := w.heap.size + 1) (by omega) (.slice ad1 fs.length cap1) (.bool down) (.int .i64 fuse) (.int .i64 fault))
  have hE2 : Dk (w'.setCell ⟨w.heap.size, 0, none⟩ (.slice ad1 fs.length cap1)) (w.heap.size + 1) 24 (.slice none 0 0) false 0 0 := (Below.heap_setCell w' ⟨w.heap.size, 0, none⟩ _ (w.heap.size + 1) (by simp)).trans hE
  have hF := (Var.put (down := down) (fuse := fuse) (fault := fault) hE2 (Inp.set (o := 0) (u := .slice ad1 fs.length cap1) hI hneX |>.mono (by simp [World.setCell])) hneY).d
  obtain ⟨⟨r0, r1, r2, r3⟩, _⟩ := hF.facts
  have Hown2 := Lib.hid (show ∀ b, (Value.slice ad1 fs.length cap1).ownBlock = some b → w.heap.size ≤ b from fun b e => by have := (hr.lt b e).1; omega)
  have hlt := hD.lt
  have hlt2 := hE.lt
  clear hE2 hF hr hD hE hY hb hbB h1 h2 hI hneX hneY hf1 hc1 hc2 Hx Hy Hnews Hown HbW Hb0
  go_wp2
  refine bodyPost_ret (v := .agg (dcells (.slice ad1 fs.length cap1) down fuse fault)) (by simp [results, Try.results9, go_sem, r0, r1, r2, r3]) rfl ?_
  refine ⟨ad1, cap1, by rw [Hn.out], ?_, ?_, by rw [Hn.out]; exact Hown2.out⟩
  · rw [Hn.out]; exact HI.out.mono (by simp [World.setCell])
  · exact Hb.out
theorem copyW_none (w : World) (down : Bool) (fuse fault : Int) :
    Calls Try.prog 9 #[.agg (dcells (.slice none 0 0) down fuse fault)] w fun e w' => ∃ ad2 cap2, e = .returned (.agg (dcells (.slice ad2 0 cap2) down fuse fault)) ∧ Inp w' w'.heap.size ad2 0 cap2 [] ∧ Below w.heap.size w w' ∧ ∀ b, (Value.slice ad2 0 cap2).ownBlock = some b → w.heap.size ≤ b := by
  obtain ⟨i0, hi, hz0, hz1, hz2⟩ := info_parts Try.info46
  have hr2 := fun W ty => run_append_nothing (P := Try.prog) W 22 22 ty 46 i0 Try.underlying22 hi (some ⟨w.heap.size + 2, 0, none⟩) 0 0 (Nat.le_refl _) (.slice none 0 0) (by rw [hz1]; exact Src.ofNil W Try.underlying22 0)
  have H2 := Lib.hid hr2
  clear hr2
  go_enter Try.func9, Try.ntmps9
  go_wp2_with (at_builtin; refine op_app (.tmp 3) (.tmp 5) (.slice (some ⟨w.heap.size + 2, 0, none⟩) 0 0) (.slice none 0 0) (by kernel_rfl) (by kernel_rfl) rfl (H2.out _ _) ?_)
  go_wp2
  refine bodyPost_ret (v := .agg (dcells (.slice (some ⟨w.heap.size + 2, 0, none⟩) 0 0) down fuse fault)) (by simp [results, Try.results9, go_sem]) rfl ⟨_, _, rfl, ⟨rfl, Nat.le_refl _, (fun h => by cases h), Fls.nil _ _ _⟩, ?_, fun b e => by simp [Value.ownBlock] at e; omega⟩
  exact (((Below.refl _ w).alloc (Nat.le_refl _) _).alloc (by simp) _).alloc (by simp; omega) _
theorem copyW_any (w : World) (ad : Option Addr) (n cap : Nat) (down : Bool) (fuse fault : Int) (fs : List F) (hi : Inp w w.heap.size ad n cap fs) (h64 : n * 40 ≤ 140737488355328) :
    Calls Try.prog 9 #[.agg (dcells (.slice ad n cap) down fuse fault)] w fun e w' => ∃ ad2 cap2, e = .returned (.agg (dcells (.slice ad2 n cap2) down fuse fault)) ∧ Inp w' w'.heap.size ad2 n cap2 fs ∧ Below w.heap.size w w' ∧ ∀ b, (Value.slice ad2 n cap2).ownBlock = some b → w.heap.size ≤ b := by
  obtain ⟨hn, hc, hnil, hf⟩ := hi
  cases ad with
  | some a => exact copyW_some w a n cap down fuse fault fs hn hf h64
  | none =>
    have hc0 := hnil rfl
    subst hc0
    obtain rfl : n = 0 := by omega
    have hx : fs = [] := List.eq_nil_of_length_eq_zero hn.symm
    subst hx
    exact copyW_none w down fuse fault
end Go.Proofs.Ytcefhcailhediaa
