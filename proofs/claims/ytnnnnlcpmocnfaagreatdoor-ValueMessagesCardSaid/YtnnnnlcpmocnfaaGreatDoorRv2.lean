/- MESSAGES OF VALUES, READ: values without parts, WALKED. -/
import Derived.Test.YtnnnnlcpmocnfaaGreatDoorRv1
import Derived.Deep.Cut
import Derived.Outline
import Derived.WalkLawsBesides
import Derived.Deep.RegionLaw
import Derived.Deep.RegionHeld3
namespace Go.Proofs.YtnnnnlcpmocnfaaGreatDoor
open Go.RowKit
set_option linter.unusedVariables false
set_option linter.unusedSimpArgs false
attribute [local go_sem] run_store_float

theorem rep_nil {B : Nat} {w : World} {x : V} (hf : FitV x) (hl : x.l = []) (hp : x.p = []) : Rep (New B w) w (.slice none 0 0) (.slice none 0 0) x := Rep.of hf (by rw [hl]; exact RepL.nil _ _) (by rw [hp]; exact RepP.nil _ _)
theorem toldV_is {fs : List M.Fd} {f : M.Fd} {k a b c : Int} {l : List UInt8} (ht : toldOf fs = (k, f)) (hf : Fit f a b c l) : toldV fs = .tuple #[.int .u8 k, .agg (fcells a b c l)] := by
  unfold toldV
  rw [ht, ← fc_fit hf]
theorem set7 {w W : World} {g : Nat} (h : Below g w W) (a0 a1 a2 a3 a4 a5 a6 : Value) : Below g w (((((((W.setCell ⟨g, 0, none⟩ a0).setCell ⟨g, 1, none⟩ a1).setCell ⟨g, 2, none⟩ a2).setCell ⟨g, 3, none⟩ a3).setCell ⟨g, 4, none⟩ a4).setCell ⟨g, 5, none⟩ a5).setCell ⟨g, 6, none⟩ a6) :=
  ((((((h.setCell (Nat.le_refl _) _).setCell (Nat.le_refl _) _).setCell (Nat.le_refl _) _).setCell (Nat.le_refl _) _).setCell (Nat.le_refl _) _).setCell (Nat.le_refl _) _).setCell (Nat.le_refl _) _

theorem box7v {w : World} {g : Nat} {a0 a1 a2 a3 a4 a5 a6 : Value} {t : TypeId} (h : w.heap[g]? = some (.cells #[a0, a1, a2, a3, a4, a5, a6] t (0, 0))) :
    w.cell? ⟨g, 0, none⟩ = some a0 ∧ w.cell? ⟨g, 1, none⟩ = some a1 ∧ w.cell? ⟨g, 2, none⟩ = some a2 ∧ w.cell? ⟨g, 3, none⟩ = some a3 ∧ w.cell? ⟨g, 4, none⟩ = some a4 ∧ w.cell? ⟨g, 5, none⟩ = some a5 ∧ w.cell? ⟨g, 6, none⟩ = some a6 :=
  ⟨cell_of_row w g 0 _ t (0, 0) h, cell_of_row w g 1 _ t (0, 0) h, cell_of_row w g 2 _ t (0, 0) h, cell_of_row w g 3 _ t (0, 0) h, cell_of_row w g 4 _ t (0, 0) h, cell_of_row w g 5 _ t (0, 0) h, cell_of_row w g 6 _ t (0, 0) h⟩

theorem fit_leaf (k : Int) (s : ByteArray) (b : Bool) (n : Int) (f : Nat) (hk : 0 ≤ k ∧ k ≤ 7) (hs : s.size ≤ 140737488353000) (hn : -9223372036854775808 ≤ n ∧ n ≤ 9223372036854775807) (hf : f < 18446744073709551616) : FitV (.mk k s b n f [] []) :=
  ⟨hk.1, by have := hk.2; show k ≤ 255; omega, hs, by show ([] : List V).length * 96 ≤ _; simp, by show ([] : List (ByteArray × V)).length * 112 ≤ _; simp, hn.1, hn.2, hf⟩
theorem box_s {w : World} {g : Nat} {a0 a1 a2 a3 a4 a5 a6 : Value} {t : TypeId} (h : w.heap[g]? = some (.cells #[a0, a1, a2, a3, a4, a5, a6] t (0, 0))) (u : Value) : (w.setCell ⟨g, 1, none⟩ u).heap[g]? = some (.cells #[a0, u, a2, a3, a4, a5, a6] t (0, 0)) := by
  have hlt := lt_of_block h
  have h' : w.heap[g] = .cells #[a0, a1, a2, a3, a4, a5, a6] t (0, 0) := by simpa [Array.getElem?_eq_getElem hlt] using h
  show (w.heap.modify g _)[g]? = _
  rw [Array.getElem?_eq_getElem (by simpa using hlt), Array.getElem_modify_self, h']
  rfl

set_option maxRecDepth 100000 in
set_option maxHeartbeats 1000000 in
theorem rd_two (s : List UInt8) (fs : List M.Fd) (f : M.Fd) (a b c : Int) (l : List UInt8) (hr : M.read s = .ok fs) (ht : toldOf fs = (2, f)) (hf : Fit f a b c l) (d : Int)  (w : World) (hs : s.length ≤ 9223372036854775807) :
    Calls Tryz.prog 23 #[.string ⟨s.toArray⟩, .int .i64 d] w (Copied (.mk 2 ⟨#[]⟩ (c != 0) 0 0 [] []) w) := by
  have HTV := Lib.hid (toldV_is ht hf)
  have Hf := Lib.hid hf
  have Hr := Lib.hid hr
  obtain ⟨Wa, hWa⟩ : ∃ Wa, Wa = w.alloc (.cells #[.int .u8 0, .string ⟨#[]⟩, .bool false, .int .i64 0, .float .f64 0, .slice none 0 0, .slice none 0 0] 27) := ⟨_, rfl⟩
  have hba : Below w.heap.size w Wa := by rw [hWa]; exact al w _
  have hra : Wa.heap[w.heap.size]? = some (.cells #[.int .u8 0, .string ⟨#[]⟩, .bool false, .int .i64 0, .float .f64 0, .slice none 0 0, .slice none 0 0] 27 (0, 0)) := by rw [hWa]; exact blk_new w _
  have HFields := Lib.hid (fields_all s Wa hs)
  have HWa := Lib.hid hWa
  have Hba := Lib.hid hba
  have Hra := Lib.hid hra
  clear hr ht hf hWa hba hra hs 
  go_enter Tryz.func23, Tryz.ntmps23
  go_wp2_with fail
  rw [← HWa.out]
  refine (HFields.out).mono ?_
  intro e w1 h
  unfold FieldsP at h
  rw [Hr.out] at h
  obtain ⟨ad, cap, rfl, hfl, _, hb1⟩ := h
  have HTold := Lib.hid (told_any w1 ad fs.length cap fs rfl hfl)
  have Hb1 := Lib.hid (Hba.out.trans (hb1.mono Hba.out.size))
  have Hr1 := Lib.hid ((hb1.block _ (lt_of_block Hra.out)).trans Hra.out)
  clear hfl hb1
  go_wp2_with fail
  refine (HTold.out).mono ?_
  rintro e w2 ⟨rfl, hb2⟩
  rw [HTV.out]
  have Hb2 := Lib.hid (Hb1.out.trans (hb2.mono Hb1.out.size))
  have Hr2 := Lib.hid ((hb2.block _ (lt_of_block Hr1.out)).trans Hr1.out)
  clear hb2
  go_upto_region 24 with (fail)
  obtain ⟨W3, hW3⟩ : ∃ W3, W3 = ((w2).alloc (.cells (fcells a b c l) 73)).alloc (.cells #[.int .u8 2, .string ⟨#[]⟩, .bool (c != 0), .int .i64 0, .float .f64 0, .slice none 0 0, .slice none 0 0] 27) := ⟨_, rfl⟩
  rw [← hW3]
  have Hr3 := Lib.hid (show W3.heap[w.heap.size]? = some (.cells #[.int .u8 0, .string ⟨#[]⟩, .bool false, .int .i64 0, .float .f64 0, .slice none 0 0, .slice none 0 0] 27 (0, 0)) by rw [hW3]; exact blk_alloc (blk_alloc Hr2.out _) _)
  have Hb3 := Lib.hid (show Below w.heap.size w W3 by rw [hW3]; exact (Hb2.out.alloc Hb2.out.size _).alloc (by have := Hb2.out.size; simp; omega) _)
  have hv : W3.heap[w2.heap.size + 1]? = some (.cells #[.int .u8 2, .string ⟨#[]⟩, .bool (c != 0), .int .i64 0, .float .f64 0, .slice none 0 0, .slice none 0 0] 27 (0, 0)) := by rw [hW3]; exact blk_at (by simp)
  obtain ⟨k0, k1, k2, k3, k4, k5, k6⟩ := box7v hv
  obtain ⟨⟨h0, h1, h2, h3, h4, h5, h6⟩, g0, g1, g2, g3, g4, g5, g6⟩ := zero_box Hr3.out
  clear hW3 hv
  go_wp2
  refine bodyPost_ret (v := .agg (gv 2 ⟨#[]⟩ (c != 0) 0 0 (.slice none 0 0) (.slice none 0 0))) (by simp [results, Tryz.results23, go_sem, h0, h1, h2, h3, h4, h5, h6]) rfl ?_
  exact ⟨.slice none 0 0, .slice none 0 0, rfl, rep_nil (fit_leaf _ _ _ _ _ (by omega) (by show (0 : Nat) ≤ _; omega) (by omega) (by omega)) rfl rfl, set7 Hb3.out _ _ _ _ _ _ _⟩

set_option maxRecDepth 100000 in
set_option maxHeartbeats 1000000 in
theorem rd_three (s : List UInt8) (fs : List M.Fd) (f : M.Fd) (a b c : Int) (l : List UInt8) (hr : M.read s = .ok fs) (ht : toldOf fs = (3, f)) (hf : Fit f a b c l) (d : Int) (z : Int) (hz : IntKind.i64.wrap c = z) (hz1 : -9223372036854775808 ≤ z ∧ z ≤ 9223372036854775807) (w : World) (hs : s.length ≤ 9223372036854775807) :
    Calls Tryz.prog 23 #[.string ⟨s.toArray⟩, .int .i64 d] w (Copied (.mk 3 ⟨#[]⟩ false z 0 [] []) w) := by
  have HTV := Lib.hid (toldV_is ht hf)
  have Hf := Lib.hid hf
  have Hr := Lib.hid hr
  obtain ⟨Wa, hWa⟩ : ∃ Wa, Wa = w.alloc (.cells #[.int .u8 0, .string ⟨#[]⟩, .bool false, .int .i64 0, .float .f64 0, .slice none 0 0, .slice none 0 0] 27) := ⟨_, rfl⟩
  have hba : Below w.heap.size w Wa := by rw [hWa]; exact al w _
  have hra : Wa.heap[w.heap.size]? = some (.cells #[.int .u8 0, .string ⟨#[]⟩, .bool false, .int .i64 0, .float .f64 0, .slice none 0 0, .slice none 0 0] 27 (0, 0)) := by rw [hWa]; exact blk_new w _
  have HFields := Lib.hid (fields_all s Wa hs)
  have HWa := Lib.hid hWa
  have Hba := Lib.hid hba
  have Hra := Lib.hid hra
  clear hr ht hf hWa hba hra hs 
  go_enter Tryz.func23, Tryz.ntmps23
  go_wp2_with fail
  rw [← HWa.out]
  refine (HFields.out).mono ?_
  intro e w1 h
  unfold FieldsP at h
  rw [Hr.out] at h
  obtain ⟨ad, cap, rfl, hfl, _, hb1⟩ := h
  have HTold := Lib.hid (told_any w1 ad fs.length cap fs rfl hfl)
  have Hb1 := Lib.hid (Hba.out.trans (hb1.mono Hba.out.size))
  have Hr1 := Lib.hid ((hb1.block _ (lt_of_block Hra.out)).trans Hra.out)
  clear hfl hb1
  go_wp2_with fail
  refine (HTold.out).mono ?_
  rintro e w2 ⟨rfl, hb2⟩
  rw [HTV.out]
  have Hb2 := Lib.hid (Hb1.out.trans (hb2.mono Hb1.out.size))
  have Hr2 := Lib.hid ((hb2.block _ (lt_of_block Hr1.out)).trans Hr1.out)
  clear hb2
  go_upto_region 24 with (fail)
  obtain ⟨W3, hW3⟩ : ∃ W3, W3 = ((w2).alloc (.cells (fcells a b c l) 73)).alloc (.cells #[.int .u8 3, .string ⟨#[]⟩, .bool false, .int .i64 z, .float .f64 0, .slice none 0 0, .slice none 0 0] 27) := ⟨_, rfl⟩
  rw [← hW3]
  have Hr3 := Lib.hid (show W3.heap[w.heap.size]? = some (.cells #[.int .u8 0, .string ⟨#[]⟩, .bool false, .int .i64 0, .float .f64 0, .slice none 0 0, .slice none 0 0] 27 (0, 0)) by rw [hW3]; exact blk_alloc (blk_alloc Hr2.out _) _)
  have Hb3 := Lib.hid (show Below w.heap.size w W3 by rw [hW3]; exact (Hb2.out.alloc Hb2.out.size _).alloc (by have := Hb2.out.size; simp; omega) _)
  have hv : W3.heap[w2.heap.size + 1]? = some (.cells #[.int .u8 3, .string ⟨#[]⟩, .bool false, .int .i64 z, .float .f64 0, .slice none 0 0, .slice none 0 0] 27 (0, 0)) := by rw [hW3]; exact blk_at (by simp)
  obtain ⟨k0, k1, k2, k3, k4, k5, k6⟩ := box7v hv
  obtain ⟨⟨h0, h1, h2, h3, h4, h5, h6⟩, g0, g1, g2, g3, g4, g5, g6⟩ := zero_box Hr3.out
  clear hW3 hv
  go_wp2
  refine bodyPost_ret (v := .agg (gv 3 ⟨#[]⟩ false z 0 (.slice none 0 0) (.slice none 0 0))) (by simp [results, Tryz.results23, go_sem, h0, h1, h2, h3, h4, h5, h6]) rfl ?_
  exact ⟨.slice none 0 0, .slice none 0 0, rfl, rep_nil (fit_leaf _ _ _ _ _ (by omega) (by show (0 : Nat) ≤ _; omega) hz1 (by omega)) rfl rfl, set7 Hb3.out _ _ _ _ _ _ _⟩

set_option maxRecDepth 100000 in
set_option maxHeartbeats 1000000 in
theorem rd_four (s : List UInt8) (fs : List M.Fd) (f : M.Fd) (a b c : Int) (l : List UInt8) (hr : M.read s = .ok fs) (ht : toldOf fs = (4, f)) (hf : Fit f a b c l) (d : Int)  (w : World) (hs : s.length ≤ 9223372036854775807) :
    Calls Tryz.prog 23 #[.string ⟨s.toArray⟩, .int .i64 d] w (Copied (.mk 4 ⟨#[]⟩ false 0 c.toNat [] []) w) := by
  have HTV := Lib.hid (toldV_is ht hf)
  have Hf := Lib.hid hf
  have Hr := Lib.hid hr
  obtain ⟨Wa, hWa⟩ : ∃ Wa, Wa = w.alloc (.cells #[.int .u8 0, .string ⟨#[]⟩, .bool false, .int .i64 0, .float .f64 0, .slice none 0 0, .slice none 0 0] 27) := ⟨_, rfl⟩
  have hba : Below w.heap.size w Wa := by rw [hWa]; exact al w _
  have hra : Wa.heap[w.heap.size]? = some (.cells #[.int .u8 0, .string ⟨#[]⟩, .bool false, .int .i64 0, .float .f64 0, .slice none 0 0, .slice none 0 0] 27 (0, 0)) := by rw [hWa]; exact blk_new w _
  have HFields := Lib.hid (fields_all s Wa hs)
  have HWa := Lib.hid hWa
  have Hba := Lib.hid hba
  have Hra := Lib.hid hra
  clear hr ht hf hWa hba hra hs 
  go_enter Tryz.func23, Tryz.ntmps23
  go_wp2_with fail
  rw [← HWa.out]
  refine (HFields.out).mono ?_
  intro e w1 h
  unfold FieldsP at h
  rw [Hr.out] at h
  obtain ⟨ad, cap, rfl, hfl, _, hb1⟩ := h
  have HTold := Lib.hid (told_any w1 ad fs.length cap fs rfl hfl)
  have Hb1 := Lib.hid (Hba.out.trans (hb1.mono Hba.out.size))
  have Hr1 := Lib.hid ((hb1.block _ (lt_of_block Hra.out)).trans Hra.out)
  clear hfl hb1
  go_wp2_with fail
  refine (HTold.out).mono ?_
  rintro e w2 ⟨rfl, hb2⟩
  rw [HTV.out]
  have Hb2 := Lib.hid (Hb1.out.trans (hb2.mono Hb1.out.size))
  have Hr2 := Lib.hid ((hb2.block _ (lt_of_block Hr1.out)).trans Hr1.out)
  clear hb2
  have h38 := Tryz.from60
  go_upto_region 24 with (fail)
  obtain ⟨W3, hW3⟩ : ∃ W3, W3 = ((w2).alloc (.cells (fcells a b c l) 73)).alloc (.cells #[.int .u8 4, .string ⟨#[]⟩, .bool false, .int .i64 0, .float .f64 c.toNat, .slice none 0 0, .slice none 0 0] 27) := ⟨_, rfl⟩
  rw [← hW3]
  have Hr3 := Lib.hid (show W3.heap[w.heap.size]? = some (.cells #[.int .u8 0, .string ⟨#[]⟩, .bool false, .int .i64 0, .float .f64 0, .slice none 0 0, .slice none 0 0] 27 (0, 0)) by rw [hW3]; exact blk_alloc (blk_alloc Hr2.out _) _)
  have Hb3 := Lib.hid (show Below w.heap.size w W3 by rw [hW3]; exact (Hb2.out.alloc Hb2.out.size _).alloc (by have := Hb2.out.size; simp; omega) _)
  have hv : W3.heap[w2.heap.size + 1]? = some (.cells #[.int .u8 4, .string ⟨#[]⟩, .bool false, .int .i64 0, .float .f64 c.toNat, .slice none 0 0, .slice none 0 0] 27 (0, 0)) := by rw [hW3]; exact blk_at (by simp)
  obtain ⟨k0, k1, k2, k3, k4, k5, k6⟩ := box7v hv
  obtain ⟨⟨h0, h1, h2, h3, h4, h5, h6⟩, g0, g1, g2, g3, g4, g5, g6⟩ := zero_box Hr3.out
  clear hW3 hv
  go_wp2
  refine bodyPost_ret (v := .agg (gv 4 ⟨#[]⟩ false 0 c.toNat (.slice none 0 0) (.slice none 0 0))) (by simp [results, Tryz.results23, go_sem, h0, h1, h2, h3, h4, h5, h6]) rfl ?_
  exact ⟨.slice none 0 0, .slice none 0 0, rfl, rep_nil (fit_leaf _ _ _ _ _ (by omega) (by show (0 : Nat) ≤ _; omega) (by omega) (by have := Hf.out.c0; have := Hf.out.c1; omega)) rfl rfl, set7 Hb3.out _ _ _ _ _ _ _⟩

set_option maxRecDepth 100000 in
set_option maxHeartbeats 1000000 in
theorem rd_none (s : List UInt8) (fs : List M.Fd) (f : M.Fd) (a b c : Int) (l : List UInt8) (hr : M.read s = .ok fs) (ht : toldOf fs = (0, f)) (hf : Fit f a b c l) (d : Int)  (w : World) (hs : s.length ≤ 9223372036854775807) :
    Calls Tryz.prog 23 #[.string ⟨s.toArray⟩, .int .i64 d] w (Copied (.mk 0 ⟨#[]⟩ false 0 0 [] []) w) := by
  have HTV := Lib.hid (toldV_is ht hf)
  have Hf := Lib.hid hf
  have Hr := Lib.hid hr
  obtain ⟨Wa, hWa⟩ : ∃ Wa, Wa = w.alloc (.cells #[.int .u8 0, .string ⟨#[]⟩, .bool false, .int .i64 0, .float .f64 0, .slice none 0 0, .slice none 0 0] 27) := ⟨_, rfl⟩
  have hba : Below w.heap.size w Wa := by rw [hWa]; exact al w _
  have hra : Wa.heap[w.heap.size]? = some (.cells #[.int .u8 0, .string ⟨#[]⟩, .bool false, .int .i64 0, .float .f64 0, .slice none 0 0, .slice none 0 0] 27 (0, 0)) := by rw [hWa]; exact blk_new w _
  have HFields := Lib.hid (fields_all s Wa hs)
  have HWa := Lib.hid hWa
  have Hba := Lib.hid hba
  have Hra := Lib.hid hra
  clear hr ht hf hWa hba hra hs 
  go_enter Tryz.func23, Tryz.ntmps23
  go_wp2_with fail
  rw [← HWa.out]
  refine (HFields.out).mono ?_
  intro e w1 h
  unfold FieldsP at h
  rw [Hr.out] at h
  obtain ⟨ad, cap, rfl, hfl, _, hb1⟩ := h
  have HTold := Lib.hid (told_any w1 ad fs.length cap fs rfl hfl)
  have Hb1 := Lib.hid (Hba.out.trans (hb1.mono Hba.out.size))
  have Hr1 := Lib.hid ((hb1.block _ (lt_of_block Hra.out)).trans Hra.out)
  clear hfl hb1
  go_wp2_with fail
  refine (HTold.out).mono ?_
  rintro e w2 ⟨rfl, hb2⟩
  rw [HTV.out]
  have Hb2 := Lib.hid (Hb1.out.trans (hb2.mono Hb1.out.size))
  have Hr2 := Lib.hid ((hb2.block _ (lt_of_block Hr1.out)).trans Hr1.out)
  clear hb2
  go_upto_region 24 with (fail)
  obtain ⟨W3, hW3⟩ : ∃ W3, W3 = ((w2).alloc (.cells (fcells a b c l) 73)).alloc (.cells #[.int .u8 0, .string ⟨#[]⟩, .bool false, .int .i64 0, .float .f64 0, .slice none 0 0, .slice none 0 0] 27) := ⟨_, rfl⟩
  rw [← hW3]
  have Hr3 := Lib.hid (show W3.heap[w.heap.size]? = some (.cells #[.int .u8 0, .string ⟨#[]⟩, .bool false, .int .i64 0, .float .f64 0, .slice none 0 0, .slice none 0 0] 27 (0, 0)) by rw [hW3]; exact blk_alloc (blk_alloc Hr2.out _) _)
  have Hb3 := Lib.hid (show Below w.heap.size w W3 by rw [hW3]; exact (Hb2.out.alloc Hb2.out.size _).alloc (by have := Hb2.out.size; simp; omega) _)
  have hv : W3.heap[w2.heap.size + 1]? = some (.cells #[.int .u8 0, .string ⟨#[]⟩, .bool false, .int .i64 0, .float .f64 0, .slice none 0 0, .slice none 0 0] 27 (0, 0)) := by rw [hW3]; exact blk_at (by simp)
  obtain ⟨k0, k1, k2, k3, k4, k5, k6⟩ := box7v hv
  obtain ⟨⟨h0, h1, h2, h3, h4, h5, h6⟩, g0, g1, g2, g3, g4, g5, g6⟩ := zero_box Hr3.out
  clear hW3 hv
  go_wp2
  refine bodyPost_ret (v := .agg (gv 0 ⟨#[]⟩ false 0 0 (.slice none 0 0) (.slice none 0 0))) (by simp [results, Tryz.results23, go_sem, h0, h1, h2, h3, h4, h5, h6]) rfl ?_
  exact ⟨.slice none 0 0, .slice none 0 0, rfl, rep_nil (fit_leaf _ _ _ _ _ (by omega) (by show (0 : Nat) ≤ _; omega) (by omega) (by omega)) rfl rfl, set7 Hb3.out _ _ _ _ _ _ _⟩

set_option maxRecDepth 100000 in
set_option maxHeartbeats 1000000 in
theorem rd_seven (s : List UInt8) (fs : List M.Fd) (f : M.Fd) (a b c : Int) (l : List UInt8) (hr : M.read s = .ok fs) (ht : toldOf fs = (7, f)) (hf : Fit f a b c l) (d : Int) (hl : (l.length : Int) ≤ 4096) (w : World) (hs : s.length ≤ 9223372036854775807) :
    Calls Tryz.prog 23 #[.string ⟨s.toArray⟩, .int .i64 d] w (Copied (.mk 7 (BA l) false 0 0 [] []) w) := by
  have HTV := Lib.hid (toldV_is ht hf)
  have Hf := Lib.hid hf
  have Hr := Lib.hid hr
  obtain ⟨Wa, hWa⟩ : ∃ Wa, Wa = w.alloc (.cells #[.int .u8 0, .string ⟨#[]⟩, .bool false, .int .i64 0, .float .f64 0, .slice none 0 0, .slice none 0 0] 27) := ⟨_, rfl⟩
  have hba : Below w.heap.size w Wa := by rw [hWa]; exact al w _
  have hra : Wa.heap[w.heap.size]? = some (.cells #[.int .u8 0, .string ⟨#[]⟩, .bool false, .int .i64 0, .float .f64 0, .slice none 0 0, .slice none 0 0] 27 (0, 0)) := by rw [hWa]; exact blk_new w _
  have HFields := Lib.hid (fields_all s Wa hs)
  have HWa := Lib.hid hWa
  have Hba := Lib.hid hba
  have Hra := Lib.hid hra
  clear hr ht hf hWa hba hra hs 
  go_enter Tryz.func23, Tryz.ntmps23
  go_wp2_with fail
  rw [← HWa.out]
  refine (HFields.out).mono ?_
  intro e w1 h
  unfold FieldsP at h
  rw [Hr.out] at h
  obtain ⟨ad, cap, rfl, hfl, _, hb1⟩ := h
  have HTold := Lib.hid (told_any w1 ad fs.length cap fs rfl hfl)
  have Hb1 := Lib.hid (Hba.out.trans (hb1.mono Hba.out.size))
  have Hr1 := Lib.hid ((hb1.block _ (lt_of_block Hra.out)).trans Hra.out)
  clear hfl hb1
  go_wp2_with fail
  refine (HTold.out).mono ?_
  rintro e w2 ⟨rfl, hb2⟩
  rw [HTV.out]
  have Hb2 := Lib.hid (Hb1.out.trans (hb2.mono Hb1.out.size))
  have Hr2 := Lib.hid ((hb2.block _ (lt_of_block Hr1.out)).trans Hr1.out)
  clear hb2
  have hlong := fun W => long_ok (BA l) W (by show ((l.length : Nat) : Int) ≤ 4096; exact hl)
  have Hlong := Lib.hid hlong
  clear hlong
  go_upto_region 24 with (first | (go_at_call 44; refine (Hlong.out _).mono ?_; rintro e wl ⟨rfl, rfl⟩) | fail)
  obtain ⟨W3, hW3⟩ : ∃ W3, W3 = ((w2).alloc (.cells (fcells a b c l) 73)).alloc (.cells #[.int .u8 7, .string (BA l), .bool false, .int .i64 0, .float .f64 0, .slice none 0 0, .slice none 0 0] 27) := ⟨_, rfl⟩
  rw [← hW3]
  have Hr3 := Lib.hid (show W3.heap[w.heap.size]? = some (.cells #[.int .u8 0, .string ⟨#[]⟩, .bool false, .int .i64 0, .float .f64 0, .slice none 0 0, .slice none 0 0] 27 (0, 0)) by rw [hW3]; exact blk_alloc (blk_alloc Hr2.out _) _)
  have Hb3 := Lib.hid (show Below w.heap.size w W3 by rw [hW3]; exact (Hb2.out.alloc Hb2.out.size _).alloc (by have := Hb2.out.size; simp; omega) _)
  have hv : W3.heap[w2.heap.size + 1]? = some (.cells #[.int .u8 7, .string (BA l), .bool false, .int .i64 0, .float .f64 0, .slice none 0 0, .slice none 0 0] 27 (0, 0)) := by rw [hW3]; exact blk_at (by simp)
  obtain ⟨k0, k1, k2, k3, k4, k5, k6⟩ := box7v hv
  obtain ⟨⟨h0, h1, h2, h3, h4, h5, h6⟩, g0, g1, g2, g3, g4, g5, g6⟩ := zero_box Hr3.out
  clear hW3 hv
  go_wp2
  refine bodyPost_ret (v := .agg (gv 7 (BA l) false 0 0 (.slice none 0 0) (.slice none 0 0))) (by simp [results, Tryz.results23, go_sem, h0, h1, h2, h3, h4, h5, h6]) rfl ?_
  exact ⟨.slice none 0 0, .slice none 0 0, rfl, rep_nil (fit_leaf _ _ _ _ _ (by omega) (by show l.length ≤ _; omega) (by omega) (by omega)) rfl rfl, set7 Hb3.out _ _ _ _ _ _ _⟩

set_option maxRecDepth 100000 in
set_option maxHeartbeats 1000000 in
theorem rd_seven_no (s : List UInt8) (fs : List M.Fd) (f : M.Fd) (a b c : Int) (l : List UInt8) (hr : M.read s = .ok fs) (ht : toldOf fs = (7, f)) (hf : Fit f a b c l) (d : Int) (hl : ¬ (l.length : Int) ≤ 4096) (w : World) (hs : s.length ≤ 9223372036854775807) :
    Calls Tryz.prog 23 #[.string ⟨s.toArray⟩, .int .i64 d] w fun e w' => e = pan31 4 ∧ Below w.heap.size w w' := by
  have HTV := Lib.hid (toldV_is ht hf)
  have Hf := Lib.hid hf
  have Hr := Lib.hid hr
  obtain ⟨Wa, hWa⟩ : ∃ Wa, Wa = w.alloc (.cells #[.int .u8 0, .string ⟨#[]⟩, .bool false, .int .i64 0, .float .f64 0, .slice none 0 0, .slice none 0 0] 27) := ⟨_, rfl⟩
  have hba : Below w.heap.size w Wa := by rw [hWa]; exact al w _
  have hra : Wa.heap[w.heap.size]? = some (.cells #[.int .u8 0, .string ⟨#[]⟩, .bool false, .int .i64 0, .float .f64 0, .slice none 0 0, .slice none 0 0] 27 (0, 0)) := by rw [hWa]; exact blk_new w _
  have HFields := Lib.hid (fields_all s Wa hs)
  have HWa := Lib.hid hWa
  have Hba := Lib.hid hba
  have Hra := Lib.hid hra
  clear hr ht hf hWa hba hra hs 
  go_enter Tryz.func23, Tryz.ntmps23
  go_wp2_with fail
  rw [← HWa.out]
  refine (HFields.out).mono ?_
  intro e w1 h
  unfold FieldsP at h
  rw [Hr.out] at h
  obtain ⟨ad, cap, rfl, hfl, _, hb1⟩ := h
  have HTold := Lib.hid (told_any w1 ad fs.length cap fs rfl hfl)
  have Hb1 := Lib.hid (Hba.out.trans (hb1.mono Hba.out.size))
  have Hr1 := Lib.hid ((hb1.block _ (lt_of_block Hra.out)).trans Hra.out)
  clear hfl hb1
  go_wp2_with fail
  refine (HTold.out).mono ?_
  rintro e w2 ⟨rfl, hb2⟩
  rw [HTV.out]
  have Hb2 := Lib.hid (Hb1.out.trans (hb2.mono Hb1.out.size))
  have Hr2 := Lib.hid ((hb2.block _ (lt_of_block Hr1.out)).trans Hr1.out)
  clear hb2
  have Hlong := Lib.hid (fun W => long_no (BA l) W (by show ¬ ((l.length : Nat) : Int) ≤ 4096; omega))
  clear hl
  go_wp2_with fail
  refine (Hlong.out _).mono ?_
  rintro e wl ⟨rfl, rfl⟩
  exact ⟨rfl, by exact ⟨rfl, (Hb2.out.alloc Hb2.out.size _).alloc (by have := Hb2.out.size; simp; omega) _⟩⟩

set_option maxRecDepth 100000 in
set_option maxHeartbeats 1000000 in
theorem rd_one_no (s : List UInt8) (fs : List M.Fd) (f : M.Fd) (a b c : Int) (l : List UInt8) (hr : M.read s = .ok fs) (ht : toldOf fs = (1, f)) (hf : Fit f a b c l) (d : Int) (hl : l.length ≤ 65536) (hk : ¬ keyErr (BA l) = 0) (w : World) (hs : s.length ≤ 9223372036854775807) (hT : Tabs w) :
    Calls Tryz.prog 23 #[.string ⟨s.toArray⟩, .int .i64 d] w fun e w' => e = pan31 (keyErr (BA l)) ∧ Below w.heap.size w w' := by
  have HTV := Lib.hid (toldV_is ht hf)
  have Hf := Lib.hid hf
  have Hr := Lib.hid hr
  obtain ⟨Wa, hWa⟩ : ∃ Wa, Wa = w.alloc (.cells #[.int .u8 0, .string ⟨#[]⟩, .bool false, .int .i64 0, .float .f64 0, .slice none 0 0, .slice none 0 0] 27) := ⟨_, rfl⟩
  have hba : Below w.heap.size w Wa := by rw [hWa]; exact al w _
  have hra : Wa.heap[w.heap.size]? = some (.cells #[.int .u8 0, .string ⟨#[]⟩, .bool false, .int .i64 0, .float .f64 0, .slice none 0 0, .slice none 0 0] 27 (0, 0)) := by rw [hWa]; exact blk_new w _
  have HFields := Lib.hid (fields_all s Wa hs)
  have HWa := Lib.hid hWa
  have Hba := Lib.hid hba
  have Hra := Lib.hid hra
  have HT := Lib.hid hT
  clear hr ht hf hWa hba hra hs hT
  go_enter Tryz.func23, Tryz.ntmps23
  go_wp2_with fail
  rw [← HWa.out]
  refine (HFields.out).mono ?_
  intro e w1 h
  unfold FieldsP at h
  rw [Hr.out] at h
  obtain ⟨ad, cap, rfl, hfl, _, hb1⟩ := h
  have HTold := Lib.hid (told_any w1 ad fs.length cap fs rfl hfl)
  have Hb1 := Lib.hid (Hba.out.trans (hb1.mono Hba.out.size))
  have Hr1 := Lib.hid ((hb1.block _ (lt_of_block Hra.out)).trans Hra.out)
  clear hfl hb1
  go_wp2_with fail
  refine (HTold.out).mono ?_
  rintro e w2 ⟨rfl, hb2⟩
  rw [HTV.out]
  have Hb2 := Lib.hid (Hb1.out.trans (hb2.mono Hb1.out.size))
  have Hr2 := Lib.hid ((hb2.block _ (lt_of_block Hr1.out)).trans Hr1.out)
  clear hb2
  obtain ⟨W3, hW3⟩ : ∃ W3, W3 = (w2.alloc (.cells (fcells a b c l) 73)).alloc (.cells #[.int .u8 1, .string ⟨#[]⟩, .bool false, .int .i64 0, .float .f64 0, .slice none 0 0, .slice none 0 0] 27) := ⟨_, rfl⟩
  have HW3 := Lib.hid hW3
  have Hr3 := Lib.hid (show W3.heap[w.heap.size]? = some (.cells #[.int .u8 0, .string ⟨#[]⟩, .bool false, .int .i64 0, .float .f64 0, .slice none 0 0, .slice none 0 0] 27 (0, 0)) by rw [hW3]; exact blk_alloc (blk_alloc Hr2.out _) _)
  have Hb3 := Lib.hid (show Below w.heap.size w W3 by rw [hW3]; exact (Hb2.out.alloc Hb2.out.size _).alloc (by have := Hb2.out.size; simp; omega) _)
  have Hv3 := Lib.hid (show W3.heap[w2.heap.size + 1]? = some (.cells #[.int .u8 1, .string ⟨#[]⟩, .bool false, .int .i64 0, .float .f64 0, .slice none 0 0, .slice none 0 0] 27 (0, 0)) by rw [hW3]; exact blk_at (by simp))
  have Hf3 := Lib.hid (show W3.heap[w2.heap.size]? = some (.cells (fcells a b c l) 73 (0, 0)) by rw [hW3]; exact blk_alloc (blk_new w2 _) _)
  have Hkey := Lib.hid (ckey_any (BA l) W3 (by show l.length ≤ _; omega) (HT.out.under Hb3.out))
  clear hW3
  obtain ⟨cc, hcc⟩ : ∃ cc, cc = keyErr (BA l) := ⟨_, rfl⟩
  rw [← hcc] at Hkey hk
  have Hne := Lib.hid hk
  have Hcc := Lib.hid hcc
  clear hl hk hcc
  go_wp2_with fail
  rw [← HW3.out]
  refine (Hkey.out).mono ?_
  intro e wl hc
  obtain ⟨rfl, hb⟩ := hc.no Hne.out
  exact ⟨rfl, by exact ⟨by rw [Hcc.out], Hb3.out.trans (hb.mono Hb3.out.size)⟩⟩

set_option maxRecDepth 100000 in
set_option maxHeartbeats 1000000 in
theorem rd_one (s : List UInt8) (fs : List M.Fd) (f : M.Fd) (a b c : Int) (l : List UInt8) (hr : M.read s = .ok fs) (ht : toldOf fs = (1, f)) (hf : Fit f a b c l) (d : Int) (hl : l.length ≤ 65536) (hk : keyErr (BA l) = 0) (w : World) (hs : s.length ≤ 9223372036854775807) (hT : Tabs w) :
    Calls Tryz.prog 23 #[.string ⟨s.toArray⟩, .int .i64 d] w (Copied (.mk 1 (BA l) false 0 0 [] []) w) := by
  have HTV := Lib.hid (toldV_is ht hf)
  have Hf := Lib.hid hf
  have Hr := Lib.hid hr
  obtain ⟨Wa, hWa⟩ : ∃ Wa, Wa = w.alloc (.cells #[.int .u8 0, .string ⟨#[]⟩, .bool false, .int .i64 0, .float .f64 0, .slice none 0 0, .slice none 0 0] 27) := ⟨_, rfl⟩
  have hba : Below w.heap.size w Wa := by rw [hWa]; exact al w _
  have hra : Wa.heap[w.heap.size]? = some (.cells #[.int .u8 0, .string ⟨#[]⟩, .bool false, .int .i64 0, .float .f64 0, .slice none 0 0, .slice none 0 0] 27 (0, 0)) := by rw [hWa]; exact blk_new w _
  have HFields := Lib.hid (fields_all s Wa hs)
  have HWa := Lib.hid hWa
  have Hba := Lib.hid hba
  have Hra := Lib.hid hra
  have HT := Lib.hid hT
  clear hr ht hf hWa hba hra hs hT
  go_enter Tryz.func23, Tryz.ntmps23
  go_wp2_with fail
  rw [← HWa.out]
  refine (HFields.out).mono ?_
  intro e w1 h
  unfold FieldsP at h
  rw [Hr.out] at h
  obtain ⟨ad, cap, rfl, hfl, _, hb1⟩ := h
  have HTold := Lib.hid (told_any w1 ad fs.length cap fs rfl hfl)
  have Hb1 := Lib.hid (Hba.out.trans (hb1.mono Hba.out.size))
  have Hr1 := Lib.hid ((hb1.block _ (lt_of_block Hra.out)).trans Hra.out)
  clear hfl hb1
  go_wp2_with fail
  refine (HTold.out).mono ?_
  rintro e w2 ⟨rfl, hb2⟩
  rw [HTV.out]
  have Hb2 := Lib.hid (Hb1.out.trans (hb2.mono Hb1.out.size))
  have Hr2 := Lib.hid ((hb2.block _ (lt_of_block Hr1.out)).trans Hr1.out)
  clear hb2
  obtain ⟨W3, hW3⟩ : ∃ W3, W3 = (w2.alloc (.cells (fcells a b c l) 73)).alloc (.cells #[.int .u8 1, .string ⟨#[]⟩, .bool false, .int .i64 0, .float .f64 0, .slice none 0 0, .slice none 0 0] 27) := ⟨_, rfl⟩
  have HW3 := Lib.hid hW3
  have Hr3 := Lib.hid (show W3.heap[w.heap.size]? = some (.cells #[.int .u8 0, .string ⟨#[]⟩, .bool false, .int .i64 0, .float .f64 0, .slice none 0 0, .slice none 0 0] 27 (0, 0)) by rw [hW3]; exact blk_alloc (blk_alloc Hr2.out _) _)
  have Hb3 := Lib.hid (show Below w.heap.size w W3 by rw [hW3]; exact (Hb2.out.alloc Hb2.out.size _).alloc (by have := Hb2.out.size; simp; omega) _)
  have Hv3 := Lib.hid (show W3.heap[w2.heap.size + 1]? = some (.cells #[.int .u8 1, .string ⟨#[]⟩, .bool false, .int .i64 0, .float .f64 0, .slice none 0 0, .slice none 0 0] 27 (0, 0)) by rw [hW3]; exact blk_at (by simp))
  have Hf3 := Lib.hid (show W3.heap[w2.heap.size]? = some (.cells (fcells a b c l) 73 (0, 0)) by rw [hW3]; exact blk_alloc (blk_new w2 _) _)
  have Hkey := Lib.hid (ckey_any (BA l) W3 (by show l.length ≤ _; omega) (HT.out.under Hb3.out))
  clear hW3
  rw [hk] at Hkey
  have Hl := Lib.hid hl
  clear hk hl
  go_wp2_with fail
  rw [← HW3.out]
  refine (Hkey.out).mono ?_
  intro e w4 hc
  obtain ⟨rfl, hb⟩ := hc.ok
  have Hr4 := Lib.hid ((hb.block _ (lt_of_block Hr3.out)).trans Hr3.out)
  have Hv4 := Lib.hid ((hb.block _ (lt_of_block Hv3.out)).trans Hv3.out)
  have hf4 := (hb.block _ (lt_of_block Hf3.out)).trans Hf3.out
  have Hb4 := Lib.hid (Hb3.out.trans (hb.mono Hb3.out.size))
  obtain ⟨q0, q1, q2, q3⟩ := box4 hf4
  have z1 := (box7v Hv4.out).2.1
  have y1 := frozen_of_row w4 (w2.heap.size + 1) 1 _ 27 Hv4.out
  have Hlt := Lib.hid (show w.heap.size < w2.heap.size + 1 by have := Hb2.out.size; omega)
  clear hb hc hf4
  go_upto_region 24 with (fail)
  obtain ⟨W5, hW5⟩ : ∃ W5, W5 = w4.setCell ⟨w2.heap.size + 1, 1, none⟩ (.string (BA l)) := ⟨_, rfl⟩
  rw [← hW5]
  have Hr5 := Lib.hid (show W5.heap[w.heap.size]? = some (.cells #[.int .u8 0, .string ⟨#[]⟩, .bool false, .int .i64 0, .float .f64 0, .slice none 0 0, .slice none 0 0] 27 (0, 0)) by rw [hW5]; exact (Below.heap_setCell w4 _ _ _ (by have := Hlt.out; simp; omega)).trans Hr4.out)
  have Hb5 := Lib.hid (show Below w.heap.size w W5 by rw [hW5]; exact Hb4.out.setCell (by have := Hlt.out; show w.heap.size ≤ w2.heap.size + 1; omega) _)
  have hv : W5.heap[w2.heap.size + 1]? = some (.cells #[.int .u8 1, .string (BA l), .bool false, .int .i64 0, .float .f64 0, .slice none 0 0, .slice none 0 0] 27 (0, 0)) := by rw [hW5]; exact box_s Hv4.out _
  clear q0 q1 q2 q3 z1 y1 hW5
  obtain ⟨k0, k1, k2, k3, k4, k5, k6⟩ := box7v hv
  obtain ⟨⟨h0, h1, h2, h3, h4, h5, h6⟩, g0, g1, g2, g3, g4, g5, g6⟩ := zero_box Hr5.out
  clear hv
  go_wp2
  refine bodyPost_ret (v := .agg (gv 1 (BA l) false 0 0 (.slice none 0 0) (.slice none 0 0))) (by simp [results, Tryz.results23, go_sem, h0, h1, h2, h3, h4, h5, h6]) rfl ?_
  exact ⟨.slice none 0 0, .slice none 0 0, rfl, rep_nil (fit_leaf _ _ _ _ _ (by omega) (by have := Hl.out; show l.length ≤ _; omega) (by omega) (by omega)) rfl rfl, set7 Hb5.out _ _ _ _ _ _ _⟩
end Go.Proofs.YtnnnnlcpmocnfaaGreatDoor
