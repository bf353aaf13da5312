/- MESSAGES OF VALUES, READ: a list, WALKED. -/
import Derived.Test.YtnnnnlcpmocnfaaGreatDoorRv3
import Derived.IntWalk
import Derived.Deep.Cut
import Derived.Outline
import Derived.WalkLawsBesides
import Derived.Deep.RegionLaw
import Derived.Deep.RegionHeld3
namespace Go.Proofs.YtnnnnlcpmocnfaaGreatDoor
open Go.RowKit
set_option linter.unusedVariables false
set_option linter.unusedSimpArgs false
attribute [local go_sem] run_store_float

abbrev gv7 (k : Int) (q1 q2 : Value) : Array Value := #[.int .u8 k, .string ⟨#[]⟩, .bool false, .int .i64 0, .float .f64 0, q1, q2]
/-- where the reading of a list stands behind k parts; w4: the world at its start -/
structure LInv (g : List UInt8 → Except Int V) (ps : List M.Fd) (w w4 : World) (gv k : Nat) (cur : Value) (es : List (V × Value × Value)) (wr : World) : Prop where
  box : wr.heap[gv]? = some (.cells (gv7 5 cur (.slice none 0 0)) 27 (0, 0))
  keep : ∀ gp, gp < w4.heap.size → gp ≠ gv → wr.heap[gp]? = w4.heap[gp]?
  row : VRow wr w4.heap.size cur es
  eq : rlistG g (ps.take k) = .ok (es.map (·.1))
  len : es.length = k
  bel : Below w.heap.size w wr
  size : w4.heap.size ≤ wr.heap.size
theorem gv7_list {w : World} {g : Nat} {k : Int} {q1 q2 : Value} {t : TypeId} (h : w.heap[g]? = some (.cells (gv7 k q1 q2) t (0, 0))) (u : Value) : (w.setCell ⟨g, 5, none⟩ u).heap[g]? = some (.cells (gv7 k u q2) t (0, 0)) := by
  have hlt := lt_of_block h
  have h' : w.heap[g] = .cells (gv7 k q1 q2) t (0, 0) := by simpa [Array.getElem?_eq_getElem hlt] using h
  show (w.heap.modify g _)[g]? = _
  rw [Array.getElem?_eq_getElem (by simpa using hlt), Array.getElem_modify_self, h']
  rfl
theorem linv_next {g : List UInt8 → Except Int V} {ps : List M.Fd} {w w4 wr W w1 w2 : World} {gv k : Nat} {cur v2 r1 r2 : Value} {es : List (V × Value × Value)} {a : V} {f : M.Fd}
    (h : LInv g ps w w4 gv k cur es wr) (hgv : gv < w4.heap.size) (hw : w.heap.size < gv) (hBW : Below wr.heap.size wr W) (hb1 : Below W.heap.size W w1) (hrow2 : VRow w2 w4.heap.size v2 (es ++ [(a, r1, r2)])) (hg : Grew w1 cur w2 v2) (hf : ps[k]? = some f) (ha : g f.s = .ok a) :
    LInv g ps w w4 gv (k + 1) v2 (es ++ [(a, r1, r2)]) (w2.setCell ⟨gv, 5, none⟩ v2) := by
  have hrow := h.row.under hBW
  have hbw := (hBW.block _ (lt_of_block h.box)).trans h.box
  have n0 : cur.ownBlock ≠ some gv := fun e => by have := (hrow.lt _ e).1; omega
  have s0 := lt_of_block hbw
  have hsz : (w2.setCell ⟨gv, 5, none⟩ v2).heap.size = w2.heap.size := by simp [World.setCell]
  have hs4 := h.size
  have hsW := hBW.size
  have hs1 := hb1.size
  have hs2 := hg.g.size
  have hB : Below w.heap.size w W := h.bel.trans (hBW.mono h.bel.size)
  have hg2 : Below w.heap.size w w2 := (hB.trans (hb1.mono hB.size)).trans (hg.below (by have := hB.size; omega) (fun k hk => by have := (hrow.lt k hk).1; omega))
  refine ⟨gv7_list ((grew_block hb1 hrow hg s0 n0).trans hbw) v2, ?_, ?_, ?_, ?_, ?_, ?_⟩
  · intro gp hgp hne
    have n1 : cur.ownBlock ≠ some gp := fun e => by have := (hrow.lt _ e).1; omega
    exact (Below.heap_setCell w2 _ v2 _ (by simp; exact hne)).trans (((grew_block hb1 hrow hg (by omega) n1).trans (hBW.block gp (by omega))).trans (h.keep gp hgp hne))
  · exact hrow2.keep (fun g hg _ => Below.heap_setCell w2 _ v2 g (by simp; omega)) (by rw [hsz]; exact Nat.le_refl _)
  · rw [take_get hf, rlistG_snoc, h.eq]
    dsimp only
    rw [ha, List.map_append]
    rfl
  · rw [List.length_append, h.len]; rfl
  · exact hg2.setCell (by show w.heap.size ≤ gv; omega) _
  · rw [hsz]; omega
theorem cells_keep {w w' : World} {g off j : Nat} {a b c : Int} {l : List UInt8} (h : At4 w g off j a b c l) (e : w'.heap[g]? = w.heap[g]?) : At4 w' g off j a b c l :=
  ⟨(cell_block e _).trans h.q0, (cell_block e _).trans h.q1, (cell_block e _).trans h.q2, (cell_block e _).trans h.q3⟩
/-- the list that is read -/
def rlistR (g : List UInt8 → Except Int V) (ps : List M.Fd) : Except Int V := match rlistG g ps with | .error c => .error c | .ok l => .ok (.mk 5 ⟨#[]⟩ false 0 0 l [])

set_option maxRecDepth 100000 in
set_option maxHeartbeats 1000000 in
theorem rd_parts_no5 (s : List UInt8) (fs : List M.Fd) (f : M.Fd) (a b c : Int) (l : List UInt8) (hr : M.read s = .ok fs) (ht : toldOf fs = (5, f)) (hf : Fit f a b c l) (d : Int) (fuel : Nat) (hfu : fuel ≤ 8) (hd : d = 8 - (fuel : Int)) (hl : l.length ≤ 65536) (cc : Int) (hp : partsR l fuel = .error cc) (w : World) (hs : s.length ≤ 9223372036854775807) :
    Calls Tryz.prog 23 #[.string ⟨s.toArray⟩, .int .i64 d] w fun e w' => e = pan31 cc ∧ Below w.heap.size w w' := by
  have HHhfu := Lib.hid hfu
  have HHhd := Lib.hid hd
  have HHhl := Lib.hid hl
  have HHhp := Lib.hid hp
  have HTV := Lib.hid (toldV_is ht hf)
  have Hf := Lib.hid hf
  have Hr := Lib.hid hr
  obtain ⟨Wa, hWa⟩ : ∃ Wa, Wa = w.alloc (.cells #[.int .u8 0, .string ⟨#[]⟩, .bool false, .int .i64 0, .float .f64 0, .slice none 0 0, .slice none 0 0] 27) := ⟨_, rfl⟩
  have hba : Below w.heap.size w Wa := by rw [hWa]; exact al w _
  have hra : Wa.heap[w.heap.size]? = some (.cells #[.int .u8 0, .string ⟨#[]⟩, .bool false, .int .i64 0, .float .f64 0, .slice none 0 0, .slice none 0 0] 27 (0, 0)) := by rw [hWa]; exact blk_new w _
  have HFields := Lib.hid (fields_all s Wa hs)
  have HWa := Lib.hid hWa
  have Hba := Lib.hid hba
  have Hra := Lib.hid hra
  clear hr ht hf hWa hba hra hs 
  clear hfu hd hl hp
  go_enter Tryz.func23, Tryz.ntmps23
  go_wp2_with fail
  rw [← HWa.out]
  refine (HFields.out).mono ?_
  intro e w1 h
  unfold FieldsP at h
  rw [Hr.out] at h
  obtain ⟨ad, cap, rfl, hfl, _, hb1⟩ := h
  have HTold := Lib.hid (told_any w1 ad fs.length cap fs rfl hfl)
  have Hb1 := Lib.hid (Hba.out.trans (hb1.mono Hba.out.size))
  have Hr1 := Lib.hid ((hb1.block _ (lt_of_block Hra.out)).trans Hra.out)
  clear hfl hb1
  go_wp2_with fail
  refine (HTold.out).mono ?_
  rintro e w2 ⟨rfl, hb2⟩
  rw [HTV.out]
  have Hb2 := Lib.hid (Hb1.out.trans (hb2.mono Hb1.out.size))
  have Hr2 := Lib.hid ((hb2.block _ (lt_of_block Hr1.out)).trans Hr1.out)
  clear hb2
  obtain ⟨W3, hW3⟩ : ∃ W3, W3 = (w2.alloc (.cells (fcells a b c l) 73)).alloc (.cells (gv7 5 (.slice none 0 0) (.slice none 0 0)) 27) := ⟨_, rfl⟩
  have HW3 := Lib.hid hW3
  have Hr3 := Lib.hid (show W3.heap[w.heap.size]? = some (.cells #[.int .u8 0, .string ⟨#[]⟩, .bool false, .int .i64 0, .float .f64 0, .slice none 0 0, .slice none 0 0] 27 (0, 0)) by rw [hW3]; exact blk_alloc (blk_alloc Hr2.out _) _)
  have Hb3 := Lib.hid (show Below w.heap.size w W3 by rw [hW3]; exact (Hb2.out.alloc Hb2.out.size _).alloc (by have := Hb2.out.size; simp; omega) _)
  have Hv3 := Lib.hid (show W3.heap[w2.heap.size + 1]? = some (.cells (gv7 5 (.slice none 0 0) (.slice none 0 0)) 27 (0, 0)) by rw [hW3]; exact blk_at (by simp))
  have Hlt3 := Lib.hid (show w.heap.size < w2.heap.size + 1 by have := Hb2.out.size; omega)
  have Hparts := Lib.hid (parts_all l fuel HHhfu.out W3 (by have := HHhl.out; omega))
  clear hW3
  rw [← HHhd.out, HHhp.out] at Hparts
  go_wp2_with fail
  rw [← HW3.out]
  refine (Hparts.out).mono ?_
  rintro e w4 ⟨rfl, hb⟩
  exact ⟨rfl, by exact ⟨rfl, Hb3.out.trans (hb.mono Hb3.out.size)⟩⟩

set_option maxRecDepth 100000 in
set_option maxHeartbeats 1000000 in
theorem rd_parts_no6 (s : List UInt8) (fs : List M.Fd) (f : M.Fd) (a b c : Int) (l : List UInt8) (hr : M.read s = .ok fs) (ht : toldOf fs = (6, f)) (hf : Fit f a b c l) (d : Int) (fuel : Nat) (hfu : fuel ≤ 8) (hd : d = 8 - (fuel : Int)) (hl : l.length ≤ 65536) (cc : Int) (hp : partsR l fuel = .error cc) (w : World) (hs : s.length ≤ 9223372036854775807) :
    Calls Tryz.prog 23 #[.string ⟨s.toArray⟩, .int .i64 d] w fun e w' => e = pan31 cc ∧ Below w.heap.size w w' := by
  have HHhfu := Lib.hid hfu
  have HHhd := Lib.hid hd
  have HHhl := Lib.hid hl
  have HHhp := Lib.hid hp
  have HTV := Lib.hid (toldV_is ht hf)
  have Hf := Lib.hid hf
  have Hr := Lib.hid hr
  obtain ⟨Wa, hWa⟩ : ∃ Wa, Wa = w.alloc (.cells #[.int .u8 0, .string ⟨#[]⟩, .bool false, .int .i64 0, .float .f64 0, .slice none 0 0, .slice none 0 0] 27) := ⟨_, rfl⟩
  have hba : Below w.heap.size w Wa := by rw [hWa]; exact al w _
  have hra : Wa.heap[w.heap.size]? = some (.cells #[.int .u8 0, .string ⟨#[]⟩, .bool false, .int .i64 0, .float .f64 0, .slice none 0 0, .slice none 0 0] 27 (0, 0)) := by rw [hWa]; exact blk_new w _
  have HFields := Lib.hid (fields_all s Wa hs)
  have HWa := Lib.hid hWa
  have Hba := Lib.hid hba
  have Hra := Lib.hid hra
  clear hr ht hf hWa hba hra hs 
  clear hfu hd hl hp
  go_enter Tryz.func23, Tryz.ntmps23
  go_wp2_with fail
  rw [← HWa.out]
  refine (HFields.out).mono ?_
  intro e w1 h
  unfold FieldsP at h
  rw [Hr.out] at h
  obtain ⟨ad, cap, rfl, hfl, _, hb1⟩ := h
  have HTold := Lib.hid (told_any w1 ad fs.length cap fs rfl hfl)
  have Hb1 := Lib.hid (Hba.out.trans (hb1.mono Hba.out.size))
  have Hr1 := Lib.hid ((hb1.block _ (lt_of_block Hra.out)).trans Hra.out)
  clear hfl hb1
  go_wp2_with fail
  refine (HTold.out).mono ?_
  rintro e w2 ⟨rfl, hb2⟩
  rw [HTV.out]
  have Hb2 := Lib.hid (Hb1.out.trans (hb2.mono Hb1.out.size))
  have Hr2 := Lib.hid ((hb2.block _ (lt_of_block Hr1.out)).trans Hr1.out)
  clear hb2
  obtain ⟨W3, hW3⟩ : ∃ W3, W3 = (w2.alloc (.cells (fcells a b c l) 73)).alloc (.cells (gv7 6 (.slice none 0 0) (.slice none 0 0)) 27) := ⟨_, rfl⟩
  have HW3 := Lib.hid hW3
  have Hr3 := Lib.hid (show W3.heap[w.heap.size]? = some (.cells #[.int .u8 0, .string ⟨#[]⟩, .bool false, .int .i64 0, .float .f64 0, .slice none 0 0, .slice none 0 0] 27 (0, 0)) by rw [hW3]; exact blk_alloc (blk_alloc Hr2.out _) _)
  have Hb3 := Lib.hid (show Below w.heap.size w W3 by rw [hW3]; exact (Hb2.out.alloc Hb2.out.size _).alloc (by have := Hb2.out.size; simp; omega) _)
  have Hv3 := Lib.hid (show W3.heap[w2.heap.size + 1]? = some (.cells (gv7 6 (.slice none 0 0) (.slice none 0 0)) 27 (0, 0)) by rw [hW3]; exact blk_at (by simp))
  have Hlt3 := Lib.hid (show w.heap.size < w2.heap.size + 1 by have := Hb2.out.size; omega)
  have Hparts := Lib.hid (parts_all l fuel HHhfu.out W3 (by have := HHhl.out; omega))
  clear hW3
  rw [← HHhd.out, HHhp.out] at Hparts
  go_wp2_with fail
  rw [← HW3.out]
  refine (Hparts.out).mono ?_
  rintro e w4 ⟨rfl, hb⟩
  exact ⟨rfl, by exact ⟨rfl, Hb3.out.trans (hb.mono Hb3.out.size)⟩⟩

set_option maxRecDepth 100000 in
set_option maxHeartbeats 1000000 in
theorem rd_five (s : List UInt8) (fs : List M.Fd) (f : M.Fd) (a b c : Int) (l : List UInt8) (hr : M.read s = .ok fs) (ht : toldOf fs = (5, f)) (hf : Fit f a b c l) (d : Int) (n : Nat) (hfu : n + 1 ≤ 8) (hd : d = 8 - ((n + 1 : Nat) : Int)) (ih : ReadC n) (hl : l.length ≤ 65536) (ps : List M.Fd) (hp : partsR l (n + 1) = .ok ps) (hps : ∀ f ∈ ps, f.s.length ≤ 65536) (w : World) (hs : s.length ≤ 9223372036854775807) (hT : Tabs w) :
    Calls Tryz.prog 23 #[.string ⟨s.toArray⟩, .int .i64 d] w (RPost (rlistR (rmsg n) ps) w) := by
  have HHhfu := Lib.hid hfu
  have HHhd := Lib.hid hd
  have HHih := Lib.hid ih
  have HHhl := Lib.hid hl
  have HHhp := Lib.hid hp
  have HHhps := Lib.hid hps
  have HTV := Lib.hid (toldV_is ht hf)
  have Hf := Lib.hid hf
  have Hr := Lib.hid hr
  obtain ⟨Wa, hWa⟩ : ∃ Wa, Wa = w.alloc (.cells #[.int .u8 0, .string ⟨#[]⟩, .bool false, .int .i64 0, .float .f64 0, .slice none 0 0, .slice none 0 0] 27) := ⟨_, rfl⟩
  have hba : Below w.heap.size w Wa := by rw [hWa]; exact al w _
  have hra : Wa.heap[w.heap.size]? = some (.cells #[.int .u8 0, .string ⟨#[]⟩, .bool false, .int .i64 0, .float .f64 0, .slice none 0 0, .slice none 0 0] 27 (0, 0)) := by rw [hWa]; exact blk_new w _
  have HFields := Lib.hid (fields_all s Wa hs)
  have HWa := Lib.hid hWa
  have Hba := Lib.hid hba
  have Hra := Lib.hid hra
  have HT := Lib.hid hT
  clear hr ht hf hWa hba hra hs hT
  clear hfu hd ih hl hp hps
  go_enter Tryz.func23, Tryz.ntmps23
  go_wp2_with fail
  rw [← HWa.out]
  refine (HFields.out).mono ?_
  intro e w1 h
  unfold FieldsP at h
  rw [Hr.out] at h
  obtain ⟨ad, cap, rfl, hfl, _, hb1⟩ := h
  have HTold := Lib.hid (told_any w1 ad fs.length cap fs rfl hfl)
  have Hb1 := Lib.hid (Hba.out.trans (hb1.mono Hba.out.size))
  have Hr1 := Lib.hid ((hb1.block _ (lt_of_block Hra.out)).trans Hra.out)
  clear hfl hb1
  go_wp2_with fail
  refine (HTold.out).mono ?_
  rintro e w2 ⟨rfl, hb2⟩
  rw [HTV.out]
  have Hb2 := Lib.hid (Hb1.out.trans (hb2.mono Hb1.out.size))
  have Hr2 := Lib.hid ((hb2.block _ (lt_of_block Hr1.out)).trans Hr1.out)
  clear hb2
  obtain ⟨W3, hW3⟩ : ∃ W3, W3 = (w2.alloc (.cells (fcells a b c l) 73)).alloc (.cells (gv7 5 (.slice none 0 0) (.slice none 0 0)) 27) := ⟨_, rfl⟩
  have HW3 := Lib.hid hW3
  have Hr3 := Lib.hid (show W3.heap[w.heap.size]? = some (.cells #[.int .u8 0, .string ⟨#[]⟩, .bool false, .int .i64 0, .float .f64 0, .slice none 0 0, .slice none 0 0] 27 (0, 0)) by rw [hW3]; exact blk_alloc (blk_alloc Hr2.out _) _)
  have Hb3 := Lib.hid (show Below w.heap.size w W3 by rw [hW3]; exact (Hb2.out.alloc Hb2.out.size _).alloc (by have := Hb2.out.size; simp; omega) _)
  have Hv3 := Lib.hid (show W3.heap[w2.heap.size + 1]? = some (.cells (gv7 5 (.slice none 0 0) (.slice none 0 0)) 27 (0, 0)) by rw [hW3]; exact blk_at (by simp))
  have Hlt3 := Lib.hid (show w.heap.size < w2.heap.size + 1 by have := Hb2.out.size; omega)
  have Hparts := Lib.hid (parts_all l (n + 1) HHhfu.out W3 (by have := HHhl.out; omega))
  clear hW3
  rw [← HHhd.out, HHhp.out] at Hparts
  have Ih := Lib.hid (show ∀ (s : List UInt8) (w : World), Tabs w → s.length ≤ 9223372036854775807 → Calls Tryz.prog 23 #[.string ⟨s.toArray⟩, .int .i64 (d + 1)] w (RPost (rmsg n s) w) by rw [show d + 1 = 8 - (n : Int) by have := HHhd.out; omega]; exact HHih.out)
  have Hps := HHhps
  have Hd := Lib.hid (show 0 ≤ d ∧ d ≤ 8 by have := HHhd.out; have := HHhfu.out; omega)
  clear HHhd HHhp HHhfu HHhl HHih HHhps
  go_wp2_with fail
  rw [← HW3.out]
  refine (Hparts.out).mono ?_
  rintro e w4 ⟨ad4, cap4, rfl, hfl4, hlen4, hnew4, hb4⟩
  obtain ⟨m, hm⟩ : ∃ m, m = ps.length := ⟨_, rfl⟩
  rw [← hm]
  have hm256 : m ≤ 256 := by omega
  have Hm := Lib.hid hm
  have Hfl := Lib.hid hfl4
  have Hnew := Lib.hid (show ∀ g o, ad4 = some ⟨g, o, none⟩ → g ≠ w2.heap.size + 1 from fun g o e => by have := hnew4 g o e; have := lt_of_block Hv3.out; omega)
  obtain ⟨gv, hgv⟩ : ∃ gv, gv = w2.heap.size + 1 := ⟨_, rfl⟩
  rw [← hgv] at Hnew Hlt3 Hv3 ⊢
  have Hgv := Lib.hid (show gv < w4.heap.size from Nat.lt_of_lt_of_le (lt_of_block Hv3.out) hb4.size)
  have Hr4 := Lib.hid ((hb4.block _ (lt_of_block Hr3.out)).trans Hr3.out)
  have Hstart : LInv (rmsg n) ps w w4 gv 0 (.slice none 0 0) [] w4 := ⟨(hb4.block _ (lt_of_block Hv3.out)).trans Hv3.out, fun _ _ _ => rfl, VRow.nil _ _, rfl, rfl, Hb3.out.trans (hb4.mono Hb3.out.size), Nat.le_refl _⟩
  have Hst := Lib.hid Hstart
  clear hm hfl4 hlen4 hnew4 hb4 Hstart hgv
  go_wp2
  go_loopw [52] (fun i wr => ∃ (k : Nat) (cur : Value) (es : List (V × Value × Value)), i = .int .i64 (k : Int) ∧ k ≤ m ∧ Go.RowKit.Hid (LInv (rmsg n) ps w w4 gv k cur es wr)) (fun i _ => m - (intOf i).toNat)
  case atStart => exact ⟨0, .slice none 0 0, [], rfl, by omega, Hst.out⟩
  case round =>
    obtain ⟨k, cur, es, rfl, hk, hinv⟩ := hrel
    have Hinv := Lib.hid hinv.out
    clear hinv
    by_cases hlt : k < m
    · obtain ⟨fk, hfk⟩ := get_at' (l := ps) (k := k) (by rw [← Hm.out]; exact hlt)
      have hne : ps ≠ [] := by rintro rfl; simp at hfk
      obtain ⟨gp, off, rfl, hgp, hi⟩ := Hfl.out.2 hne
      obtain ⟨pa, pb, pc', pl, hfit, q⟩ := hi k fk hfk
      obtain ⟨q0, q1, q2, q3⟩ := cells_keep q (Hinv.out.keep gp hgp (Hnew.out gp off rfl))
      have hk0 : (0 : Int) ≤ (k : Int) := by omega
      have hkn : (k : Int) < (m : Int) := by omega
      have hpl : fk.s = pl := by rw [hfit.e]
      have hplen : pl.length ≤ 65536 := by rw [← hpl]; exact Hps.out fk (List.mem_of_getElem? hfk)
      have Hfk := Lib.hid hfk
      have Hpl := Lib.hid hpl
      obtain ⟨W, hW⟩ : ∃ W, W = wr.alloc (.cells (fcells pa pb pc' pl) 73) := ⟨_, rfl⟩
      have hBW : Below wr.heap.size wr W := by rw [hW]; exact al _ _
      have hbx9 : W.heap[wr.heap.size]? = some (.cells (fcells pa pb pc' pl) 73 (0, 0)) := by rw [hW]; exact blk_new wr _
      have hbw : W.heap[gv]? = some (.cells (gv7 5 cur (.slice none 0 0)) 27 (0, 0)) := (hBW.block _ (lt_of_block Hinv.out.box)).trans Hinv.out.box
      obtain ⟨z0, z1, z2, z3⟩ := box4 hbx9
      obtain ⟨y0, y1, y2, y3, y4, y5, y6⟩ := box7v hbw
      have Hbw := Lib.hid hbw
      have Hltg := Lib.hid (lt_of_block hbw)
      have HBW := Lib.hid hBW
      have HbelW := Lib.hid (Hinv.out.bel.trans (hBW.mono Hinv.out.bel.size))
      have Hrow := Lib.hid (Hinv.out.row.under hBW)
      have Hne := Lib.hid (show cur.ownBlock ≠ some gv from fun e => by have := (Hinv.out.row.lt _ e).1; have := Hgv.out; omega)
      have Hbase := Lib.hid (show w4.heap.size ≤ W.heap.size from Nat.le_trans Hinv.out.size hBW.size)
      have Hlen := Lib.hid (show es.length * 96 ≤ 140737488353100 by have := Hinv.out.len; omega)
      have HW := Lib.hid hW
      have Hcall := Lib.hid (Ih.out pl W.drew ((HT.out.under HbelW.out).under (Below.refl _ _).drew) (by omega))
      obtain ⟨adu, capu, hcur⟩ := Hinv.out.row.form
      have Hcur := Lib.hid hcur
      have hadd : IntKind.i64.wrap (d + 1) = d + 1 := IntWalk.i64_in _ (by have := Hd.out; omega)
      have Hadd := Lib.hid hadd
      clear hW hBW hbx9 hbw hfk hpl hplen hfit hi hne hgp q hcur hadd
      go_wp2
      rw [← HW.out]
      have hadd := Hadd.out
      cases hm2 : rmsg n pl with
      | error cc =>
        rw [hm2] at Hcall
        have HRc := Lib.hid (show rlistR (rmsg n) ps = .error cc by
          have h1 : rlistG (rmsg n) (ps.take k ++ [fk]) = .error cc := by rw [rlistG_snoc, Hinv.out.eq]; dsimp only; rw [Hpl.out, hm2]
          have h2 := rlistG_err h1 (ps.drop (k + 1))
          unfold rlistR
          rw [cut_snoc Hfk.out, h2])
        clear hm2
        refine wp_region_any (by kernel_rfl) ?_
        refine wpAny_take (i := 0) (v := ?pv0) rfl (by kernel_rfl) (by kernel_rfl) (by kernel_rfl) (fun _ _ _ h => h) (Or.inl ⟨by rfl, ?ph0⟩) ?pr0
        case ph0 => (intro w; go_simp; first | done | (with_reducible rfl))
        refine wpAny_take (i := 2) (v := ?pv2) rfl (by kernel_rfl) (by kernel_rfl) (by kernel_rfl) (fun _ _ _ h => h) (Or.inl ⟨by rfl, ?ph2⟩) ?pr2
        case ph2 => (intro w; go_simp; first | done | (with_reducible rfl))
        refine wpAny_take (i := 4) (v := ?pv4) rfl (by kernel_rfl) (by kernel_rfl) (by kernel_rfl) (fun _ _ _ h => h) (Or.inl ⟨by rfl, ?ph4⟩) ?pr4
        case ph4 => (intro w; go_simp; first | done | (with_reducible rfl))
        refine wpAny_take (i := 5) (v := ?pv5) rfl (by kernel_rfl) (by kernel_rfl) (by kernel_rfl) (fun _ _ _ h => h) (Or.inl ⟨by rfl, ?ph5⟩) ?pr5
        case ph5 => (intro w; go_simp; first | done | (with_reducible rfl))
        refine wpAny_ready (rs := [1, 3]) (by kernel_rfl) (by simp) ?_
        refine AllReady.cons rfl (fun K hK => ?_) ?_
        · skip
          go_simp
          refine hK _ _ ?_
          clear hK K
          refine wpAny_ready (rs := [3]) (by kernel_rfl) (by simp) ?_
          refine AllReady.cons rfl (fun K hK => ?_) AllReady.nil
          go_simp
          refine hK _ _ ?_
          clear hK K
          refine wpAny_ready (rs := [6]) (by kernel_rfl) (by simp) ?_
          refine AllReady.cons rfl (fun K hK => ?_) AllReady.nil
          go_simp
          refine (Hcall.out).mono ?_
          rintro e w1 ⟨rfl, hb1⟩
          exact ⟨rfl, by rw [HRc.out]; exact ⟨rfl, HbelW.out.trans ((below_drew hb1).mono HbelW.out.size)⟩⟩
        refine AllReady.cons rfl (fun K hK => ?_) AllReady.nil
        go_simp
        refine hK _ _ ?_
        clear hK K
        refine wpAny_ready (rs := [1, 6]) (by kernel_rfl) (by simp) ?_
        refine AllReady.cons rfl (fun K hK => ?_) ?_
        · skip
          go_simp
          refine hK _ _ ?_
          clear hK K
          refine wpAny_ready (rs := [6]) (by kernel_rfl) (by simp) ?_
          refine AllReady.cons rfl (fun K hK => ?_) AllReady.nil
          go_simp
          refine (Hcall.out).mono ?_
          rintro e w1 ⟨rfl, hb1⟩
          exact ⟨rfl, by rw [HRc.out]; exact ⟨rfl, HbelW.out.trans ((below_drew hb1).mono HbelW.out.size)⟩⟩
        refine AllReady.cons rfl (fun K hK => ?_) AllReady.nil
        go_simp
        refine (Hcall.out).mono ?_
        rintro e w1 ⟨rfl, hb1⟩
        exact ⟨rfl, by rw [HRc.out]; exact ⟨rfl, HbelW.out.trans ((below_drew hb1).mono HbelW.out.size)⟩⟩
      | ok xa =>
        rw [hm2] at Hcall
        have Hok := Lib.hid (show rmsg n fk.s = .ok xa by rw [Hpl.out]; exact hm2)
        clear hm2
        go_region_law (first | (refine step_app_v rfl (.tmp 57) (.tmp 63) rfl w4.heap.size cur es (by rfl) (Hrow.out.under (below_drew hb1)) xa r1 r2 _ (by rfl) (far_new Hrow.out hr1 Hbase.out) _ (by rfl) (by rfl) Hlen.out (Nat.le_trans Hbase.out (below_drew hb1).size) ?_; intro v2 w6 hrow2 hgr2; obtain ⟨adv, capv, rfl⟩ := hrow2.form; have hbx2 := (grew_block (below_drew hb1) Hrow.out hgr2 Hltg.out Hne.out).trans Hbw.out; have p5 := (box7v hbx2).2.2.2.2.2.1; have pf := frozen_of_row w6 gv 5 _ 27 hbx2) | (go_simp; go_at_call 23; refine (Hcall.out).mono ?_; rintro e w1 ⟨r1, r2, rfl, hr1, hb1⟩; have s7 := (box7v (((below_drew hb1).block _ Hltg.out).trans Hbw.out)).2.2.2.2.2.1; have s8 := cell_alloc s7))
        all_goals
          go_wp2
          go_roundw
          case rel => exact ⟨k + 1, _, es ++ [(xa, r1, r2)], by go_num, by omega, by have := linv_next Hinv.out Hgv.out Hlt3.out HBW.out (below_drew hb1) hrow2 hgr2 Hfk.out Hok.out; rwa [List.length_append] at this⟩
          case measure => simp [intOf]; omega
    · have hkm : k = m := by omega
      have HRk := Lib.hid (show rlistR (rmsg n) ps = .ok (.mk 5 ⟨#[]⟩ false 0 0 (es.map (·.1)) []) by
        have h := Hinv.out.eq
        rw [List.take_of_length_le (by have := Hm.out; omega)] at h
        unfold rlistR
        rw [h])
      have hrow := Hinv.out.row
      obtain ⟨adu, capu, rfl⟩ := hrow.form
      have hrr := (Hinv.out.keep w.heap.size (Nat.lt_trans Hlt3.out Hgv.out) (by have := Hlt3.out; omega)).trans Hr4.out
      obtain ⟨k0, k1, k2, k3, k4, k5, k6⟩ := box7v Hinv.out.box
      obtain ⟨⟨h0, h1, h2, h3, h4, h5, h6⟩, g0, g1, g2, g3, g4, g5, g6⟩ := zero_box hrr
      have Hl256 := Lib.hid (show es.length ≤ 256 by have := Hinv.out.len; omega)
      clear hrow hrr
      go_wp2
      refine bodyPost_ret (v := .agg (gv7 5 (.slice adu es.length capu) (.slice none 0 0))) (by simp [results, Tryz.results23, go_sem, h0, h1, h2, h3, h4, h5, h6]) rfl ?_
      rw [HRk.out]
      have Hsz := Lib.hid (show w.heap.size + 1 ≤ w4.heap.size by have := Hlt3.out; have := Hgv.out; omega)
      have hdata := Hinv.out.row.data (by have := Hl256.out; omega)
      refine ⟨.slice adu es.length capu, .slice none 0 0, rfl, Rep.of ⟨by show (0 : Int) ≤ 5; decide, by show (5 : Int) ≤ 255; decide, by show (0 : Nat) ≤ _; omega, by show (es.map (·.1)).length * 96 ≤ _; have := Hl256.out; rw [List.length_map]; omega, by show ([] : List (ByteArray × V)).length * 112 ≤ _; simp, by show -9223372036854775808 ≤ (0 : Int); decide, by show (0 : Int) ≤ 9223372036854775807; decide, by show (0 : Nat) < _; omega⟩ ?_ (RepP.nil _ _), set7 Hinv.out.bel _ _ _ _ _ _ _⟩
      refine hdata.keep ⟨by simp [World.setCell], fun g hg _ => (far_set (far_set (far_set (far_set (far_set (far_set (far_set (fun _ _ => rfl) (by simp)) (by simp)) (by simp)) (by simp)) (by simp)) (by simp)) (by simp)) g (Nat.le_trans Hsz.out hg.1)⟩ (fun g hg _ => ⟨by have := Hsz.out; have hg' : w4.heap.size ≤ g := hg.1; omega, hg.2.keep ((far_set (far_set (far_set (far_set (far_set (far_set (far_set (fun _ _ => rfl) (by simp)) (by simp)) (by simp)) (by simp)) (by simp)) (by simp)) (by simp)) g (Nat.le_trans Hsz.out hg.1))⟩)
end Go.Proofs.YtnnnnlcpmocnfaaGreatDoor
