/- CONF: THE WALKS OVER waits, begin, end, all. -/
import Derived.Test.YtegobomfhdfodaaGreatDoorCn
import Derived.Deep.Onto
import Derived.Maps.AppendAt
import Derived.Deep.Cut
import Derived.BigRegion
import Derived.Deep.RegionLaw
namespace Go.Proofs.YtegobomfhdfodaaGreatDoor
open Go.RowKit
set_option maxRecDepth 100000
set_option linter.unusedVariables false
set_option linter.unusedSimpArgs false

theorem Tryz.info63 : (Tryz.prog.info? 63).map (fun i => (i.zero, i.size, i.bytes)) = some (some (.agg #[.int .i64 0, .slice none 0 0]), 2, 32) := by kernel_rfl
theorem Tryz.info44 : (Tryz.prog.info? 44).map (fun i => (i.zero, i.size, i.bytes)) = some (some (.agg #[.string ⟨#[]⟩, .int .u8 0, .string ⟨#[]⟩, .slice none 0 0, .slice none 0 0]), 5, 88) := by kernel_rfl
/-- the last key's cells -/
theorem KR.last {w : World} {base : Nat} {act : List Value} {q : Value} {es : List E} {e : E} (h : KR w base act q (es ++ [e])) :
    ∃ b cap, q = .slice (some ⟨b, 0, none⟩) (es.length + 1) cap ∧ base ≤ b ∧ b < w.heap.size ∧ At5 w b (es.length * 5) e.1 e.2.1 e.2.2.1 e.2.2.2 ∧ ∀ j, w.frozen? ⟨b, j, none⟩ = false := by
  rcases h.row.2 with ⟨rfl, hn⟩ | ⟨b, cap, cur, rfl, hbg, hg, h1, h2, h3, h4⟩
  · simp at hn
  · have hr := h.row
    have he : (es ++ [e]).length = es.length + 1 := by simp
    rw [he] at hr
    have hcell : ∀ j u, j < 5 → (kc e)[j]? = some u → w.cell? ⟨b, es.length * 5 + j, none⟩ = some u := fun j u hj hu => by
      have h5 := World.ownsRow.cellAt hr (es.length * 5 + j) (by omega)
      rw [h5, fm_at kc_len (es ++ [e]) es.length e (by simp) j hj]
      exact hu
    exact ⟨b, cap, by rw [he], hbg, blk_lt hg, ⟨hcell 0 _ (by omega) rfl, hcell 1 _ (by omega) rfl, hcell 2 _ (by omega) rfl, hcell 3 _ (by omega) rfl, hcell 4 _ (by omega) rfl⟩, fun j => frozen_of_row w b j cur 44 hg⟩
theorem waits_no (w : World) (ind : Nat) : Calls Tryz.prog 83 #[.agg #[.int .i64 (ind : Int), .slice none 0 0]] w fun e w' => e = .returned (.bool false) ∧ Below w.heap.size w w' := by
  have hx := blk_new w (.cells #[.int .i64 (ind : Int), .slice none 0 0] 63)
  have c1 := cell_of_row _ w.heap.size 1 _ 63 (0, 0) hx
  simp at c1
  clear hx
  go_enter Tryz.func83, Tryz.ntmps83
  go_wp2
  go_ret
  exact ⟨rfl, (Below.refl _ w).alloc (Nat.le_refl _) _⟩
theorem waits_last (w : World) (ind : Nat) {base : Nat} {act : List Value} {q : Value} {es : List E} {e : E} (h : KR w base act q (es ++ [e])) (hl : es.length ≤ 1000) :
    Calls Tryz.prog 83 #[.agg #[.int .i64 (ind : Int), q]] w fun en w' => en = .returned (.bool (e.2.1.k == 0)) ∧ Below w.heap.size w w' := by
  obtain ⟨b, cap, rfl, hbb, hb, hat, hfr⟩ := h.last
  obtain ⟨n, hn⟩ : ∃ n, n = es.length := ⟨_, rfl⟩
  rw [← hn] at hat hl ⊢
  obtain ⟨W, hW⟩ : ∃ W, W = w.alloc (.cells #[.int .i64 (ind : Int), .slice (some ⟨b, 0, none⟩) (n + 1) cap] 63) := ⟨_, rfl⟩
  have hB : Below w.heap.size w W := by rw [hW]; exact (Below.refl _ w).alloc (Nat.le_refl _) _
  have hx : W.heap[w.heap.size]? = some (.cells #[.int .i64 (ind : Int), .slice (some ⟨b, 0, none⟩) (n + 1) cap] 63 (0, 0)) := by rw [hW]; exact blk_new w _
  have c1 := cell_of_row W w.heap.size 1 _ 63 (0, 0) hx
  simp at c1
  have k1 := (hat.keep (hB.block b hb)).c1
  have hbW : b < W.heap.size := Nat.lt_of_lt_of_le hb hB.size
  obtain ⟨z, hz⟩ : ∃ z : Int, (e.2.1.k : Int) = z := ⟨_, rfl⟩
  have hzz : (e.2.1.k == 0) = (z == 0) := by
    rw [← hz]
    cases h : (e.2.1.k == 0) <;> simp at h ⊢ <;> omega
  rw [hz] at k1
  rw [hzz]
  have h0 : (0 : Int) < ((n + 1 : Nat) : Int) := by omega
  have h1 : (0 : Int) ≤ ((n + 1 : Nat) : Int) - 1 := by omega
  have h2 : ((n + 1 : Nat) : Int) - 1 < ((n + 1 : Nat) : Int) := by omega
  have h3 : (((n + 1 : Nat) : Int) - 1) = (n : Int) := by omega
  have HB := Lib.hid hB
  have HW := Lib.hid hW
  clear hat hfr hx hB hn hz hzz h hW
  go_enter Tryz.func83, Tryz.ntmps83
  go_upto_region 1 with (fail)
  rw [← HW.out]
  go_wp2
  go_ret
  exact ⟨rfl, HB.out⟩
end Go.Proofs.YtegobomfhdfodaaGreatDoor
