/- CONF: lives' LITERALS. -/
import Derived.Test.YtegobomfhdfodaaGreatDoorDq
import Derived.Test.YtegobomfhdfodaaGreatDoorDi
import Derived.Test.YtegobomfhdfodaaGreatDoorDb
namespace Go.Proofs.YtegobomfhdfodaaGreatDoor
open Go.RowKit
set_option maxRecDepth 100000
set_option linter.unusedVariables false
set_option linter.unusedSimpArgs false

namespace K
def litB : Nd := .mk 2 [] [[120], [121, 32, 122]] []
def litP : List (T × Nd) := [([97], .mk 0 [] [] [([98], litB)]), ([99], .mk 1 [53, 115] [] [])]
def lit1 : T := [97, 58, 10, 32, 32, 98, 58, 32, 91, 120, 44, 32, 34, 121, 32, 122, 34, 93, 32, 35, 32, 108, 105, 115, 116, 10, 99, 58, 32, 53, 115, 10]
def lit2 : T := [97, 58, 32, 49, 10, 98, 10]
def lit3 : T := [97, 58, 10, 32, 32, 98, 58, 32, 91, 120, 44, 32, 34, 121, 32, 122, 34, 93, 10, 99, 58, 32, 53, 115, 10]
set_option maxHeartbeats 2000000 in
theorem lit_a : parse lit1 = .ok litP := by kernel_rfl
theorem lit_b : parse lit2 = .error (15, 2) := by kernel_rfl
theorem lit_c : meas mil [53, 115] = (5000, 0) := by kernel_rfl
theorem lit_d : meas byt [52, 75, 105, 66] = (4096, 0) := by kernel_rfl
theorem lit_e : get (.mk 0 [] [] litP) [[97], [98]] = some litB := by kernel_rfl
theorem lit_f : print (.mk 0 [] [] litP) = .ok lit3 := by kernel_rfl
end K
end Go.Proofs.YtegobomfhdfodaaGreatDoor

/- CONF: THE WALK OVER lives. -/
namespace Go.Proofs.YtegobomfhdfodaaGreatDoor
open Go.RowKit
set_option maxRecDepth 100000
set_option linter.unusedVariables false
set_option linter.unusedSimpArgs false

abbrev litN : Nd := .mk 0 [] [] K.litP
theorem la_any (W : World) (hT : Tb W) : Calls Tryz.prog 16 #[.string ⟨#[97, 58, 10, 32, 32, 98, 58, 32, 91, 120, 44, 32, 34, 121, 32, 122, 34, 93, 32, 35, 32, 108, 105, 115, 116, 10, 99, 58, 32, 53, 115, 10]⟩] W fun e w' => Below W.heap.size W w' ∧ ∃ ad cap, e = .returned (.tuple #[.agg #[.int .u8 0, .string ⟨#[]⟩, .slice none 0 0, .slice ad 2 cap], .int .i64 0, .int .i64 0]) ∧ Rep Any w' (.slice none 0 0) (.slice ad 2 cap) litN := by
  refine (parse_any W K.lit1 (by decide) hT).mono fun e w' h => ?_
  obtain ⟨hb, hp⟩ := h
  rw [K.lit_a] at hp
  obtain ⟨q, he, hq⟩ := hp
  obtain ⟨ad, cap, rfl, _⟩ := hq.form
  exact ⟨hb, ad, cap, he, Rep.of ⟨by decide, by decide, by decide, by decide⟩ (RepT.nil _ _) (hq.mono fun _ _ _ => trivial)⟩
theorem lb_any (W : World) (ad : Option Addr) (cap : Nat) (hr : Rep Any W (.slice none 0 0) (.slice ad 2 cap) litN) :
    Calls Tryz.prog 19 #[.agg #[.int .u8 0, .string ⟨#[]⟩, .slice none 0 0, .slice ad 2 cap], .slice (some ⟨W.heap.size, 0, none⟩) 2 2] (W.alloc (.cells #[.string ⟨#[97]⟩, .string ⟨#[98]⟩] 9)) fun e w' => Below W.heap.size W w' ∧ ∃ g o cap1 ad2 cap2, e = .returned (.tuple #[.agg #[.int .u8 2, .string ⟨#[]⟩, .slice (some ⟨g, o, none⟩) 2 cap1, .slice ad2 0 cap2], .bool true]) ∧ g < w'.heap.size ∧ w'.cell? ⟨g, o + 1, none⟩ = some (.string ⟨#[121, 32, 122]⟩) := by
  have hB : Below W.heap.size W (W.alloc (.cells #[.string ⟨#[97]⟩, .string ⟨#[98]⟩] 9)) := (Below.refl _ W).alloc (Nat.le_refl _) _
  have hbk := blk_new W (.cells #[.string ⟨#[97]⟩, .string ⟨#[98]⟩] 9)
  have hp : RepT Any (W.alloc (.cells #[.string ⟨#[97]⟩, .string ⟨#[98]⟩] 9)) (.slice (some ⟨W.heap.size, 0, none⟩) 2 2) [[97], [98]] := by
    refine ⟨W.heap.size, 0, ⟨_, 2, rfl, by decide, fun _ => ⟨rfl, trivial, blk_lt hbk⟩⟩, fun i s hi => ?_⟩
    match i, hi with
    | 0, hi => cases hi; exact ⟨cell_of_row _ _ 0 _ 9 (0, 0) hbk, by decide⟩
    | 1, hi => cases hi; exact ⟨cell_of_row _ _ 1 _ 9 (0, 0) hbk, by decide⟩
  refine (get_any _ (.slice none 0 0) (.slice ad 2 cap) _ litN [[97], [98]] (hr.under hB) hp (fun y hy => ?_)).mono fun e w' h => ?_
  · rw [show K.get litN [[97], [98]] = some K.litB from K.lit_e] at hy
    injection hy with hy
    subst hy
    exact clone_leaf K.litB rfl
  · obtain ⟨hb, h⟩ := h
    rw [show K.get litN [[97], [98]] = some K.litB from K.lit_e] at h
    obtain ⟨r1, r2, he, hrep, _⟩ := h
    obtain ⟨ad1, cap1, rfl, _⟩ := hrep.parts.2.1.form
    obtain ⟨ad2, cap2, rfl, _⟩ := hrep.parts.2.2.form
    obtain ⟨g, o, rfl, hg, hc, _⟩ := hrep.parts.2.1.at (i := 1) (y := [121, 32, 122]) rfl
    exact ⟨hB.trans (hb.mono hB.size), g, o, cap1, ad2, cap2, he, hg, hc⟩
theorem lc_any (W : World) : Calls Tryz.prog 10 #[.string ⟨#[53, 115]⟩] W fun e w' => e = .returned (.tuple #[.int .u64 5000, .int .i64 0]) ∧ Below W.heap.size W w' := by
  refine (millis_any [53, 115] (by decide) W).mono fun e w' h => ?_
  rw [K.lit_c] at h
  exact h
theorem ld_any (W : World) : Calls Tryz.prog 12 #[.string ⟨#[52, 75, 105, 66]⟩] W fun e w' => e = .returned (.tuple #[.int .u64 4096, .int .i64 0]) ∧ Below W.heap.size W w' := by
  refine (bytes_any [52, 75, 105, 66] (by decide) W).mono fun e w' h => ?_
  rw [K.lit_d] at h
  exact h
theorem le_any (W : World) (hT : Tb W) : Calls Tryz.prog 16 #[.string ⟨#[97, 58, 32, 49, 10, 98, 10]⟩] W fun e w' => Below W.heap.size W w' ∧ e = .returned (.tuple #[.agg #[.int .u8 0, .string ⟨#[]⟩, .slice none 0 0, .slice none 0 0], .int .i64 15, .int .i64 2]) := by
  refine (parse_any W K.lit2 (by decide) hT).mono fun e w' h => ?_
  obtain ⟨hb, hp⟩ := h
  rw [K.lit_b] at hp
  exact ⟨hb, hp⟩
theorem lpr_any (W : World) (hT : Tb W) (ad : Option Addr) (cap : Nat) (hr : Rep Any W (.slice none 0 0) (.slice ad 2 cap) litN) : Calls Tryz.prog 15 #[.agg #[.int .u8 0, .string ⟨#[]⟩, .slice none 0 0, .slice ad 2 cap]] W fun e w' => Below W.heap.size W w' ∧ e = .returned (.tuple #[.string ⟨#[97, 58, 10, 32, 32, 98, 58, 32, 91, 120, 44, 32, 34, 121, 32, 122, 34, 93, 10, 99, 58, 32, 53, 115, 10]⟩, .int .i64 0]) := by
  refine (print_any W (.slice none 0 0) (.slice ad 2 cap) litN hr hT).mono fun e w' h => ?_
  rw [show K.print litN = .ok K.lit3 from K.lit_f] at h
  exact h
set_option maxHeartbeats 8000000 in
theorem lives_any (w : World) (hT : Tb w) : Calls Tryz.prog 14 #[] w fun e w' => e = .returned (.bool true) ∧ Below w.heap.size w w' := by
  have HT := Lib.hid hT
  clear hT
  go_enter Tryz.func14, Tryz.ntmps14
  go_wp2_with fail
  refine (la_any w HT.out).mono ?_
  rintro e w1 ⟨hb1, ad, cap, rfl, hr1⟩
  obtain ⟨X1, hX⟩ : ∃ X, X = w1.alloc (.cells #[.int .u8 0, .string ⟨#[]⟩, .slice none 0 0, .slice ad 2 cap] 32) := ⟨_, rfl⟩
  have hbX : Below w1.heap.size w1 X1 := by rw [hX]; exact (Below.refl _ w1).alloc (Nat.le_refl _) _
  have hbk1 : X1.heap[w1.heap.size]? = some (.cells #[.int .u8 0, .string ⟨#[]⟩, .slice none 0 0, .slice ad 2 cap] 32 (0, 0)) := by rw [hX]; exact blk_new w1 _
  have H1 := Lib.hid hbk1
  have HB1 := Lib.hid (hb1.trans (hbX.mono hb1.size))
  have HT1 := Lib.hid ((HT.out.under hb1).under hbX)
  have HR1 := Lib.hid (hr1.under hbX)
  obtain ⟨c0, c1, c2, c3⟩ := four hbk1
  have hl1 := blk_lt hbk1
  clear hb1 hbX HT hr1 hbk1
  go_upto_region 2 with (fail)
  rw [← hX]
  clear hX
  go_wp2_with fail
  refine (lb_any X1 ad cap HR1.out).mono ?_
  rintro e w2 ⟨hb2, g, o, cap1, ad2, cap2, rfl, hg, hc⟩
  obtain ⟨X2, hX⟩ : ∃ X, X = w2.alloc (.cells #[.int .u8 2, .string ⟨#[]⟩, .slice (some ⟨g, o, none⟩) 2 cap1, .slice ad2 0 cap2] 32) := ⟨_, rfl⟩
  have hbX : Below w2.heap.size w2 X2 := by rw [hX]; exact (Below.refl _ w2).alloc (Nat.le_refl _) _
  have hbk2 : X2.heap[w2.heap.size]? = some (.cells #[.int .u8 2, .string ⟨#[]⟩, .slice (some ⟨g, o, none⟩) 2 cap1, .slice ad2 0 cap2] 32 (0, 0)) := by rw [hX]; exact blk_new w2 _
  have hb12 : Below X1.heap.size X1 X2 := hb2.trans (hbX.mono hb2.size)
  have H2 := Lib.hid (show X2.heap[w1.heap.size]? = _ ∧ X2.heap[w2.heap.size]? = _ ∧ X2.cell? ⟨g, o + 1, none⟩ = _ ∧ g < X2.heap.size from ⟨blk_under H1.out hb12, hbk2, (cell_block (hbX.block g hg) _).trans hc, Nat.lt_of_lt_of_le hg hbX.size⟩)
  have HB2 := Lib.hid (HB1.out.trans (hb12.mono HB1.out.size))
  have HT2 := Lib.hid (HT1.out.under hb12)
  have HR2 := Lib.hid (HR1.out.under hb12)
  clear hb2 hbX hb12 HT1 HR1 HB1 H1 hbk2 hc hg c0 c1 c2 c3 hl1
  go_upto_region 3 with (fail)
  rw [← hX]
  clear hX
  go_wp2_with fail
  refine (lc_any X2).mono ?_
  rintro e w3 ⟨rfl, hb3⟩
  have HB3 := Lib.hid (HB2.out.trans (hb3.mono HB2.out.size))
  have HT3 := Lib.hid (HT2.out.under hb3)
  have HR3 := Lib.hid (HR2.out.under hb3)
  have H3 := Lib.hid (show w3.heap[w1.heap.size]? = _ ∧ w3.heap[w2.heap.size]? = _ ∧ w3.cell? ⟨g, o + 1, none⟩ = _ ∧ g < w3.heap.size from ⟨blk_under H2.out.1 hb3, blk_under H2.out.2.1 hb3, (cell_block (hb3.block g H2.out.2.2.2) _).trans H2.out.2.2.1, Nat.lt_of_lt_of_le H2.out.2.2.2 hb3.size⟩)
  clear hb3 HB2 HT2 HR2 H2
  go_wp2_with fail
  refine (ld_any w3).mono ?_
  rintro e w4 ⟨rfl, hb3⟩
  have HB4 := Lib.hid (HB3.out.trans (hb3.mono HB3.out.size))
  have HT4 := Lib.hid (HT3.out.under hb3)
  have HR4 := Lib.hid (HR3.out.under hb3)
  have H4 := Lib.hid (show w4.heap[w1.heap.size]? = _ ∧ w4.heap[w2.heap.size]? = _ ∧ w4.cell? ⟨g, o + 1, none⟩ = _ ∧ g < w4.heap.size from ⟨blk_under H3.out.1 hb3, blk_under H3.out.2.1 hb3, (cell_block (hb3.block g H3.out.2.2.2) _).trans H3.out.2.2.1, Nat.lt_of_lt_of_le H3.out.2.2.2 hb3.size⟩)
  clear hb3 HB3 HT3 HR3 H3
  go_wp2_with fail
  refine (le_any w4 HT4.out).mono ?_
  rintro e w5 ⟨hb3, rfl⟩
  obtain ⟨X5, hX⟩ : ∃ X, X = w5.alloc (.cells zero4 32) := ⟨_, rfl⟩
  have hbX : Below w5.heap.size w5 X5 := by rw [hX]; exact (Below.refl _ w5).alloc (Nat.le_refl _) _
  have hb5 : Below w4.heap.size w4 X5 := hb3.trans (hbX.mono hb3.size)
  have HB5 := Lib.hid (HB4.out.trans (hb5.mono HB4.out.size))
  have HT5 := Lib.hid (HT4.out.under hb5)
  have HR5 := Lib.hid (HR4.out.under hb5)
  have hk1 := blk_under H4.out.1 hb5
  have H5 := Lib.hid (show X5.heap[w1.heap.size]? = _ ∧ X5.heap[w2.heap.size]? = _ ∧ X5.cell? ⟨g, o + 1, none⟩ = _ ∧ g < X5.heap.size from ⟨hk1, blk_under H4.out.2.1 hb5, (cell_block (hb5.block g H4.out.2.2.2) _).trans H4.out.2.2.1, Nat.lt_of_lt_of_le H4.out.2.2.2 hb5.size⟩)
  obtain ⟨c0, c1, c2, c3⟩ := four hk1
  have hl1 := blk_lt hk1
  clear hb3 hbX hb5 HB4 HT4 HR4 H4 hk1
  go_upto_region 6 with (fail)
  rw [← hX]
  clear hX
  go_wp2_with fail
  refine (lpr_any X5 HT5.out ad cap HR5.out).mono ?_
  rintro e w6 ⟨hb3, rfl⟩
  have HB6 := Lib.hid (HB5.out.trans (hb3.mono HB5.out.size))
  have hk2 := blk_under H5.out.2.1 hb3
  obtain ⟨d0, d1, d2, d3⟩ := four hk2
  have hl2 := blk_lt hk2
  have hc : w6.cell? ⟨g, o + 1, none⟩ = some (.string ⟨#[121, 32, 122]⟩) := (cell_block (hb3.block g H5.out.2.2.2) _).trans H5.out.2.2.1
  have hg : g < w6.heap.size := Nat.lt_of_lt_of_le H5.out.2.2.2 hb3.size
  clear hb3 HB5 HT5 HR5 H5 hk2 c0 c1 c2 c3
  go_wp2
  refine bodyPost_ret (v := .bool true) (by simp [results, Tryz.results14, go_sem]) rfl ?_
  exact ⟨rfl, HB6.out⟩
end Go.Proofs.YtegobomfhdfodaaGreatDoor
