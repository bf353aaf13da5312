/- CONF: THE WALK OVER ConfOwn. -/
import Derived.Test.YtegobomfhdfodaaGreatDoorEb
import Derived.Test.YtegobomfhdfodaaGreatDoorEc
import Derived.Test.YtegobomfhdfodaaGreatDoorDtb
namespace Go.Proofs.YtegobomfhdfodaaGreatDoor
open Go.RowKit
set_option maxRecDepth 100000
set_option linter.unusedVariables false
set_option linter.unusedSimpArgs false

/-- so many cells of a block, of n0 on, may be written -/
def Wr (n0 : Nat) (W : World) (g o cnt : Nat) : Prop := n0 ≤ g ∧ ∃ cs t, W.heap[g]? = some (.cells cs t (0, 0)) ∧ o + cnt ≤ cs.size
theorem Wr.keep {n0 g o cnt : Nat} {W W' : World} (h : Wr n0 W g o cnt) (e : W'.heap[g]? = W.heap[g]?) : Wr n0 W' g o cnt := by
  obtain ⟨h1, cs, t, h2, h3⟩ := h
  exact ⟨h1, cs, t, e.trans h2, h3⟩
theorem Wr.under {n0 g o cnt : Nat} {W W' : World} (h : Wr n0 W g o cnt) (hb : Below W.heap.size W W') : Wr n0 W' g o cnt := by
  obtain ⟨h1, cs, t, h2, h3⟩ := h
  exact ⟨h1, cs, t, blk_under h2 hb, h3⟩
theorem Wr.set {n0 g o cnt : Nat} {W : World} (h : Wr n0 W g o cnt) (g' i' : Nat) (v : Value) : Wr n0 (W.setCell ⟨g', i', none⟩ v) g o cnt := by
  obtain ⟨h1, cs, t, h2, h3⟩ := h
  by_cases hp : g = g'
  · subst hp
    refine ⟨h1, cs.setIfInBounds i' v, t, ?_, by simpa using h3⟩
    simp [World.setCell, Array.getElem?_modify, h2]
  · exact ⟨h1, cs, t, (Below.heap_setCell W ⟨g', i', none⟩ v g hp).trans h2, h3⟩
theorem Wr.cell {n0 g o cnt : Nat} {W : World} (h : Wr n0 W g o cnt) {j : Nat} (hj : j < cnt) : (∃ u, W.cell? ⟨g, o + j, none⟩ = some u) ∧ W.frozen? ⟨g, o + j, none⟩ = false ∧ g < W.heap.size := by
  obtain ⟨h1, cs, t, h2, h3⟩ := h
  exact ⟨⟨cs[o + j], by rw [cell_of_row W g (o + j) cs t (0, 0) h2]; exact Array.getElem?_eq_getElem (by omega)⟩, frozen_of_row W g (o + j) cs t h2, blk_lt h2⟩
theorem Wr.texts {B : Nat → Prop} {n0 : Nat} {W : World} {ad : Option Addr} {n c : Nat} {l : List K.T} (h : RepT B W (.slice ad n c) l) (hf : FreeS n0 W (.slice ad n c)) (hn : n = l.length) : n = 0 ∨ ∃ g o, ad = some ⟨g, o, none⟩ ∧ Wr n0 W g o n := by
  by_cases h0 : n = 0
  · exact .inl h0
  · obtain ⟨y, hy⟩ := get_at (l := l) (k := n - 1) (by omega)
    obtain ⟨g, o, rfl, hg, hc, _⟩ := h.at hy
    obtain ⟨h1, cs, t, h2⟩ := hf _ _ _ rfl
    have h1 : n0 ≤ g := h1
    have h2 : W.heap[g]? = some (.cells cs t (0, 0)) := h2
    rw [cell_of_row W g (o + (n - 1)) cs t (0, 0) h2] at hc
    have := (Array.getElem?_eq_some_iff.1 hc).1
    exact .inr ⟨g, o, rfl, h1, cs, t, h2, by omega⟩
theorem Wr.keys {B : Nat → Prop} {n0 : Nat} {W : World} {ad : Option Addr} {n c : Nat} {l : List (K.T × Nd)} (h : RepK B W (.slice ad n c) l) (hf : FreeS n0 W (.slice ad n c)) (hn : n = l.length) : n = 0 ∨ ∃ g o, ad = some ⟨g, o, none⟩ ∧ Wr n0 W g o (n * 5) := by
  by_cases h0 : n = 0
  · exact .inl h0
  · obtain ⟨y, hy⟩ := get_at (l := l) (k := n - 1) (by omega)
    obtain ⟨g, o, p1, p2, rfl, hg, ⟨_, _, _, _, hc⟩, _⟩ := h.at hy
    obtain ⟨h1, cs, t, h2⟩ := hf _ _ _ rfl
    have h1 : n0 ≤ g := h1
    have h2 : W.heap[g]? = some (.cells cs t (0, 0)) := h2
    rw [cell_of_row W g (o + (n - 1) * 5 + 4) cs t (0, 0) h2] at hc
    have := (Array.getElem?_eq_some_iff.1 hc).1
    exact .inr ⟨g, o, rfl, h1, cs, t, h2, by omega⟩
/-- what a loop that spoils carries: all below H is as it was, and a box of its own -/
structure OW (H : Nat) (V : World) (g6 : Nat) (z : Nd) (r1 r2 : Value) (wr : World) : Prop where
  bel : Below H V wr
  bx : Box4 wr g6 z r1 r2
theorem OW.set {H : Nat} {V : World} {g6 : Nat} {z : Nd} {r1 r2 : Value} {wr : World} (h : OW H V g6 z r1 r2 wr) (g i : Nat) (hg : H ≤ g) (hne : g6 ≠ g) (v : Value) : OW H V g6 z r1 r2 (wr.setCell ⟨g, i, none⟩ v) :=
  ⟨h.bel.setCell (p := ⟨g, i, none⟩) hg v, (Below.heap_setCell wr ⟨g, i, none⟩ v g6 hne).trans h.bx⟩
theorem Rep.low {B : Nat → Prop} {H : Nat} {w w' : World} {q1 q2 : Value} {x : Nd} (h : Rep B w q1 q2 x) (hB : ∀ g, B g → g < w.heap.size → g < H) (hb : Below H w w') : Rep (fun g => g < H) w' q1 q2 x :=
  (h.mono (B' := fun g => g < H) hB).keep (w' := w') ⟨hb.size, fun g hg _ => hb.block g hg⟩ fun _ h _ => h
set_option maxHeartbeats 8000000 in
theorem own_any {B : Nat → Prop} (w : World) (q1 q2 : Value) (x : Nd) (key : K.T) (hkl : key.length ≤ 140737488353000) (hr : Rep B w q1 q2 x) (hT : Tb w) :
    Calls Tryz.prog 7 #[.agg (nv x q1 q2), S key] w fun e w' => e = .returned (.bool true) ∧ Below w.heap.size w w' := by
  obtain ⟨ad1, cap1, rfl, _⟩ := hr.parts.2.1.form
  obtain ⟨ad2, cap2, rfl, hl2⟩ := hr.parts.2.2.form
  obtain ⟨W, hW⟩ : ∃ W, W = w.alloc (.cells (nv x (.slice ad1 x.l.length cap1) (.slice ad2 x.p.length cap2)) 32) := ⟨_, rfl⟩
  have hF : FW w x (.slice ad1 x.l.length cap1) (.slice ad2 x.p.length cap2) W := by rw [hW]; exact ⟨(Below.refl _ w).alloc (Nat.le_refl _) _, blk_new w _⟩
  have hTW : Tb W := hT.under hF.bel
  have HR := Lib.hid hr
  have HW := Lib.hid hW
  have F1 := Lib.hid hF
  have HTW := Lib.hid hTW
  have HKL := Lib.hid hkl
  clear hr hW hF hTW hT hkl
  go_enter Tryz.func7, Tryz.ntmps7
  go_upto_region 1 with (fail)
  rw [← HW.out]
  go_wp2_with fail
  refine (lives_any W HTW.out).mono ?_
  rintro e w2 ⟨rfl, hb2⟩
  have F2 := Lib.hid (F1.out.under hb2)
  obtain ⟨c0, c1, c2, c3⟩ := four F2.out.bx
  have hl0 := blk_lt F2.out.bx
  clear hb2
  go_wp2_with fail
  refine (copy_any x _ w2 _ _ (F2.out.rep HR.out)).mono ?_
  rintro e w3 ⟨hb3, r1, r2, rfl, hr3⟩
  obtain ⟨a1, e1, rfl, _⟩ := hr3.parts.2.1.form
  obtain ⟨a2, e2, rfl, _⟩ := hr3.parts.2.2.form
  obtain ⟨V, hV⟩ : ∃ V, V = w3.alloc (.cells (nv x (.slice a1 x.l.length e1) (.slice a2 x.p.length e2)) 32) := ⟨_, rfl⟩
  have hbV : Below w3.heap.size w3 V := by rw [hV]; exact (Below.refl _ w3).alloc (Nat.le_refl _) _
  have hbk : Box4 V w3.heap.size x (.slice a1 x.l.length e1) (.slice a2 x.p.length e2) := by rw [hV]; exact blk_new w3 _
  obtain ⟨g5, hg5⟩ : ∃ g, g = w3.heap.size := ⟨_, rfl⟩
  rw [← hg5] at hbk
  have HG5 := Lib.hid hg5
  have FV := Lib.hid ((F2.out.under hb3).under hbV)
  have HB5 := Lib.hid hbk
  have hrV := hr3.under hbV
  have hgo := gets_one V _ _ x key HKL.out hrV
  obtain ⟨z, hz⟩ : ∃ z, K.ans (K.get x [key]) = z := ⟨_, rfl⟩
  obtain ⟨b, hb⟩ : ∃ b, K.is (K.get x [key]) = b := ⟨_, rfl⟩
  rw [hz, hb] at hgo
  have HGO := Lib.hid hgo
  have HRV := Lib.hid hrV
  have HV := Lib.hid hV
  obtain ⟨d0, d1, d2, d3⟩ := four hbk
  have hl5 := blk_lt hbk
  clear hb3 hr3 hV hbV hbk hg5 hrV hgo hz hb c0 c1 c2 c3 hl0
  go_upto_region 4 with (fail)
  rw [← HV.out, ← HG5.out]
  go_wp2_with fail
  refine (HGO.out).mono ?_
  rintro e w4 ⟨hb4, b1, b2, b3, b4, rfl, hr4, hf1, hf2⟩
  obtain ⟨X, hX⟩ : ∃ X, X = w4.alloc (.cells (nv z (.slice b1 z.l.length b2) (.slice b3 z.p.length b4)) 32) := ⟨_, rfl⟩
  have hbX : Below w4.heap.size w4 X := by rw [hX]; exact (Below.refl _ w4).alloc (Nat.le_refl _) _
  have hbk : Box4 X w4.heap.size z (.slice b1 z.l.length b2) (.slice b3 z.p.length b4) := by rw [hX]; exact blk_new w4 _
  obtain ⟨n, hn⟩ : ∃ n, n = z.l.length := ⟨_, rfl⟩
  obtain ⟨m, hm⟩ : ∃ m, m = z.p.length := ⟨_, rfl⟩
  have hww1 := Wr.texts (hr4.parts.2.1) hf1 rfl
  have hww2 := Wr.keys (hr4.parts.2.2) hf2 rfl
  have hcp1 := hr4.parts.2.1
  have hcp2 := hr4.parts.2.2.room
  obtain ⟨g1, o1, ⟨ad', cap', hq1, hq2, _⟩, _⟩ := hcp1
  have hcap1 : z.l.length ≤ b2 ∧ b2 ≤ 9223372036854775807 := by injection hq1 with _ _ e3; omega
  have hww1' : n = 0 ∨ ∃ g o, b1 = some ⟨g, o, none⟩ ∧ Wr V.heap.size X g o n ∧ g ≠ w4.heap.size := by
    rw [hn]
    rcases hww1 with h | ⟨g, o, h1, h2⟩
    · exact .inl h
    · obtain ⟨_, cs, t, h3, _⟩ := id h2
      have := blk_lt h3
      exact .inr ⟨g, o, h1, h2.under hbX, by omega⟩
  have hww2' : m = 0 ∨ ∃ g o, b3 = some ⟨g, o, none⟩ ∧ Wr V.heap.size X g o (m * 5) ∧ g ≠ w4.heap.size := by
    rw [hm]
    rcases hww2 with h | ⟨g, o, h1, h2⟩
    · exact .inl h
    · obtain ⟨_, cs, t, h3, _⟩ := id h2
      have := blk_lt h3
      exact .inr ⟨g, o, h1, h2.under hbX, by omega⟩
  obtain ⟨g6, hg6⟩ : ∃ g, g = w4.heap.size := ⟨_, rfl⟩
  have hg6V : V.heap.size ≤ g6 := by rw [hg6]; exact hb4.size
  rw [← hg6] at hbk hww1' hww2'
  have hOW : OW V.heap.size V g6 z (.slice b1 n b2) (.slice b3 m b4) X := by rw [hn, hm]; exact ⟨hb4.trans (hbX.mono hb4.size), hbk⟩
  rw [← hn] at hcap1 ⊢
  rw [← hm] at hcp2 ⊢
  rw [← hn, ← hm] at hX
  obtain ⟨hc1, hc2⟩ := hcap1
  obtain ⟨hc3, hc4⟩ := hcp2
  have HX := Lib.hid hX
  have HG6 := Lib.hid hg6
  have HOW := Lib.hid hOW
  have HW1 := Lib.hid hww1'
  have HW2 := Lib.hid hww2'
  obtain ⟨c0, c1, c2, c3⟩ := four hOW.bx
  have hl6 := blk_lt hOW.bx
  clear hb4 hr4 hf1 hf2 hX hbX hbk hn hm hww1 hww2 hww1' hww2' hg6 hOW hq1 hq2 d0 d1 d2 d3
  go_upto_region 5 with (fail)
  rw [← HX.out, ← HG6.out]
  go_wp2
  go_loopw [27] (fun i wr => ∃ k : Nat, i = .int .i64 (k : Int) ∧ k ≤ n ∧ OW V.heap.size V g6 z (.slice b1 n b2) (.slice b3 m b4) wr ∧ (n = 0 ∨ ∃ g o, b1 = some ⟨g, o, none⟩ ∧ Wr V.heap.size wr g o n ∧ g ≠ g6) ∧ (m = 0 ∨ ∃ g o, b3 = some ⟨g, o, none⟩ ∧ Wr V.heap.size wr g o (m * 5) ∧ g ≠ g6)) (fun i _ => n - (intOf i).toNat)
  case atStart => exact ⟨0, rfl, Nat.zero_le _, HOW.out, HW1.out, HW2.out⟩
  case round =>
    obtain ⟨k, rfl, hk, hO, hw1, hw2⟩ := hrel
    have HO := Lib.hid hO
    have HWA := Lib.hid hw2
    have HWB := Lib.hid hw1
    obtain ⟨d0, d1, d2, d3⟩ := four hO.bx
    have hl7 := blk_lt hO.bx
    clear hO hw2 hw1 c0 c1 c2 c3
    by_cases hlt : k < n
    · obtain ⟨g, o, hb1, hwr, hne⟩ := HWB.out.resolve_left (by omega)
      subst hb1
      obtain ⟨⟨u, hu⟩, hfz, hgl⟩ := hwr.cell hlt
      have HWC := Lib.hid hwr
      have hk0 : (0 : Int) ≤ (k : Int) := by omega
      have hkn : (k : Int) < (n : Int) := by omega
      have hkc : (k : Int) ≤ (b2 : Int) := by omega
      clear hwr
      go_wp2
      obtain ⟨G, hG⟩ : ∃ G, G = wr.setCell ⟨g, o + k, none⟩ (.string ⟨#[115, 112, 111, 105, 108, 116]⟩) := ⟨_, rfl⟩
      rw [← hG]
      have HOG := Lib.hid (show OW V.heap.size V g6 z _ _ G from by rw [hG]; exact HO.out.set g _ HWC.out.1 hne.symm _)
      have HWCG := Lib.hid (show Wr V.heap.size G g o n from by rw [hG]; exact HWC.out.set _ _ _)
      have HWAG := Lib.hid (show m = 0 ∨ ∃ g o, b3 = some ⟨g, o, none⟩ ∧ Wr V.heap.size G g o (m * 5) ∧ g ≠ g6 from by
        rcases HWA.out with h | ⟨g', o', h1, h2, h3⟩
        · exact .inl h
        · exact .inr ⟨g', o', h1, (by rw [hG]; exact h2.set _ _ _), h3⟩)
      clear hG hu hfz d0 d1 d2 d3
      go_roundw
      case rel => exact ⟨k + 1, by go_num, by omega, HOG.out, .inr ⟨g, o, rfl, HWCG.out, hne⟩, HWAG.out⟩
      case measure => simp [intOf]; omega
    · have hkn : ¬ (k : Int) < (n : Int) := by omega
      obtain ⟨wo, hwo⟩ : ∃ wo, wo = wr := ⟨_, rfl⟩
      clear hwo
      go_wp2
      go_loopw [38] (fun i wr => ∃ k : Nat, i = .int .i64 (k : Int) ∧ k ≤ m ∧ OW V.heap.size V g6 z (.slice b1 n b2) (.slice b3 m b4) wr ∧ (m = 0 ∨ ∃ g o, b3 = some ⟨g, o, none⟩ ∧ Wr V.heap.size wr g o (m * 5) ∧ g ≠ g6)) (fun i _ => m - (intOf i).toNat)
      case atStart => exact ⟨0, rfl, Nat.zero_le _, HO.out, HWA.out⟩
      case round =>
        obtain ⟨j, rfl, hj, hO, hw2⟩ := hrel
        have HO2 := Lib.hid hO
        have HWB2 := Lib.hid hw2
        obtain ⟨f0, f1, f2, f3⟩ := four hO.bx
        have hl8 := blk_lt hO.bx
        clear hO hw2 d0 d1 d2 d3
        by_cases hjm : j < m
        · obtain ⟨g, o, hb1, hwr, hne⟩ := HWB2.out.resolve_left (by omega)
          subst hb1
          obtain ⟨⟨u0, hu0⟩, hz0, hgl⟩ := hwr.cell (j := j * 5) (by omega)
          obtain ⟨⟨u1, hu1⟩, hz1, _⟩ := hwr.cell (j := j * 5 + 1) (by omega)
          obtain ⟨⟨u2, hu2⟩, hz2, _⟩ := hwr.cell (j := j * 5 + 2) (by omega)
          obtain ⟨⟨u3, hu3⟩, hz3, _⟩ := hwr.cell (j := j * 5 + 3) (by omega)
          obtain ⟨⟨u4, hu4⟩, hz4, _⟩ := hwr.cell (j := j * 5 + 4) (by omega)
          simp only [← Nat.add_assoc] at hu1 hu2 hu3 hu4 hz1 hz2 hz3 hz4
          have HWC := Lib.hid hwr
          have hk0 : (0 : Int) ≤ (j : Int) := by omega
          have hjn : (j : Int) < (m : Int) := by omega
          have hkc : (j : Int) ≤ (b4 : Int) := by omega
          clear hwr
          go_wp2
          obtain ⟨G, hG⟩ : ∃ G, G = ((((wr.setCell ⟨g, o + j * 5, none⟩ (.string ⟨#[115, 112, 111, 105, 108, 116]⟩)).setCell ⟨g, o + j * 5 + 1, none⟩ (.int .u8 0)).setCell ⟨g, o + j * 5 + 2, none⟩ (.string ⟨#[]⟩)).setCell ⟨g, o + j * 5 + 3, none⟩ (.slice none 0 0)).setCell ⟨g, o + j * 5 + 4, none⟩ (.slice none 0 0) := ⟨_, rfl⟩
          rw [← hG]
          have HOG := Lib.hid (show OW V.heap.size V g6 z _ _ G from by rw [hG]; exact ((((HO2.out.set g _ HWC.out.1 hne.symm _).set g _ HWC.out.1 hne.symm _).set g _ HWC.out.1 hne.symm _).set g _ HWC.out.1 hne.symm _).set g _ HWC.out.1 hne.symm _)
          have HWCG := Lib.hid (show Wr V.heap.size G g o (m * 5) from by rw [hG]; exact ((((HWC.out.set _ _ _).set _ _ _).set _ _ _).set _ _ _).set _ _ _)
          clear hG hu0 hu1 hu2 hu3 hu4 hz0 hz1 hz2 hz3 hz4 f0 f1 f2 f3
          go_roundw
          case rel => exact ⟨j + 1, by go_num, by omega, HOG.out, .inr ⟨g, o, rfl, HWCG.out, hne⟩⟩
          case measure => simp [intOf]; omega
        · have hjn : ¬ (j : Int) < (m : Int) := by omega
          have hbV := HO2.out.bel
          have hrG : Rep (fun g => g < V.heap.size) wr _ _ x := HRV.out.low (fun g _ h => h) hbV
          obtain ⟨d0, d1, d2, d3⟩ := four (show wr.heap[g5]? = _ from (hbV.block g5 hl5).trans HB5.out)
          have hl9 : g5 < wr.heap.size := Nat.lt_of_lt_of_le hl5 hbV.size
          have hgo : Calls Tryz.prog 19 #[.agg (nv x (.slice a1 x.l.length e1) (.slice a2 x.p.length e2)), .slice none 0 0] wr (AnsR wr x true) := by
            have := gets_any wr _ _ _ x [] hrG (RepT.nil Any wr)
            rw [K.get_nil] at this
            exact this
          have HGO2 := Lib.hid hgo
          have HBV := Lib.hid hbV
          have HRG := Lib.hid hrG
          clear hbV hrG hgo f0 f1 f2 f3
          obtain ⟨wq, hwq⟩ : ∃ wq, wq = wr := ⟨_, rfl⟩
          rw [← hwq] at HGO2 HBV HRG d0 d1 d2 d3 hl9 ⊢
          clear hwq
          go_wp2_with fail
          refine (HGO2.out).mono ?_
          rintro e w5 ⟨hb5, t1, t2, t3, t4, rfl, hr5, _, hf2⟩
          obtain ⟨Y, hY⟩ : ∃ Y, Y = w5.alloc (.cells (nv x (.slice t1 x.l.length t2) (.slice t3 x.p.length t4)) 32) := ⟨_, rfl⟩
          have hbY : Below w5.heap.size w5 Y := by rw [hY]; exact (Below.refl _ w5).alloc (Nat.le_refl _) _
          have hbk : Box4 Y w5.heap.size x (.slice t1 x.l.length t2) (.slice t3 x.p.length t4) := by rw [hY]; exact blk_new w5 _
          have hww := Wr.keys (hr5.parts.2.2) hf2 rfl
          obtain ⟨hc5, hc6⟩ := hr5.parts.2.2.room
          obtain ⟨p, hp⟩ : ∃ p, p = x.p.length := ⟨_, rfl⟩
          have hww' : p = 0 ∨ ∃ g o, t3 = some ⟨g, o, none⟩ ∧ Wr wq.heap.size Y g o (p * 5) ∧ g ≠ w5.heap.size := by
            rw [hp]
            rcases hww with h | ⟨g, o, h1, h2⟩
            · exact .inl h
            · obtain ⟨_, cs, t, h3, _⟩ := id h2
              have := blk_lt h3
              exact .inr ⟨g, o, h1, h2.under hbY, by omega⟩
          obtain ⟨gb, hgb⟩ : ∃ g, g = w5.heap.size := ⟨_, rfl⟩
          rw [← hgb] at hbk hww'
          rw [← hp] at hbk hc5 hY
          have HYO := Lib.hid (show OW wq.heap.size wq gb x (.slice t1 x.l.length t2) (.slice t3 p t4) Y from ⟨hb5.trans (hbY.mono hb5.size), hbk⟩)
          have HYW := Lib.hid hww'
          have HY := Lib.hid hY
          have HGB := Lib.hid hgb
          have HPE := Lib.hid hp
          obtain ⟨v0, v1, v2, v3⟩ := four hbk
          have hlb := blk_lt hbk
          clear hb5 hr5 hf2 hY hbY hbk hww hww' hgb d0 d1 d2 d3
          go_upto_region 16 with (fail)
          rw [← HPE.out, ← HY.out, ← HGB.out]
          clear hp
          go_wp2
          go_loopw [55] (fun i wr => ∃ k : Nat, i = .int .i64 (k : Int) ∧ k ≤ p ∧ OW wq.heap.size wq gb x (.slice t1 x.l.length t2) (.slice t3 p t4) wr ∧ (p = 0 ∨ ∃ g o, t3 = some ⟨g, o, none⟩ ∧ Wr wq.heap.size wr g o (p * 5) ∧ g ≠ gb)) (fun i _ => p - (intOf i).toNat)
          case atStart => exact ⟨0, rfl, Nat.zero_le _, HYO.out, HYW.out⟩
          case round =>
            obtain ⟨i, rfl, hi, hO, hw2⟩ := hrel
            have HO3 := Lib.hid hO
            have HWB3 := Lib.hid hw2
            obtain ⟨f0, f1, f2, f3⟩ := four hO.bx
            have hlc := blk_lt hO.bx
            clear hO hw2 v0 v1 v2 v3
            by_cases hip : i < p
            · obtain ⟨g, o, hb1, hwr, hne⟩ := HWB3.out.resolve_left (by omega)
              subst hb1
              obtain ⟨⟨u1, hu1⟩, hz1, hgl⟩ := hwr.cell (j := i * 5 + 1) (by omega)
              obtain ⟨⟨u2, hu2⟩, hz2, _⟩ := hwr.cell (j := i * 5 + 2) (by omega)
              obtain ⟨⟨u3, hu3⟩, hz3, _⟩ := hwr.cell (j := i * 5 + 3) (by omega)
              obtain ⟨⟨u4, hu4⟩, hz4, _⟩ := hwr.cell (j := i * 5 + 4) (by omega)
              simp only [show i * 5 + 2 = i * 5 + 1 + 1 from rfl, show i * 5 + 3 = i * 5 + 1 + 2 from rfl, show i * 5 + 4 = i * 5 + 1 + 3 from rfl, ← Nat.add_assoc] at hu1 hu2 hu3 hu4 hz1 hz2 hz3 hz4
              have HWC := Lib.hid hwr
              have hk0 : (0 : Int) ≤ (i : Int) := by omega
              have hin : (i : Int) < (p : Int) := by omega
              have hkc : (i : Int) ≤ (t4 : Int) := by omega
              clear hwr
              go_wp2
              obtain ⟨G, hG⟩ : ∃ G, G = (((wr.setCell ⟨g, o + i * 5 + 1, none⟩ (.int .u8 1)).setCell ⟨g, o + i * 5 + 1 + 1, none⟩ (.string ⟨#[115, 112, 111, 105, 108, 116]⟩)).setCell ⟨g, o + i * 5 + 1 + 2, none⟩ (.slice none 0 0)).setCell ⟨g, o + i * 5 + 1 + 3, none⟩ (.slice none 0 0) := ⟨_, rfl⟩
              rw [← hG]
              have HOG := Lib.hid (show OW wq.heap.size wq gb x _ _ G from by rw [hG]; exact (((HO3.out.set g _ HWC.out.1 hne.symm _).set g _ HWC.out.1 hne.symm _).set g _ HWC.out.1 hne.symm _).set g _ HWC.out.1 hne.symm _)
              have HWCG := Lib.hid (show Wr wq.heap.size G g o (p * 5) from by rw [hG]; exact (((HWC.out.set _ _ _).set _ _ _).set _ _ _).set _ _ _)
              clear hG hu1 hu2 hu3 hu4 hz1 hz2 hz3 hz4 f0 f1 f2 f3
              go_roundw
              case rel => exact ⟨i + 1, by go_num, by omega, HOG.out, .inr ⟨g, o, rfl, HWCG.out, hne⟩⟩
              case measure => simp [intOf]; omega
            · have hin : ¬ (i : Int) < (p : Int) := by omega
              have hbq := HO3.out.bel
              have hbw : Below V.heap.size V wr := HBV.out.trans (hbq.mono HBV.out.size)
              have FE : FW w x (.slice ad1 x.l.length cap1) (.slice ad2 x.p.length cap2) wr := ⟨FV.out.bel.trans (hbw.mono FV.out.bel.size), (hbw.block _ (blk_lt FV.out.bx)).trans FV.out.bx⟩
              have hs := same_yes x _ _ wr _ _ _ _ (HRG.out.low (fun g h _ => Nat.lt_of_lt_of_le h HBV.out.size) hbq) (FE.rep HR.out)
              obtain ⟨d0, d1, d2, d3⟩ := four (show wr.heap[g5]? = _ from (hbw.block g5 hl5).trans HB5.out)
              have hla : g5 < wr.heap.size := Nat.lt_of_lt_of_le hl5 hbw.size
              obtain ⟨s0, s1, s2, s3⟩ := four FE.bx
              have hlw := blk_lt FE.bx
              rw [← HPE.out] at hs d3 s3
              have HS := Lib.hid hs
              have HFE := Lib.hid FE
              clear hbq hbw hs FE f0 f1 f2 f3
              go_wp2_with fail
              refine (HS.out).mono ?_
              rintro e w7 ⟨rfl, hb7⟩
              have F7 := Lib.hid (HFE.out.under hb7)
              clear hb7 d0 d1 d2 d3 s0 s1 s2 s3
              go_wp2
              refine bodyPost_ret (v := .bool true) (by simp [results, Tryz.results7, go_sem]) rfl ?_
              exact ⟨rfl, F7.out.bel⟩
theorem own_str {B : Nat → Prop} (w : World) (q1 q2 : Value) (x : Nd) (s : ByteArray) (hs : s.size ≤ 140737488353000) (hr : Rep B w q1 q2 x) (hT : Tb w) :
    Calls Tryz.prog 7 #[.agg (nv x q1 q2), .string s] w fun e w' => e = .returned (.bool true) ∧ Below w.heap.size w w' := by
  obtain ⟨h1, h2⟩ := text_of s
  rw [h1]
  exact own_any w q1 q2 x s.toList (by omega) hr hT
end Go.Proofs.YtegobomfhdfodaaGreatDoor
