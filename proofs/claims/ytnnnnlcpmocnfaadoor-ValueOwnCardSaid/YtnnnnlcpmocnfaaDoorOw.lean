/- THE LAW ValueOwn, WALKED. -/
import Derived.Test.YtnnnnlcpmocnfaaDoorLaw0
import Derived.Outline
import Derived.WalkLawsBesides
import Derived.Deep.RegionLaw
import Derived.Deep.RegionHeld3
namespace Go.Proofs.YtnnnnlcpmocnfaaDoor
open Go.RowKit
set_option linter.unusedVariables false
set_option linter.unusedSimpArgs false
attribute [local go_sem] run_store_float


/-- where the spoiling stands: what lies outside of the inner lists is as it was, those are as long as they were -/
structure Sp (W wr : World) (base top : Nat) (g : Option Nat) : Prop where
  bel : Below base W wr
  size : wr.heap.size = W.heap.size
  keep : ∀ j, (j < base ∨ top ≤ j ∨ g = some j) → wr.heap[j]? = W.heap[j]?
  cells : ∀ (j : Nat) cs t fr, W.heap[j]? = some (.cells cs t fr) → ∃ cs', wr.heap[j]? = some (.cells cs' t fr) ∧ cs'.size = cs.size
theorem Sp.refl (W : World) (base top : Nat) (g : Option Nat) : Sp W W base top g := ⟨Below.refl _ _, rfl, fun _ _ => rfl, fun j cs t fr h => ⟨cs, h, rfl⟩⟩
theorem Sp.set {W wr : World} {base top : Nat} {g : Option Nat} (h : Sp W wr base top g) {a : Addr} (u : Value) (hj : base ≤ a.block ∧ a.block < top ∧ g ≠ some a.block) (hs : a.spot = none) : Sp W (wr.setCell a u) base top g := by
  refine ⟨h.bel.setCell hj.1 u, by simp [World.setCell, h.size], fun j hk => ?_, fun j cs t fr hb => ?_⟩
  · refine (Below.heap_setCell wr a u j ?_).trans (h.keep j hk)
    rintro rfl
    rcases hk with hk | hk | hk
    · omega
    · omega
    · exact hj.2.2 hk
  · obtain ⟨cs', h1, h2⟩ := h.cells j cs t fr hb
    by_cases e : j = a.block
    · subst e
      refine ⟨cs'.setIfInBounds a.off u, ?_, by simp [h2]⟩
      have hlt := lt_of_block h1
      have h' : wr.heap[a.block] = .cells cs' t fr := by simpa [Array.getElem?_eq_getElem hlt] using h1
      show (wr.heap.modify a.block _)[a.block]? = _
      rw [Array.getElem?_eq_getElem (by simpa using hlt), Array.getElem_modify_self, h']
      simp [hs]
    · exact ⟨cs', (Below.heap_setCell wr a u j e).trans h1, h2⟩
theorem Sp.has {W wr : World} {base top : Nat} {g : Option Nat} (h : Sp W wr base top g) {j o : Nat} {u : Value} (hc : W.cell? ⟨j, o, none⟩ = some u) (hf : Free W j) : ∃ u', wr.cell? ⟨j, o, none⟩ = some u' := by
  obtain ⟨cs, t, hb⟩ := hf
  obtain ⟨cs', h1, h2⟩ := h.cells j cs t _ hb
  rw [cell_of_row W j o cs t (0, 0) hb] at hc
  have hlt : o < cs.size := (Array.getElem?_eq_some_iff.1 hc).1
  exact ⟨cs'[o]'(by omega), by rw [cell_of_row wr j o cs' t (0, 0) h1]; simp [h2, hlt]⟩
theorem Sp.free {W wr : World} {base top : Nat} {g : Option Nat} (h : Sp W wr base top g) {j : Nat} (hf : Free W j) (o : Nat) : wr.frozen? ⟨j, o, none⟩ = false := by
  obtain ⟨cs, t, hb⟩ := hf
  obtain ⟨cs', h1, _⟩ := h.cells j cs t _ hb
  exact frozen_of_row wr j o cs' t h1

/-- element k of a list that may be written -/
theorem RepL.place {S : Nat → Prop} {w : World} {ad : Option Addr} {m cap : Nat} {l : List V} (h : RepL S w (.slice ad m cap) l) {i : Nat} {y : V} (hi : l[i]? = some y) :
    ∃ g o c d, ad = some ⟨g, o, none⟩ ∧ S g ∧ g < w.heap.size ∧ At7 w g (o + i * 7) y c d := by
  obtain ⟨g, o, c, d, ⟨ad', cap', h1, _, h3⟩, h⟩ := h
  injection h1 with e1 e2 e3
  obtain ⟨e, hs, hg⟩ := h3 (Nat.lt_of_le_of_lt (Nat.zero_le i) (lt_of_get hi))
  exact ⟨g, o, c i, d i, e1.trans e, hs, hg, (h i y hi).1⟩
theorem RepP.place {S : Nat → Prop} {w : World} {ad : Option Addr} {m cap : Nat} {l : List (ByteArray × V)} (h : RepP S w (.slice ad m cap) l) {i : Nat} {y : ByteArray × V} (hi : l[i]? = some y) :
    ∃ g o c d, ad = some ⟨g, o, none⟩ ∧ S g ∧ g < w.heap.size ∧ At8 w g (o + i * 8) y.1 y.2 c d := by
  obtain ⟨g, o, c, d, ⟨ad', cap', h1, _, h3⟩, h⟩ := h
  injection h1 with e1 e2 e3
  obtain ⟨e, hs, hg⟩ := h3 (Nat.lt_of_le_of_lt (Nat.zero_le i) (lt_of_get hi))
  exact ⟨g, o, c i, d i, e1.trans e, hs, hg, (h i y hi).1⟩
theorem low {w : World} {q : Value} {l : List (ByteArray × V)} (h : RepP Any w q l) : RepP (fun j => j < w.heap.size) w q l := h.keep (Kept.of_below (Below.refl _ _) _) fun _ _ hl => hl
theorem lowV {w : World} {q1 q2 : Value} {x : V} (h : Rep Any w q1 q2 x) : Rep (fun j => j < w.heap.size) w q1 q2 x := h.keep (Kept.of_below (Below.refl _ _) _) fun _ _ hl => hl

set_option maxRecDepth 100000 in
set_option maxHeartbeats 16000000 in
/-- one value stored over a place of a list -/
theorem sp_value {W wr : World} {base top g1 o : Nat} {g : Option Nat} (h : Sp W wr base top g) (hj : base ≤ g1 ∧ g1 < top ∧ g ≠ some g1) (u0 u1 u2 u3 u4 u5 u6 : Value) :
    Sp W (((((((wr.setCell ⟨g1, o, none⟩ u0).setCell ⟨g1, o + 1, none⟩ u1).setCell ⟨g1, o + 2, none⟩ u2).setCell ⟨g1, o + 3, none⟩ u3).setCell ⟨g1, o + 4, none⟩ u4).setCell ⟨g1, o + 5, none⟩ u5).setCell ⟨g1, o + 6, none⟩ u6) base top g :=
  ((((((h.set (a := ⟨g1, o, none⟩) u0 hj rfl).set (a := ⟨g1, o + 1, none⟩) u1 hj rfl).set (a := ⟨g1, o + 2, none⟩) u2 hj rfl).set (a := ⟨g1, o + 3, none⟩) u3 hj rfl).set (a := ⟨g1, o + 4, none⟩) u4 hj rfl).set (a := ⟨g1, o + 5, none⟩) u5 hj rfl).set (a := ⟨g1, o + 6, none⟩) u6 hj rfl

set_option maxRecDepth 100000 in
set_option maxHeartbeats 16000000 in
theorem own_walk (l : List (ByteArray × V)) (key : ByteArray) (x : V) (hl112 : l.length * 112 ≤ 140737488351232) (hk1 : key.size ≤ 140737488353000) (w : World) (q q1 q2 : Value) (hq : RepP Any w q l) (hx : Rep Any w q1 q2 x) :
    Calls Tryd.prog 11 #[q, .string key, .agg (cv x q1 q2)] w fun e w' => e = .returned (.bool true) ∧ Below w.heap.size w w' := by
  obtain ⟨a1, c1, rfl, _⟩ := hx.parts.2.1.form
  obtain ⟨a2, c2, rfl, _⟩ := hx.parts.2.2.form
  obtain ⟨aq, cq, rfl, _⟩ := hq.form
  obtain ⟨W0, hW0⟩ : ∃ W0, W0 = w.alloc (.cells (cv x (.slice a1 x.l.length c1) (.slice a2 x.p.length c2)) 27) := ⟨_, rfl⟩
  have hb0 : Below w.heap.size w W0 := by rw [hW0]; exact al w _
  have Hl0 := Lib.hid (hq.under hb0)
  have Hx0 := Lib.hid (hx.under hb0)
  have Bx0 := Lib.hid (show Box W0 w.heap.size x _ _ by rw [hW0]; exact Box.new w x (.slice a1 x.l.length c1) (.slice a2 x.p.length c2))
  have HW0 := Lib.hid hW0
  have Hbel0 := Lib.hid hb0
  have H112 := Lib.hid hl112
  have Hk1 := Lib.hid hk1
  clear hW0 hb0 hq hx hl112 hk1
  go_enter Tryd.func11, Tryd.ntmps11
  go_wp2_with fail
  rw [← HW0.out]
  refine (lives_any _).mono ?_
  rintro e W1 ⟨rfl, hb1⟩
  have Hl1 := Lib.hid (Hl0.out.under hb1)
  have Hx1 := Lib.hid (Hx0.out.under hb1)
  have Bx1 := Lib.hid (Bx0.out.under hb1)
  have Hbel1 := Lib.hid (Hbel0.out.trans (hb1.mono Hbel0.out.size))
  clear Hl0 Hx0 Bx0 Hbel0 hb1
  go_wp2_with fail
  refine (copyp_is (rcopyPairs_any l) Hl1.out (by have := H112.out; omega)).mono ?_
  rintro e W2 ⟨ag, cg, rfl, hgv, hb2⟩
  have Hl2 := Lib.hid (Hl1.out.under hb2)
  have Hx2 := Lib.hid (Hx1.out.under hb2)
  have Bx2 := Lib.hid (Bx1.out.under hb2)
  have Hbel2 := Lib.hid (Hbel1.out.trans (hb2.mono Hbel1.out.size))
  have Hv2 := Lib.hid hgv
  clear Hl1 Hx1 Bx1 Hbel1 hgv hb2
  obtain ⟨k0, k1, k2, k3, k4, k5, k6⟩ := Bx2.out.at
  go_wp2_with fail
  clear k0 k1 k2 k3 k4 k5 k6
  refine (put_any _ _ _ _ _ _ _ Hv2.out (by have := H112.out; omega) Hk1.out Hx2.out).mono ?_
  rintro e W3 ⟨va, es, rfl, hrow, hes, hb3⟩
  have Hl3 := Lib.hid (Hl2.out.under hb3)
  have Hx3 := Lib.hid (Hx2.out.under hb3)
  have Bx3 := Lib.hid (Bx2.out.under hb3)
  have Hv3 := Lib.hid (Hv2.out.under hb3)
  have Hb3 := Lib.hid hb3
  have Hrow3 := Lib.hid hrow
  have Hes := Lib.hid hes
  clear hb3 hrow hes
  obtain ⟨k0, k1, k2, k3, k4, k5, k6⟩ := Bx3.out.at
  go_wp2_with fail
  clear k0 k1 k2 k3 k4 k5 k6
  refine (put_any _ _ _ _ _ _ _ Hv3.out (by have := H112.out; omega) Hk1.out Hx3.out).mono ?_
  rintro e W ⟨vb, esb, rfl, hrow, hesb, hb4⟩
  have Hb4 := Lib.hid hb4
  have Hrow4 := Lib.hid (Hrow3.out.under hb4)
  have hlb : esb.length ≤ 9223372036854775807 := by
    have h1 : esb.length = (esb.map kv).length := by simp
    rw [hesb] at h1
    have h2 := putIn_len key x l
    have := H112.out
    omega
  have hdb := hrow.data hlb
  rw [hesb] at hdb
  obtain ⟨adb, capb, rfl, _⟩ := hdb.form
  have Hd := Lib.hid hdb
  obtain ⟨ada, capa, rfl⟩ := Hrow4.out.form
  obtain ⟨n, hn⟩ : ∃ n, n = es.length := ⟨_, rfl⟩
  have hn63 : n ≤ 9223372036854775807 := by
    have h1 : es.length = (es.map kv).length := by simp
    rw [Hes.out] at h1
    have h2 := putIn_len key x l
    have := H112.out
    omega
  have hrow4 := Hrow4.out
  have hlt3 : ∀ g, (Value.slice ada es.length capa).ownBlock = some g → W2.heap.size ≤ g ∧ g < W3.heap.size := fun g hg => Hrow3.out.lt g hg
  rw [← hn] at hrow4 hlt3 ⊢
  have Hrow := Lib.hid hrow4
  have Hlt3 := Lib.hid hlt3
  have Hn := Lib.hid hn
  have Hrep3 := Lib.hid Hrow3.out.rep
  clear hb4 hrow hesb hlb hdb hrow4 hlt3 hn Hrow4 Hrow3
  obtain ⟨nb, hnb⟩ : ∃ nb, nb = (putIn l key x).length := ⟨_, rfl⟩
  rw [← hnb] at Hd ⊢
  go_wp2
  go_loopw [27] (fun i wr => ∃ (k : Nat), i = .int .i64 (k : Int) ∧ k ≤ n ∧ Go.RowKit.Hid (Sp W wr W2.heap.size W3.heap.size (Value.slice ada n capa).ownBlock)) (fun i _ => n - (intOf i).toNat)
  case atStart => exact ⟨0, rfl, by omega, Sp.refl _ _ _ _⟩
  case round =>
    obtain ⟨k, rfl, hk, hsp⟩ := hrel
    have Hsp := Lib.hid hsp.out
    clear hsp
    by_cases hlt : k < n
    · obtain ⟨e, he⟩ := get_at' (l := es) (k := k) (by rw [← Hn.out]; exact hlt)
      obtain ⟨g, cap', hv, hgb, hgl⟩ := Hrow.out.own (List.ne_nil_of_mem (List.mem_of_getElem? he))
      injection hv with hv1 hv2 hv3
      subst hv1
      have hk0 : (0 : Int) ≤ (k : Int) := by omega
      have hkn : (k : Int) < (n : Int) := by omega
      have hcell : ∀ j u, j < 8 → (pc e)[j]? = some u → W.cell? ⟨g, k * 8 + j, none⟩ = some u := fun j u hj hu => by
        have := World.ownsRow.cells Hrow.out.row (g := g) rfl (k * 8 + j) u (by rw [fm_at pc_len es k e he j hj]; exact hu)
        rwa [show (⟨g, 0, none⟩ : Addr).add (k * 8 + j) = ⟨g, k * 8 + j, none⟩ by unfold Addr.add; split <;> simp_all] at this
      have hrep := Hrep3.out e (List.mem_of_getElem? he)
      obtain ⟨ky, y, r1, r2⟩ := e
      dsimp only at hrep
      obtain ⟨ad1, cap1, rfl, hl1⟩ := hrep.parts.2.1.form
      obtain ⟨ad2, cap2, rfl, hl2⟩ := hrep.parts.2.2.form
      have h6 : W.cell? ⟨g, k * 8 + 6, none⟩ = some (.slice ad1 y.l.length cap1) := hcell 6 _ (by omega) rfl
      have h7 : W.cell? ⟨g, k * 8 + 7, none⟩ = some (.slice ad2 y.p.length cap2) := hcell 7 _ (by omega) rfl
      have H6 := Lib.hid h6
      have H7 := Lib.hid h7
      have Hrl := Lib.hid hrep.parts.2.1
      have Hrp := Lib.hid hrep.parts.2.2
      obtain ⟨m1, hm1⟩ : ∃ m, m = y.l.length := ⟨_, rfl⟩
      obtain ⟨m2, hm2⟩ : ∃ m, m = y.p.length := ⟨_, rfl⟩
      rw [← hm1] at H6 Hrl hl1
      rw [← hm2] at H7 Hrp hl2
      have Hm1 := Lib.hid hm1
      have Hm2 := Lib.hid hm2
      have i6 : wr.cell? ⟨g, k * 8 + 6, none⟩ = some (.slice ad1 m1 cap1) := (cell_block (Hsp.out.keep g (.inr (.inr rfl))) _).trans H6.out
      clear hcell he hrep h6 h7 hm1 hm2 hgb hgl hv2 hv3
      go_wp2
      clear i6
      obtain ⟨wo, hwo⟩ : ∃ wo : World, wo = wr := ⟨_, rfl⟩
      rw [← hwo]
      have Hspo := Lib.hid (show Sp W wo _ _ _ by rw [hwo]; exact Hsp.out)
      clear hwo Hsp
      go_loopw [37] (fun i wi => ∃ (j : Nat), i = .int .i64 (j : Int) ∧ j ≤ m1 ∧ Go.RowKit.Hid (Sp W wi W2.heap.size W3.heap.size (Value.slice (some ⟨g, 0, none⟩) n capa).ownBlock)) (fun i _ => m1 - (intOf i).toNat)
      case atStart => exact ⟨0, rfl, by omega, Hspo.out⟩
      case round =>
        obtain ⟨j, rfl, hj, hsp⟩ := hrel
        have Hsp := Lib.hid hsp.out
        clear hsp
        have hj0 : (0 : Int) ≤ (j : Int) := by omega
        by_cases hjt : j < m1
        · obtain ⟨z, hz⟩ := get_at' (l := y.l) (k := j) (by rw [← Hm1.out]; exact hjt)
          obtain ⟨g1, o1, c, d, rfl, hS, hg1, hat⟩ := Hrl.out.place hz
          have hat' := hat.keep (Hb4.out.block g1 hg1)
          have hfr : Free W g1 := hS.2.2.keep (Hb4.out.block g1 hg1)
          have Hin := Lib.hid (show W2.heap.size ≤ g1 ∧ g1 < W3.heap.size ∧ (Value.slice (some ⟨g, 0, none⟩) n capa).ownBlock ≠ some g1 from ⟨hS.1, hg1, hS.2.1⟩)
          obtain ⟨u0, t0⟩ := Hsp.out.has hat'.c0 hfr
          obtain ⟨u1, t1⟩ := Hsp.out.has hat'.c1 hfr
          obtain ⟨u2, t2⟩ := Hsp.out.has hat'.c2 hfr
          obtain ⟨u3, t3⟩ := Hsp.out.has hat'.c3 hfr
          obtain ⟨u4, t4⟩ := Hsp.out.has hat'.c4 hfr
          obtain ⟨u5, t5⟩ := Hsp.out.has hat'.c5 hfr
          obtain ⟨u6, t6⟩ := Hsp.out.has hat'.c6 hfr
          have f0 := Hsp.out.free hfr (o1 + j * 7)
          have f1 := Hsp.out.free hfr (o1 + j * 7 + 1)
          have f2 := Hsp.out.free hfr (o1 + j * 7 + 2)
          have f3 := Hsp.out.free hfr (o1 + j * 7 + 3)
          have f4 := Hsp.out.free hfr (o1 + j * 7 + 4)
          have f5 := Hsp.out.free hfr (o1 + j * 7 + 5)
          have f6 := Hsp.out.free hfr (o1 + j * 7 + 6)
          have i6 := (cell_block (Hsp.out.keep g (.inr (.inr rfl))) (k * 8 + 6)).trans H6.out
          have hjm : (j : Int) < (m1 : Int) := by omega
          clear hat hat' hfr hS hg1 hz
          go_wp2
          go_roundw
          case rel => exact ⟨j + 1, by go_num, by omega, sp_value Hsp.out Hin.out _ _ _ _ _ _ _⟩
          case measure => simp [intOf]; omega
        · have i7 := (cell_block (Hsp.out.keep g (.inr (.inr rfl))) (k * 8 + 7)).trans H7.out
          go_wp2
          clear i7
          obtain ⟨wp, hwp⟩ : ∃ wp : World, wp = wr := ⟨_, rfl⟩
          rw [← hwp]
          have Hspp := Lib.hid (show Sp W wp _ _ _ by rw [hwp]; exact Hsp.out)
          clear hwp Hsp
          go_loopw [57] (fun i wi => ∃ (j : Nat), i = .int .i64 (j : Int) ∧ j ≤ m2 ∧ Go.RowKit.Hid (Sp W wi W2.heap.size W3.heap.size (Value.slice (some ⟨g, 0, none⟩) n capa).ownBlock)) (fun i _ => m2 - (intOf i).toNat)
          case atStart => exact ⟨0, rfl, by omega, Hspp.out⟩
          case round =>
            obtain ⟨j2, rfl, hj2, hsp⟩ := hrel
            have Hsp := Lib.hid hsp.out
            clear hsp
            have hj20 : (0 : Int) ≤ (j2 : Int) := by omega
            by_cases hjt2 : j2 < m2
            · obtain ⟨z, hz⟩ := get_at' (l := y.p) (k := j2) (by rw [← Hm2.out]; exact hjt2)
              obtain ⟨g1, o1, c, d, rfl, hS, hg1, hat⟩ := Hrp.out.place hz
              have hat' := hat.keep (Hb4.out.block g1 hg1)
              have hfr : Free W g1 := hS.2.2.keep (Hb4.out.block g1 hg1)
              have Hin := Lib.hid (show W2.heap.size ≤ g1 ∧ g1 < W3.heap.size ∧ (Value.slice (some ⟨g, 0, none⟩) n capa).ownBlock ≠ some g1 from ⟨hS.1, hg1, hS.2.1⟩)
              obtain ⟨u0, t0⟩ := Hsp.out.has hat'.c0 hfr
              have f0 := Hsp.out.free hfr (o1 + j2 * 8)
              have i7 := (cell_block (Hsp.out.keep g (.inr (.inr rfl))) (k * 8 + 7)).trans H7.out
              have hjm : (j2 : Int) < (m2 : Int) := by omega
              clear hat hat' hfr hS hg1 hz
              go_wp2
              go_roundw
              case rel => exact ⟨j2 + 1, by go_num, by omega, Hsp.out.set (a := ⟨g1, _, none⟩) _ Hin.out rfl⟩
              case measure => simp [intOf]; omega
            · go_wp2
              go_roundw
              case rel => exact ⟨k + 1, by go_num, by omega, Hsp.out⟩
              case measure => simp [intOf]; omega
    · have hkeep := Hsp.out.keep
      have hsz := Hsp.out.size
      have hbx : Box wr w.heap.size x (.slice a1 x.l.length c1) (.slice a2 x.p.length c2) := (hkeep _ (.inl (lt_of_block Bx2.out))).trans ((Hb4.out.block _ (Nat.lt_of_lt_of_le (lt_of_block Bx2.out) Hb3.out.size)).trans ((Hb3.out.block _ (lt_of_block Bx2.out)).trans Bx2.out))
      have k4 : ∀ j, j < W2.heap.size → wr.heap[j]? = W2.heap[j]? := fun j hj => (hkeep j (.inl hj)).trans ((Hb4.out.block j (Nat.lt_of_lt_of_le hj Hb3.out.size)).trans (Hb3.out.block j hj))
      have s24 : W2.heap.size ≤ wr.heap.size := by have := Hb3.out.size; have := Hb4.out.size; omega
      have Hg' := Lib.hid ((low Hv2.out).keep (w' := wr) (S' := Any) ⟨s24, fun j hj _ => k4 j hj⟩ fun _ _ _ => trivial)
      have Hl' := Lib.hid ((low Hl2.out).keep (w' := wr) (S' := Any) ⟨s24, fun j hj _ => k4 j hj⟩ fun _ _ _ => trivial)
      have Hx' := Lib.hid ((lowV Hx2.out).keep (w' := wr) (S' := Any) ⟨s24, fun j hj _ => k4 j hj⟩ fun _ _ _ => trivial)
      have Hd' := Lib.hid (Hd.out.keep (w' := wr) (S' := Any) ⟨by omega, fun j hj _ => hkeep j (.inr (.inl hj.1))⟩ fun _ _ _ => trivial)
      have Hnb := Lib.hid hnb
      have Hbelr := Lib.hid (Hbel2.out.trans (show Below w.heap.size W2 wr from ⟨Hsp.out.bel.os.trans (Hb4.out.os.trans Hb3.out.os), Hsp.out.bel.tape.trans (Hb4.out.tape.trans Hb3.out.tape), Hsp.out.bel.output.trans (Hb4.out.output.trans Hb3.out.output), s24, fun j hj => k4 j (Nat.lt_of_lt_of_le hj Hbel2.out.size)⟩))
      obtain ⟨k0, k1, k2, k3, k4', k5, k6⟩ := hbx.at
      clear hkeep hsz hbx k4 s24 hnb
      go_wp2_with fail
      clear k0 k1 k2 k3 k4' k5 k6
      refine (put_is put_any Hg'.out (by have := H112.out; omega) Hk1.out Hx'.out).mono ?_
      rintro e W5 ⟨ac, cc, rfl, hvc, hb5⟩
      have Hg5 := Lib.hid (Hg'.out.under hb5)
      have Hl5 := Lib.hid (Hl'.out.under hb5)
      have hd5 := Hd'.out.under hb5
      rw [Hnb.out] at hd5
      have hnn : nb = (putIn l key x).length := Hnb.out
      have Hbel5 := Lib.hid (Hbelr.out.trans (hb5.mono Hbelr.out.size))
      have Hc5 := Lib.hid hvc
      have Hd5 := Lib.hid hd5
      clear hb5 hvc hd5 Hnb
      subst hnn
      go_wp2_with fail
      refine (samep_is (rsp_any _ _) Hd5.out Hc5.out).mono ?_
      rintro e W6 ⟨rfl, hb6⟩
      have Hg6 := Lib.hid (Hg5.out.under hb6)
      have Hl6 := Lib.hid (Hl5.out.under hb6)
      have Hbel6 := Lib.hid (Hbel5.out.trans (hb6.mono Hbel5.out.size))
      clear hb6
      go_wp2_with fail
      refine (samep_is (rsp_any _ _) Hg6.out Hl6.out).mono ?_
      rintro e W7 ⟨rfl, hb7⟩
      have Hbel7 := Lib.hid (Hbel6.out.trans (hb7.mono Hbel6.out.size))
      go_wp2
      go_ret
      exact ⟨rfl, Hbel7.out⟩
end Go.Proofs.YtnnnnlcpmocnfaaDoor
