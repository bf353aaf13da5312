/- CONF: THE WALKS OVER end, all. -/
import Derived.Test.YtegobomfhdfodaaGreatDoorCp
namespace Go.Proofs.YtegobomfhdfodaaGreatDoor
open Go.RowKit
set_option maxRecDepth 100000
set_option linter.unusedVariables false
set_option linter.unusedSimpArgs false

/-- the last key gets the keys of the level that ends -/
def E.with (e : E) (a : LV) : E := (e.1, .mk e.2.1.k e.2.1.s e.2.1.l (a.es.map E.kn), e.2.2.1, a.q)
def LV.with (b : LV) (eb : List E) (e : E) (a : LV) : LV := ⟨b.ind, b.q, eb ++ [e.with a]⟩
theorem flat_set (eb : List E) (e : E) (a : LV) : ((eb ++ [e]).flatMap kc).set (eb.length * 5 + 4) a.q = (eb ++ [e.with a]).flatMap kc := by
  rw [List.flatMap_append, List.flatMap_append, List.flatMap_singleton, List.flatMap_singleton, List.set_append_right _ _ (by rw [fm_len kc_len]; omega), fm_len kc_len]
  congr 1
  rw [show eb.length * 5 + 4 - eb.length * 5 = 4 from by omega]
  rfl
theorem pop_row {w : World} {base vb n cap : Nat} {lo : List LV} {b a : LV} {eb : List E} {e : E} (h : w.ownsRow base 63 2 (.slice (some ⟨vb, 0, none⟩) (n + 2) cap) (n + 2) ((lo ++ [b, a]).flatMap lc)) (hn : lo.length = n) :
    w.ownsRow base 63 2 (.slice (some ⟨vb, 0, none⟩) (n + 1) cap) (n + 1) ((lo ++ [b.with eb e a]).flatMap lc) := by
  rcases h.2 with ⟨h', _⟩ | ⟨g', cap', cur, h', hb, hg, hnc, hcm, hcs, htake⟩
  · cases h'
  · simp only [Value.slice.injEq, Option.some.injEq, Addr.mk.injEq, and_true, true_and] at h'
    obtain ⟨rfl, rfl⟩ := h'
    refine ⟨by rw [fm_len lc_len]; simp; omega, .inr ⟨vb, cap, cur, rfl, hb, hg, by omega, hcm, hcs, ?_⟩⟩
    have h2 : (cur.toList.take ((n + 2) * 2)).take ((n + 1) * 2) = cur.toList.take ((n + 1) * 2) := by rw [List.take_take]; congr 1; omega
    rw [← h2, htake]
    rw [show lo ++ [b, a] = (lo ++ [b]) ++ [a] from by simp, List.flatMap_append, List.take_append_of_le_length (by rw [fm_len lc_len]; simp; omega), List.take_of_length_le (by rw [fm_len lc_len]; simp; omega)]
    simp [LV.with, lc]
/-- a level ends -/
theorem MS.pop {w : World} {base far g vb n cap bb c : Nat} {lo : List LV} {b a : LV} {eb : List E} {e : E} (h : MS base far g (.slice (some ⟨vb, 0, none⟩) (n + 2) cap) (lo ++ [b, a]) w) (hn : lo.length = n) (he : b.es = eb ++ [e]) (hq : b.q = .slice (some ⟨bb, 0, none⟩) (eb.length + 1) c) (hal : a.es.length ≤ 1000000) (hb : base ≤ w.heap.size) :
    MS base far g (.slice (some ⟨vb, 0, none⟩) (n + 1) cap) (lo ++ [b.with eb e a]) ((w.setCell ⟨g, 0, none⟩ (.slice (some ⟨vb, 0, none⟩) (n + 1) cap)).setCell ⟨bb, eb.length * 5 + 4, none⟩ a.q) ∧ Bo base w ((w.setCell ⟨g, 0, none⟩ (.slice (some ⟨vb, 0, none⟩) (n + 1) cap)).setCell ⟨bb, eb.length * 5 + 4, none⟩ a.q) := by
  obtain ⟨W1, hW1⟩ : ∃ W1, W1 = w.setCell ⟨g, 0, none⟩ (.slice (some ⟨vb, 0, none⟩) (n + 1) cap) := ⟨_, rfl⟩
  have hg1 : w.grownBy W1 (some g) := by rw [hW1]; exact set_grown1 w g 0 _
  have hbox1 : W1.heap[g]? = some (.cells #[.slice (some ⟨vb, 0, none⟩) (n + 1) cap] 65 (0, 0)) := by rw [hW1]; exact heap_setCell_same w g 0 _ 65 _ h.box
  rw [← hW1]
  clear hW1
  obtain ⟨W2, hW2⟩ : ∃ W2, W2 = W1.setCell ⟨bb, eb.length * 5 + 4, none⟩ a.q := ⟨_, rfl⟩
  have hg2 : W1.grownBy W2 (some bb) := by rw [hW2]; exact set_grown1 W1 bb _ _
  rw [← hW2]
  have hmb : b ∈ lo ++ [b, a] := by simp
  have hma : a ∈ lo ++ [b, a] := by simp
  have hlen : (lo ++ [b, a]).length = n + 2 := by simp; omega
  have hkb := h.keys b hmb
  have hrb := hkb.row
  have hbl : b.es.length = eb.length + 1 := by rw [he]; simp
  rw [hbl, hq] at hrb
  have hob : b.q.ownBlock = some bb := by rw [hq]; rfl
  have hs1 : SameX none w W1 := SameX.other hg1 h.box (by decide)
  have hs2 : SameX (some bb) w W2 := (hs1.any).trans (SameX.of_grown hg2)
  have hrow1 : W1.ownsRow base 63 2 (.slice (some ⟨vb, 0, none⟩) (n + 2) cap) (n + 2) ((lo ++ [b, a]).flatMap lc) := by
    have := h.row
    rw [hlen] at this
    exact World.ownsRow.kept this hg1 (.inr (row_apart this h.box (by decide)))
  have hrb1 : W1.ownsRow far 44 5 (.slice (some ⟨bb, 0, none⟩) (eb.length + 1) c) (eb.length + 1) (b.es.flatMap kc) := World.ownsRow.kept hrb hg1 (.inr (row_apart hrb h.box (by decide)))
  have hbb := World.ownsRow.lt hrb1 bb rfl
  have hbox2 : W2.heap[g]? = some (.cells #[.slice (some ⟨vb, 0, none⟩) (n + 1) cap] 65 (0, 0)) := (hg2.block g (blk_lt hbox1) (fun e => by have := row_apart hrb1 hbox1 (by decide); exact this e.symm)).trans hbox1
  have hrow2 : W2.ownsRow base 63 2 (.slice (some ⟨vb, 0, none⟩) (n + 2) cap) (n + 2) ((lo ++ [b, a]).flatMap lc) := World.ownsRow.kept hrow1 hg2 (.inr (fun e => rows_apart hrow1 hrb1 (by decide) bb rfl e))
  have hsub : ∀ q ∈ (lo ++ [b.with eb e a]).map (·.q), q ∈ (lo ++ [b, a]).map (·.q) := by
    intro q hq
    simp only [List.map_append, List.map_cons, List.map_nil, List.mem_append, List.mem_cons, List.not_mem_nil, or_false, LV.with] at hq ⊢
    rcases hq with hq | hq
    · exact .inl hq
    · exact .inr (.inl hq)
  have hact : ∀ a' ∈ (lo ++ [b.with eb e a]).map (·.q), (∃ x ∈ (lo ++ [b, a]).map (·.q), x.ownBlock = a'.ownBlock) ∨ ∀ k, a'.ownBlock = some k → w.heap.size ≤ k := fun a' h' => .inl ⟨a', hsub a' h', rfl⟩
  have hx2 : (some bb : Option Nat) = none ∨ ∃ x ∈ (lo ++ [b, a]).map (·.q), x.ownBlock = some bb := .inr ⟨b.q, List.mem_map.2 ⟨b, hmb, rfl⟩, hob⟩
  have hap := List.pairwise_append.1 h.apart
  have hapba : ∀ k, b.q.ownBlock = some k → a.q.ownBlock ≠ some k := (List.pairwise_cons.1 hap.2.1).1 a (by simp)
  have hkept : Kept (Far w far ((lo ++ [b, a]).map (·.q))) w W2 := ⟨hs2.1, fun x hx _ => (Far.kept (act' := (lo ++ [b.with eb e a]).map (·.q)) hs2 hx2 hact hx).1⟩
  have hmono : ∀ x, Far w far ((lo ++ [b, a]).map (·.q)) x → x < w.heap.size → Far W2 far ((lo ++ [b.with eb e a]).map (·.q)) x := fun x hx _ => (Far.kept hs2 hx2 hact hx).2
  refine ⟨⟨h.bf, h.bg, hbox2, ?_, ?_, ?_⟩, ?_⟩
  · rw [show (lo ++ [b.with eb e a]).length = n + 1 from by simp; omega]
    exact pop_row hrow2 hn
  · intro l hl
    rcases List.mem_append.1 hl with hl | hl
    · refine (h.keys l (by simp [hl])).kept hs2 (.inr (fun e => hap.2.2 l hl b (by simp) bb e hob)) hx2 hact
    · simp only [List.mem_singleton] at hl
      subst hl
      refine ⟨?_, ?_, ?_⟩
      · show W2.ownsRow far 44 5 b.q (eb ++ [e.with a]).length ((eb ++ [e.with a]).flatMap kc)
        rw [hq, ← flat_set, ← he, hW2, show (eb ++ [e.with a]).length = eb.length + 1 from by simp]
        exact (World.ownsRow.stored hrb1 _ _).1
      · intro y hy
        rcases List.mem_append.1 hy with hy | hy
        · exact hkb.key y (by rw [he]; simp [hy])
        · simp only [List.mem_singleton] at hy; subst hy; exact hkb.key e (by rw [he]; simp)
      · intro y hy
        rcases List.mem_append.1 hy with hy | hy
        · exact (hkb.rep y (by rw [he]; simp [hy])).keep hkept hmono
        · simp only [List.mem_singleton] at hy
          subst hy
          have hre := (hkb.rep e (by rw [he]; simp)).keep hkept hmono
          have hka : RepK (Far w far ((lo ++ [b.with eb e a]).map (·.q))) w a.q (a.es.map E.kn) := (h.keys a hma).data (fun k hk q hq' e => by
            simp only [List.map_append, List.map_cons, List.map_nil, List.mem_append, List.mem_cons, List.not_mem_nil, or_false, LV.with] at hq'
            rcases hq' with hq' | rfl
            · obtain ⟨l, hl, rfl⟩ := List.mem_map.1 hq'
              exact hap.2.2 l hl a (by simp) k e hk
            · exact hapba k e hk) hsub
          have hx2' : (some bb : Option Nat) = none ∨ ∃ x ∈ (lo ++ [b.with eb e a]).map (·.q), x.ownBlock = some bb := .inr ⟨b.q, by simp [LV.with], hob⟩
          have hka2 := hka.keep (B' := Far W2 far ((lo ++ [b.with eb e a]).map (·.q))) ⟨hs2.1, fun x hx _ => (Far.kept (act' := (lo ++ [b.with eb e a]).map (·.q)) hs2 hx2' (same_act _ _) hx).1⟩ fun x hx _ => (Far.kept hs2 hx2' (same_act _ _) hx).2
          have hp := hre.parts
          exact Rep.of ⟨hp.1.k1, hp.1.s1, hp.1.l1, by show (a.es.map E.kn).length * 88 ≤ _; rw [List.length_map]; omega⟩ hp.2.1 hka2
  · refine List.pairwise_append.2 ⟨hap.1, List.pairwise_singleton _ _, fun l hl x hx k hk => ?_⟩
    simp only [List.mem_singleton] at hx
    subst hx
    exact hap.2.2 l hl b (by simp) k hk
  · refine ⟨?_, (Oth.of_grown hg1 h.box (.inr (.inr rfl))).trans (Oth.of_row hrb1 (.inl rfl) hg2)⟩
    exact (below_of_grown hg1 hb (fun k hk => by injection hk with hk; subst hk; exact h.bg)).trans (below_of_grown hg2 (Nat.le_trans hb hg1.size) (fun k hk => by injection hk with hk; subst hk; exact Nat.le_trans h.bf hbb.1))
set_option maxHeartbeats 4000000 in
theorem end_any (w : World) (base far g : Nat) (v : Value) (lo : List LV) (b a : LV) (eb : List E) (e : E) (h : MS base far g v (lo ++ [b, a]) w) (hn : lo.length ≤ 1000) (he : b.es = eb ++ [e]) (hbl : eb.length ≤ 1000000) (hal : a.es.length ≤ 1000000) (hb : base ≤ w.heap.size) :
    Calls Tryz.prog 59 #[.pointer (some ⟨g, 0, none⟩)] w fun en w' => en = .returned (.tuple #[]) ∧ ∃ v', MS base far g v' (lo ++ [b.with eb e a]) w' ∧ Bo base w w' := by
  obtain ⟨n, hn'⟩ : ∃ n, lo.length = n := ⟨_, rfl⟩
  obtain ⟨m, hm'⟩ : ∃ m, eb.length = m := ⟨_, rfl⟩
  rw [hn'] at hn
  rw [hm'] at hbl
  obtain ⟨vb, cap, rfl, hvb, hvl, a0, a1⟩ := h.at (i := n + 1) (a := a) (by rw [List.getElem?_append_right (by omega)]; simp [hn'])
  have hll : (lo ++ [b, a]).length = n + 2 := by simp; omega
  rw [hll] at h
  obtain ⟨vb', cap', heq, _, _, b0, b1⟩ := h.at (i := n) (a := b) (by rw [List.getElem?_append_right (by omega)]; simp [hn'])
  rw [hll] at heq
  simp only [Value.slice.injEq, Option.some.injEq, Addr.mk.injEq, and_true, true_and] at heq
  obtain ⟨rfl, rfl⟩ := heq
  have hkb := h.keys b (by simp)
  obtain ⟨bi, bq, bes⟩ := b
  obtain ⟨ai, aq, aes⟩ := a
  simp only at he hkb a0 a1 b0 b1 hal
  subst he
  obtain ⟨bb, c, rfl, hbbb, hbbl, hbat, hbfr⟩ := hkb.last
  obtain ⟨ada, capa, hqa, hla⟩ := row_form (h.keys ⟨ai, aq, aes⟩ (by simp)).row
  simp only at hqa hla
  subst hqa
  rw [hm'] at b1 hbat
  obtain ⟨p, hp⟩ : ∃ p, aes.length = p := ⟨_, rfl⟩
  rw [hp] at a1 hal hla
  have c0 := cell_of_row w g 0 _ 65 (0, 0) h.box
  simp at c0
  have f0 := frozen_of_row w g 0 _ 65 h.box
  have hlg := h.lt
  have HX := Lib.hid (show n ≤ 1000 ∧ m ≤ 1000000 ∧ lo.length = n ∧ eb.length = m ∧ aes.length = p ∧ p ≤ 1000000 from ⟨hn, hbl, hn', hm', hp, hal⟩)
  have H := Lib.hid h
  have Hb := Lib.hid hb
  have Hkb := Lib.hid hkb
  have hcap : n + 2 ≤ cap := by
    rcases h.row.2 with ⟨h', _⟩ | ⟨g', cap', cur, h', _, _, hnc, _⟩
    · cases h'
    · simp only [Value.slice.injEq, Option.some.injEq, Addr.mk.injEq, and_true, true_and] at h'
      rw [hll] at hnc
      omega
  have hw1 : IntKind.i64.wrap ((n : Int) + 2 - 1) = (n : Int) + 1 := by
    rw [show (n : Int) + 2 - 1 = (n : Int) + 1 from by omega]
    exact IntWalk.i64_in _ (by omega)
  have hw2 : (0 : Int) ≤ (n : Int) + 1 := by omega
  have hw3 : (n : Int) + 1 ≤ (cap : Int) := by omega
  have hw4 : ((n : Int) + 1).toNat = n + 1 := by omega
  have hl1 := fun w => last_any w vb (n + 2) cap (by omega) (by omega)
  have hl2 := fun w => last_any w vb (n + 1) cap (by omega) (by omega)
  simp only [show n + 2 - 1 = n + 1 from by omega] at hl1
  simp only [show n + 1 - 1 = n from by omega] at hl2
  have hvg : vb ≠ g := fun e => row_apart h.row h.box (by decide) (by rw [e]; rfl)
  have hbg : bb ≠ g := fun e => row_apart hkb.row h.box (by decide) (by rw [e]; rfl)
  obtain ⟨X, hX⟩ : ∃ X, X = (w.setCell ⟨g, 0, none⟩ (.slice (some ⟨vb, 0, none⟩) (n + 1) cap)).drew := ⟨_, rfl⟩
  have hoth : ∀ k, k ≠ g → X.heap[k]? = w.heap[k]? := fun k hk => by rw [hX]; exact Below.heap_setCell w ⟨g, 0, none⟩ _ k hk
  have hgX : X.heap[g]? = some (.cells #[.slice (some ⟨vb, 0, none⟩) (n + 1) cap] 65 (0, 0)) := by rw [hX]; exact heap_setCell_same w g 0 _ 65 _ h.box
  have cX := cell_of_row X g 0 _ 65 (0, 0) hgX
  simp at cX
  have bX1 := (cell_block (hoth vb hvg) _).trans b1
  have hsX : X.heap.size = w.heap.size := by rw [hX]; simp [World.setCell]
  have hvX : vb < X.heap.size := by omega
  have hbX : bb < X.heap.size := by omega
  have hgXl : g < X.heap.size := by omega
  obtain ⟨k0, k1, k2, k3, k4⟩ := hbat.keep (hoth bb hbg)
  have fX : X.frozen? ⟨bb, m * 5 + 4, none⟩ = false := by
    have := hbfr (m * 5 + 4)
    unfold World.frozen? at this ⊢
    simp only at this ⊢
    rw [hoth bb hbg]
    exact this
  have hfin := (h.under ((Below.refl _ w).drew)).pop (vb := vb) (n := n) (cap := cap) (lo := lo) (b := ⟨bi, .slice (some ⟨bb, 0, none⟩) (eb.length + 1) c, eb ++ [e]⟩) (a := ⟨ai, .slice ada aes.length capa, aes⟩) (eb := eb) (e := e) hn' rfl rfl (by simp only; omega) hb
  simp only [hm', hp] at hfin
  rw [hm', hp]
  rw [show (w.drew.setCell ⟨g, 0, none⟩ (.slice (some ⟨vb, 0, none⟩) (n + 1) cap)) = X from by rw [hX]; rfl] at hfin
  have HF := Lib.hid hfin
  have HXX := Lib.hid hX
  clear h hn' hm' hn hbl hb hkb hll hbat hbfr hX hoth hgX hsX hfin
  go_enter Tryz.func59, Tryz.ntmps59
  go_wp2_with fail
  refine (hl1 _).mono ?_
  rintro en w1 ⟨rfl, rfl⟩
  go_upto_region 1 with (fail)
  go_region
  rw [← HXX.out]
  clear HXX
  go_wp2_with fail
  refine (hl2 _).mono ?_
  rintro en w1 ⟨rfl, rfl⟩
  have hm9 := HX.out.2.1
  have k4' : X.cell? ⟨bb, m * 5 + 1 + 3, none⟩ = _ := k4
  have fX' : X.frozen? ⟨bb, m * 5 + 1 + 3, none⟩ = false := fX
  go_wp2
  go_end0
  exact ⟨rfl, _, HF.out.1, (Bo.of_below (Below.refl _ w).drew Hb.out).trans HF.out.2⟩
end Go.Proofs.YtegobomfhdfodaaGreatDoor
