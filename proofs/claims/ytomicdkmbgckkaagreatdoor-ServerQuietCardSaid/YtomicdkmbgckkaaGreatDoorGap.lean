/- HTTP: THE WALK OVER isWrong. -/
import Derived.Test.YtomicdkmbgckkaaGreatDoorGao
namespace Go.Proofs.YtomicdkmbgckkaaGreatDoor
open Go.RowKit
set_option maxRecDepth 100000
set_option linter.unusedVariables false
set_option linter.unusedSimpArgs false

set_option maxHeartbeats 4000000 in
theorem isWrong_any (w : World) (n v : H.T) (hs : n.length ≤ 140737488355000 ∧ v.length ≤ 140737488355000) : Calls Tryz.prog 71 #[.agg #[S n, S v]] w fun e w' => e = .returned (.bool (H.isWrong ⟨n, v⟩)) ∧ Below w.heap.size w w' := by
  obtain ⟨X, hX⟩ : ∃ X, X = w.alloc (.cells #[S n, S v] 77) := ⟨_, rfl⟩
  have hx : X.heap[w.heap.size]? = some (.cells #[S n, S v] 77 (0, 0)) := by rw [hX]; exact blk_new w _
  have hb : Below w.heap.size w X := by rw [hX]; exact (Below.refl _ w).alloc (Nat.le_refl _) _
  have hd := (Below.refl X.heap.size X).drew
  have K0 := Lib.hid ((Kx.mk hx hb).under hd)
  obtain ⟨c0, c1⟩ := box2 hx
  have hlt := blk_lt hx
  have hi1 := tokI n
  have hi2 := fun W => value_big W v hs.2
  have hn1 : ∀ W, Calls Tryz.prog 35 #[.string ⟨#[67, 111, 110, 116, 101, 110, 116, 45, 76, 101, 110, 103, 116, 104]⟩] W fun e w' => ∃ g, e = .returned (.func (.func 58) #[] #[.pointer (some ⟨g, 0, none⟩)]) ∧ w'.heap[g]? = some (.cells #[S H.lengthN] 9 (0, 0)) ∧ Below W.heap.size W w' := fun W => named_is W H.lengthN
  have hn2 : ∀ W, Calls Tryz.prog 35 #[.string ⟨#[84, 114, 97, 110, 115, 102, 101, 114, 45, 69, 110, 99, 111, 100, 105, 110, 103]⟩] W fun e w' => ∃ g, e = .returned (.func (.func 58) #[] #[.pointer (some ⟨g, 0, none⟩)]) ∧ w'.heap[g]? = some (.cells #[S H.codingN] 9 (0, 0)) ∧ Below W.heap.size W w' := fun W => named_is W H.codingN
  have ht1 : ∀ W g, W.heap[g]? = some (.cells #[S H.lengthN] 9 (0, 0)) → Calls Tryz.prog 58 #[.agg #[S n, S v], .pointer (some ⟨g, 0, none⟩)] W fun e w' => e = .returned (.bool (H.alike n H.lengthN)) ∧ Below W.heap.size W w' := fun W g hg => test_any W n v H.lengthN g hg (by omega)
  have ht2 : ∀ W g, W.heap[g]? = some (.cells #[S H.codingN] 9 (0, 0)) → Calls Tryz.prog 58 #[.agg #[S n, S v], .pointer (some ⟨g, 0, none⟩)] W fun e w' => e = .returned (.bool (H.alike n H.codingN)) ∧ Below W.heap.size W w' := fun W g hg => test_any W n v H.codingN g hg (by omega)
  have hl := fun W => headLine_big W n v hs
  unfold H.isWrong
  simp only
  obtain ⟨a1, e1⟩ : ∃ a, H.isOf n H.tok = a := ⟨_, rfl⟩
  obtain ⟨a2, e2⟩ : ∃ a, H.isValue v = a := ⟨_, rfl⟩
  obtain ⟨a3, e3⟩ : ∃ a, H.alike n H.lengthN = a := ⟨_, rfl⟩
  obtain ⟨a4, e4⟩ : ∃ a, H.alike n H.codingN = a := ⟨_, rfl⟩
  rw [e1] at hi1 ⊢
  rw [e2] at hi2 ⊢
  rw [e3] at ht1 ⊢
  rw [e4] at ht2 ⊢
  clear e1 e2 e3 e4 hx hb hd
  cases a1 with
  | false =>
    simp only [Bool.not_false, Bool.true_or]
    clear hi2 hn1 hn2 ht1 ht2 hl
    go_enter Tryz.func71, Tryz.ntmps71
    go_upto_region 1 with (fail)
    rw [← hX]
    clear hX
    refine wp_region_any (by kernel_rfl) ?_
    change wpAny _ _ _ _ _ _ _ X.drew
    have p0 := K0.out.cells.1
    have q0 := K0.out.cells.2
    have l0 := blk_lt K0.out.box
    refine wpAny_take (i := 0) (v := ?vc11) rfl (by kernel_rfl) (by kernel_rfl) (by kernel_rfl) (fun _ _ _ h => h) (Or.inl ⟨by kernel_rfl, ?hc11⟩) ?rc11
    case hc11 => (intro w; go_simp; first | done | (with_reducible rfl))
    refine wpAny_ready (rs := [1]) (by kernel_rfl) (by simp) ?_
    refine AllReady.cons rfl (fun K hK => ?_) AllReady.nil
    go_simp
    refine hK _ _ ?_
    clear hK K
    refine wpAny_ready (rs := [2]) (by kernel_rfl) (by simp) ?_
    refine AllReady.cons rfl (fun K hK => ?_) AllReady.nil
    go_simp
    with_reducible refine (hi1 _).mono ?_
    rintro e w4 ⟨rfl, hb4⟩
    have K4 := Lib.hid (K0.out.under hb4)
    obtain ⟨p4, q4⟩ := K4.out.cells
    have l4 := blk_lt K4.out.box
    clear hb4
    refine hK _ _ ?_
    clear hK K
    refine wpAny_take (i := 3) (v := ?vc12) rfl (by kernel_rfl) (by kernel_rfl) (by kernel_rfl) (fun _ _ _ h => h) (Or.inl ⟨by kernel_rfl, ?hc12⟩) ?rc12
    case hc12 => (intro w; go_simp; first | done | (with_reducible rfl))
    refine wpAny_take (i := 4) (v := ?vc13) rfl (by kernel_rfl) (by kernel_rfl) (by kernel_rfl) (fun _ _ _ h => h) (Or.inl ⟨by kernel_rfl, ?hc13⟩) ?rc13
    case hc13 => (intro w; go_simp; first | done | (with_reducible rfl))
    refine wpAny_take (i := 5) (v := undef) rfl (by kernel_rfl) (by kernel_rfl) (by kernel_rfl) (fun _ _ _ h => h) (Or.inr ⟨by kernel_rfl, rfl⟩) ?_
    refine wpAny_take (i := 6) (v := undef) rfl (by kernel_rfl) (by kernel_rfl) (by kernel_rfl) (fun _ _ _ h => h) (Or.inr ⟨by kernel_rfl, rfl⟩) ?_
    refine wpAny_take (i := 7) (v := undef) rfl (by kernel_rfl) (by kernel_rfl) (by kernel_rfl) (fun _ _ _ h => h) (Or.inr ⟨by kernel_rfl, rfl⟩) ?_
    refine wpAny_take (i := 8) (v := undef) rfl (by kernel_rfl) (by kernel_rfl) (by kernel_rfl) (fun _ _ _ h => h) (Or.inr ⟨by kernel_rfl, rfl⟩) ?_
    refine wpAny_take (i := 9) (v := ?vc18) rfl (by kernel_rfl) (by kernel_rfl) (by kernel_rfl) (fun _ _ _ h => h) (Or.inl ⟨by kernel_rfl, ?hc18⟩) ?rc18
    case hc18 => (intro w; go_simp; first | done | (with_reducible rfl))
    refine wpAny_take (i := 10) (v := ?vc19) rfl (by kernel_rfl) (by kernel_rfl) (by kernel_rfl) (fun _ _ _ h => h) (Or.inl ⟨by kernel_rfl, ?hc19⟩) ?rc19
    case hc19 => (intro w; go_simp; first | done | (with_reducible rfl))
    refine wpAny_take (i := 11) (v := undef) rfl (by kernel_rfl) (by kernel_rfl) (by kernel_rfl) (fun _ _ _ h => h) (Or.inr ⟨by kernel_rfl, rfl⟩) ?_
    refine wpAny_take (i := 12) (v := undef) rfl (by kernel_rfl) (by kernel_rfl) (by kernel_rfl) (fun _ _ _ h => h) (Or.inr ⟨by kernel_rfl, rfl⟩) ?_
    refine wpAny_take (i := 13) (v := undef) rfl (by kernel_rfl) (by kernel_rfl) (by kernel_rfl) (fun _ _ _ h => h) (Or.inr ⟨by kernel_rfl, rfl⟩) ?_
    refine wpAny_take (i := 14) (v := ?vc113) rfl (by kernel_rfl) (by kernel_rfl) (by kernel_rfl) (fun _ _ _ h => h) (Or.inl ⟨by kernel_rfl, ?hc113⟩) ?rc113
    case hc113 => (intro w; go_simp; first | done | (with_reducible rfl))
    refine wpAny_take (i := 15) (v := ?vc114) rfl (by kernel_rfl) (by kernel_rfl) (by kernel_rfl) (fun _ _ _ h => h) (Or.inl ⟨by kernel_rfl, ?hc114⟩) ?rc114
    case hc114 => (intro w; go_simp; first | done | (with_reducible rfl))
    refine wpAny_take (i := 16) (v := undef) rfl (by kernel_rfl) (by kernel_rfl) (by kernel_rfl) (fun _ _ _ h => h) (Or.inr ⟨by kernel_rfl, rfl⟩) ?_
    refine wpAny_take (i := 17) (v := undef) rfl (by kernel_rfl) (by kernel_rfl) (by kernel_rfl) (fun _ _ _ h => h) (Or.inr ⟨by kernel_rfl, rfl⟩) ?_
    refine wpAny_take (i := 18) (v := undef) rfl (by kernel_rfl) (by kernel_rfl) (by kernel_rfl) (fun _ _ _ h => h) (Or.inr ⟨by kernel_rfl, rfl⟩) ?_
    refine wpAny_take (i := 19) (v := ?vc118) rfl (by kernel_rfl) (by kernel_rfl) (by kernel_rfl) (fun _ _ _ h => h) (Or.inl ⟨by kernel_rfl, ?hc118⟩) ?rc118
    case hc118 => (intro w; go_simp; first | done | (with_reducible rfl))
    refine wpAny_take (i := 20) (v := ?vc119) rfl (by kernel_rfl) (by kernel_rfl) (by kernel_rfl) (fun _ _ _ h => h) (Or.inl ⟨by kernel_rfl, ?hc119⟩) ?rc119
    case hc119 => (intro w; go_simp; first | done | (with_reducible rfl))
    refine wpAny_take (i := 21) (v := undef) rfl (by kernel_rfl) (by kernel_rfl) (by kernel_rfl) (fun _ _ _ h => h) (Or.inr ⟨by kernel_rfl, rfl⟩) ?_
    refine wpAny_take (i := 22) (v := undef) rfl (by kernel_rfl) (by kernel_rfl) (by kernel_rfl) (fun _ _ _ h => h) (Or.inr ⟨by kernel_rfl, rfl⟩) ?_
    refine wpAny_take (i := 23) (v := undef) rfl (by kernel_rfl) (by kernel_rfl) (by kernel_rfl) (fun _ _ _ h => h) (Or.inr ⟨by kernel_rfl, rfl⟩) ?_
    refine wpAny_take (i := 24) (v := undef) rfl (by kernel_rfl) (by kernel_rfl) (by kernel_rfl) (fun _ _ _ h => h) (Or.inr ⟨by kernel_rfl, rfl⟩) ?_
    refine wpAny_take (i := 25) (v := ?vc124) rfl (by kernel_rfl) (by kernel_rfl) (by kernel_rfl) (fun _ _ _ h => h) (Or.inl ⟨by kernel_rfl, ?hc124⟩) ?rc124
    case hc124 => (intro w; go_simp; first | done | (with_reducible rfl))
    refine wpAny_ready (rs := [26]) (by kernel_rfl) (by simp) ?_
    refine AllReady.cons rfl (fun K hK => ?_) AllReady.nil
    go_simp
    refine hK _ _ ?_
    clear hK K
    refine wpAny_done (by kernel_rfl) ?_ _
    try go_simp
    go_wp2
    go_ret
    exact ⟨rfl, K4.out.bel⟩
  | true =>
    cases a2 with
    | false =>
      simp only [Bool.not_false, Bool.not_true, Bool.false_or, Bool.true_or]
      clear hn1 hn2 ht1 ht2 hl
      go_enter Tryz.func71, Tryz.ntmps71
      go_upto_region 1 with (fail)
      rw [← hX]
      clear hX
      refine wp_region_any (by kernel_rfl) ?_
      change wpAny _ _ _ _ _ _ _ X.drew
      have p0 := K0.out.cells.1
      have q0 := K0.out.cells.2
      have l0 := blk_lt K0.out.box
      refine wpAny_take (i := 0) (v := ?vc21) rfl (by kernel_rfl) (by kernel_rfl) (by kernel_rfl) (fun _ _ _ h => h) (Or.inl ⟨by kernel_rfl, ?hc21⟩) ?rc21
      case hc21 => (intro w; go_simp; first | done | (with_reducible rfl))
      refine wpAny_ready (rs := [1]) (by kernel_rfl) (by simp) ?_
      refine AllReady.cons rfl (fun K hK => ?_) AllReady.nil
      go_simp
      refine hK _ _ ?_
      clear hK K
      refine wpAny_ready (rs := [2]) (by kernel_rfl) (by simp) ?_
      refine AllReady.cons rfl (fun K hK => ?_) AllReady.nil
      go_simp
      with_reducible refine (hi1 _).mono ?_
      rintro e w4 ⟨rfl, hb4⟩
      have K4 := Lib.hid (K0.out.under hb4)
      obtain ⟨p4, q4⟩ := K4.out.cells
      have l4 := blk_lt K4.out.box
      clear hb4
      refine hK _ _ ?_
      clear hK K
      refine wpAny_take (i := 3) (v := ?vc22) rfl (by kernel_rfl) (by kernel_rfl) (by kernel_rfl) (fun _ _ _ h => h) (Or.inl ⟨by kernel_rfl, ?hc22⟩) ?rc22
      case hc22 => (intro w; go_simp; first | done | (with_reducible rfl))
      refine wpAny_take (i := 4) (v := ?vc23) rfl (by kernel_rfl) (by kernel_rfl) (by kernel_rfl) (fun _ _ _ h => h) (Or.inl ⟨by kernel_rfl, ?hc23⟩) ?rc23
      case hc23 => (intro w; go_simp; first | done | (with_reducible rfl))
      refine wpAny_take (i := 5) (v := ?vc24) rfl (by kernel_rfl) (by kernel_rfl) (by kernel_rfl) (fun _ _ _ h => h) (Or.inl ⟨by kernel_rfl, ?hc24⟩) ?rc24
      case hc24 => (intro w; go_simp; first | done | (with_reducible rfl))
      refine wpAny_ready (rs := [6]) (by kernel_rfl) (by simp) ?_
      refine AllReady.cons rfl (fun K hK => ?_) AllReady.nil
      go_simp
      refine hK _ _ ?_
      clear hK K
      refine wpAny_ready (rs := [7]) (by kernel_rfl) (by simp) ?_
      refine AllReady.cons rfl (fun K hK => ?_) AllReady.nil
      go_simp
      with_reducible refine (hi2 _).mono ?_
      rintro e w5 ⟨rfl, hb5⟩
      have K5 := Lib.hid (K4.out.under hb5)
      obtain ⟨p5, q5⟩ := K5.out.cells
      have l5 := blk_lt K5.out.box
      clear hb5
      refine hK _ _ ?_
      clear hK K
      refine wpAny_take (i := 8) (v := ?vc25) rfl (by kernel_rfl) (by kernel_rfl) (by kernel_rfl) (fun _ _ _ h => h) (Or.inl ⟨by kernel_rfl, ?hc25⟩) ?rc25
      case hc25 => (intro w; go_simp; first | done | (with_reducible rfl))
      refine wpAny_take (i := 9) (v := ?vc26) rfl (by kernel_rfl) (by kernel_rfl) (by kernel_rfl) (fun _ _ _ h => h) (Or.inl ⟨by kernel_rfl, ?hc26⟩) ?rc26
      case hc26 => (intro w; go_simp; first | done | (with_reducible rfl))
      refine wpAny_take (i := 10) (v := ?vc27) rfl (by kernel_rfl) (by kernel_rfl) (by kernel_rfl) (fun _ _ _ h => h) (Or.inl ⟨by kernel_rfl, ?hc27⟩) ?rc27
      case hc27 => (intro w; go_simp; first | done | (with_reducible rfl))
      refine wpAny_take (i := 11) (v := undef) rfl (by kernel_rfl) (by kernel_rfl) (by kernel_rfl) (fun _ _ _ h => h) (Or.inr ⟨by kernel_rfl, rfl⟩) ?_
      refine wpAny_take (i := 12) (v := undef) rfl (by kernel_rfl) (by kernel_rfl) (by kernel_rfl) (fun _ _ _ h => h) (Or.inr ⟨by kernel_rfl, rfl⟩) ?_
      refine wpAny_take (i := 13) (v := undef) rfl (by kernel_rfl) (by kernel_rfl) (by kernel_rfl) (fun _ _ _ h => h) (Or.inr ⟨by kernel_rfl, rfl⟩) ?_
      refine wpAny_take (i := 14) (v := ?vc211) rfl (by kernel_rfl) (by kernel_rfl) (by kernel_rfl) (fun _ _ _ h => h) (Or.inl ⟨by kernel_rfl, ?hc211⟩) ?rc211
      case hc211 => (intro w; go_simp; first | done | (with_reducible rfl))
      refine wpAny_take (i := 15) (v := ?vc212) rfl (by kernel_rfl) (by kernel_rfl) (by kernel_rfl) (fun _ _ _ h => h) (Or.inl ⟨by kernel_rfl, ?hc212⟩) ?rc212
      case hc212 => (intro w; go_simp; first | done | (with_reducible rfl))
      refine wpAny_take (i := 16) (v := undef) rfl (by kernel_rfl) (by kernel_rfl) (by kernel_rfl) (fun _ _ _ h => h) (Or.inr ⟨by kernel_rfl, rfl⟩) ?_
      refine wpAny_take (i := 17) (v := undef) rfl (by kernel_rfl) (by kernel_rfl) (by kernel_rfl) (fun _ _ _ h => h) (Or.inr ⟨by kernel_rfl, rfl⟩) ?_
      refine wpAny_take (i := 18) (v := undef) rfl (by kernel_rfl) (by kernel_rfl) (by kernel_rfl) (fun _ _ _ h => h) (Or.inr ⟨by kernel_rfl, rfl⟩) ?_
      refine wpAny_take (i := 19) (v := ?vc216) rfl (by kernel_rfl) (by kernel_rfl) (by kernel_rfl) (fun _ _ _ h => h) (Or.inl ⟨by kernel_rfl, ?hc216⟩) ?rc216
      case hc216 => (intro w; go_simp; first | done | (with_reducible rfl))
      refine wpAny_take (i := 20) (v := ?vc217) rfl (by kernel_rfl) (by kernel_rfl) (by kernel_rfl) (fun _ _ _ h => h) (Or.inl ⟨by kernel_rfl, ?hc217⟩) ?rc217
      case hc217 => (intro w; go_simp; first | done | (with_reducible rfl))
      refine wpAny_take (i := 21) (v := undef) rfl (by kernel_rfl) (by kernel_rfl) (by kernel_rfl) (fun _ _ _ h => h) (Or.inr ⟨by kernel_rfl, rfl⟩) ?_
      refine wpAny_take (i := 22) (v := undef) rfl (by kernel_rfl) (by kernel_rfl) (by kernel_rfl) (fun _ _ _ h => h) (Or.inr ⟨by kernel_rfl, rfl⟩) ?_
      refine wpAny_take (i := 23) (v := undef) rfl (by kernel_rfl) (by kernel_rfl) (by kernel_rfl) (fun _ _ _ h => h) (Or.inr ⟨by kernel_rfl, rfl⟩) ?_
      refine wpAny_take (i := 24) (v := undef) rfl (by kernel_rfl) (by kernel_rfl) (by kernel_rfl) (fun _ _ _ h => h) (Or.inr ⟨by kernel_rfl, rfl⟩) ?_
      refine wpAny_take (i := 25) (v := ?vc222) rfl (by kernel_rfl) (by kernel_rfl) (by kernel_rfl) (fun _ _ _ h => h) (Or.inl ⟨by kernel_rfl, ?hc222⟩) ?rc222
      case hc222 => (intro w; go_simp; first | done | (with_reducible rfl))
      refine wpAny_ready (rs := [26]) (by kernel_rfl) (by simp) ?_
      refine AllReady.cons rfl (fun K hK => ?_) AllReady.nil
      go_simp
      refine hK _ _ ?_
      clear hK K
      refine wpAny_done (by kernel_rfl) ?_ _
      try go_simp
      go_wp2
      go_ret
      exact ⟨rfl, K5.out.bel⟩
    | true =>
      cases a3 with
      | true =>
        simp only [Bool.not_true, Bool.false_or, Bool.true_or]
        clear hn2 ht2 hl
        go_enter Tryz.func71, Tryz.ntmps71
        go_upto_region 1 with (fail)
        rw [← hX]
        clear hX
        refine wp_region_any (by kernel_rfl) ?_
        change wpAny _ _ _ _ _ _ _ X.drew
        have p0 := K0.out.cells.1
        have q0 := K0.out.cells.2
        have l0 := blk_lt K0.out.box
        refine wpAny_take (i := 0) (v := ?vc31) rfl (by kernel_rfl) (by kernel_rfl) (by kernel_rfl) (fun _ _ _ h => h) (Or.inl ⟨by kernel_rfl, ?hc31⟩) ?rc31
        case hc31 => (intro w; go_simp; first | done | (with_reducible rfl))
        refine wpAny_ready (rs := [1]) (by kernel_rfl) (by simp) ?_
        refine AllReady.cons rfl (fun K hK => ?_) AllReady.nil
        go_simp
        refine hK _ _ ?_
        clear hK K
        refine wpAny_ready (rs := [2]) (by kernel_rfl) (by simp) ?_
        refine AllReady.cons rfl (fun K hK => ?_) AllReady.nil
        go_simp
        with_reducible refine (hi1 _).mono ?_
        rintro e w4 ⟨rfl, hb4⟩
        have K4 := Lib.hid (K0.out.under hb4)
        obtain ⟨p4, q4⟩ := K4.out.cells
        have l4 := blk_lt K4.out.box
        clear hb4
        refine hK _ _ ?_
        clear hK K
        refine wpAny_take (i := 3) (v := ?vc32) rfl (by kernel_rfl) (by kernel_rfl) (by kernel_rfl) (fun _ _ _ h => h) (Or.inl ⟨by kernel_rfl, ?hc32⟩) ?rc32
        case hc32 => (intro w; go_simp; first | done | (with_reducible rfl))
        refine wpAny_take (i := 4) (v := ?vc33) rfl (by kernel_rfl) (by kernel_rfl) (by kernel_rfl) (fun _ _ _ h => h) (Or.inl ⟨by kernel_rfl, ?hc33⟩) ?rc33
        case hc33 => (intro w; go_simp; first | done | (with_reducible rfl))
        refine wpAny_take (i := 5) (v := ?vc34) rfl (by kernel_rfl) (by kernel_rfl) (by kernel_rfl) (fun _ _ _ h => h) (Or.inl ⟨by kernel_rfl, ?hc34⟩) ?rc34
        case hc34 => (intro w; go_simp; first | done | (with_reducible rfl))
        refine wpAny_ready (rs := [6]) (by kernel_rfl) (by simp) ?_
        refine AllReady.cons rfl (fun K hK => ?_) AllReady.nil
        go_simp
        refine hK _ _ ?_
        clear hK K
        refine wpAny_ready (rs := [7]) (by kernel_rfl) (by simp) ?_
        refine AllReady.cons rfl (fun K hK => ?_) AllReady.nil
        go_simp
        with_reducible refine (hi2 _).mono ?_
        rintro e w5 ⟨rfl, hb5⟩
        have K5 := Lib.hid (K4.out.under hb5)
        obtain ⟨p5, q5⟩ := K5.out.cells
        have l5 := blk_lt K5.out.box
        clear hb5
        refine hK _ _ ?_
        clear hK K
        refine wpAny_take (i := 8) (v := ?vc35) rfl (by kernel_rfl) (by kernel_rfl) (by kernel_rfl) (fun _ _ _ h => h) (Or.inl ⟨by kernel_rfl, ?hc35⟩) ?rc35
        case hc35 => (intro w; go_simp; first | done | (with_reducible rfl))
        refine wpAny_take (i := 9) (v := ?vc36) rfl (by kernel_rfl) (by kernel_rfl) (by kernel_rfl) (fun _ _ _ h => h) (Or.inl ⟨by kernel_rfl, ?hc36⟩) ?rc36
        case hc36 => (intro w; go_simp; first | done | (with_reducible rfl))
        refine wpAny_take (i := 10) (v := ?vc37) rfl (by kernel_rfl) (by kernel_rfl) (by kernel_rfl) (fun _ _ _ h => h) (Or.inl ⟨by kernel_rfl, ?hc37⟩) ?rc37
        case hc37 => (intro w; go_simp; first | done | (with_reducible rfl))
        refine wpAny_ready (rs := [11, 12]) (by kernel_rfl) (by simp) ?_
        refine AllReady.cons rfl (fun K hK => ?_) ?_
        · skip
          go_simp
          with_reducible refine (hn1 _).mono ?_
          rintro e w6 ⟨g6, rfl, hg6, hb6⟩
          have K6 := Lib.hid (K5.out.under hb6)
          have G6 := Lib.hid hg6
          obtain ⟨p6, q6⟩ := K6.out.cells
          have l6 := blk_lt K6.out.box
          clear hb6
          refine hK _ _ ?_
          clear hK K
          refine wpAny_ready (rs := [12]) (by kernel_rfl) (by simp) ?_
          refine AllReady.cons rfl (fun K hK => ?_) AllReady.nil
          go_simp
          refine hK _ _ ?_
          clear hK K
          refine wpAny_ready (rs := [13]) (by kernel_rfl) (by simp) ?_
          refine AllReady.cons rfl (fun K hK => ?_) AllReady.nil
          go_simp
          with_reducible refine (ht1 _ _ G6.out).mono ?_
          rintro e w7 ⟨rfl, hb7⟩
          have K7 := Lib.hid (K6.out.under hb7)
          obtain ⟨p7, q7⟩ := K7.out.cells
          have l7 := blk_lt K7.out.box
          clear hb7
          refine hK _ _ ?_
          clear hK K
          refine wpAny_take (i := 14) (v := ?vc38) rfl (by kernel_rfl) (by kernel_rfl) (by kernel_rfl) (fun _ _ _ h => h) (Or.inl ⟨by kernel_rfl, ?hc38⟩) ?rc38
          case hc38 => (intro w; go_simp; first | done | (with_reducible rfl))
          refine wpAny_take (i := 15) (v := ?vc39) rfl (by kernel_rfl) (by kernel_rfl) (by kernel_rfl) (fun _ _ _ h => h) (Or.inl ⟨by kernel_rfl, ?hc39⟩) ?rc39
          case hc39 => (intro w; go_simp; first | done | (with_reducible rfl))
          refine wpAny_take (i := 16) (v := undef) rfl (by kernel_rfl) (by kernel_rfl) (by kernel_rfl) (fun _ _ _ h => h) (Or.inr ⟨by kernel_rfl, rfl⟩) ?_
          refine wpAny_take (i := 17) (v := undef) rfl (by kernel_rfl) (by kernel_rfl) (by kernel_rfl) (fun _ _ _ h => h) (Or.inr ⟨by kernel_rfl, rfl⟩) ?_
          refine wpAny_take (i := 18) (v := undef) rfl (by kernel_rfl) (by kernel_rfl) (by kernel_rfl) (fun _ _ _ h => h) (Or.inr ⟨by kernel_rfl, rfl⟩) ?_
          refine wpAny_take (i := 19) (v := ?vc313) rfl (by kernel_rfl) (by kernel_rfl) (by kernel_rfl) (fun _ _ _ h => h) (Or.inl ⟨by kernel_rfl, ?hc313⟩) ?rc313
          case hc313 => (intro w; go_simp; first | done | (with_reducible rfl))
          refine wpAny_take (i := 20) (v := ?vc314) rfl (by kernel_rfl) (by kernel_rfl) (by kernel_rfl) (fun _ _ _ h => h) (Or.inl ⟨by kernel_rfl, ?hc314⟩) ?rc314
          case hc314 => (intro w; go_simp; first | done | (with_reducible rfl))
          refine wpAny_take (i := 21) (v := undef) rfl (by kernel_rfl) (by kernel_rfl) (by kernel_rfl) (fun _ _ _ h => h) (Or.inr ⟨by kernel_rfl, rfl⟩) ?_
          refine wpAny_take (i := 22) (v := undef) rfl (by kernel_rfl) (by kernel_rfl) (by kernel_rfl) (fun _ _ _ h => h) (Or.inr ⟨by kernel_rfl, rfl⟩) ?_
          refine wpAny_take (i := 23) (v := undef) rfl (by kernel_rfl) (by kernel_rfl) (by kernel_rfl) (fun _ _ _ h => h) (Or.inr ⟨by kernel_rfl, rfl⟩) ?_
          refine wpAny_take (i := 24) (v := undef) rfl (by kernel_rfl) (by kernel_rfl) (by kernel_rfl) (fun _ _ _ h => h) (Or.inr ⟨by kernel_rfl, rfl⟩) ?_
          refine wpAny_take (i := 25) (v := ?vc319) rfl (by kernel_rfl) (by kernel_rfl) (by kernel_rfl) (fun _ _ _ h => h) (Or.inl ⟨by kernel_rfl, ?hc319⟩) ?rc319
          case hc319 => (intro w; go_simp; first | done | (with_reducible rfl))
          refine wpAny_ready (rs := [26]) (by kernel_rfl) (by simp) ?_
          refine AllReady.cons rfl (fun K hK => ?_) AllReady.nil
          go_simp
          refine hK _ _ ?_
          clear hK K
          refine wpAny_done (by kernel_rfl) ?_ _
          try go_simp
          go_wp2
          go_ret
          exact ⟨rfl, K7.out.bel⟩
        refine AllReady.cons rfl (fun K hK => ?_) AllReady.nil
        go_simp
        refine hK _ _ ?_
        clear hK K
        refine wpAny_ready (rs := [11]) (by kernel_rfl) (by simp) ?_
        refine AllReady.cons rfl (fun K hK => ?_) AllReady.nil
        go_simp
        with_reducible refine (hn1 _).mono ?_
        rintro e w6 ⟨g6, rfl, hg6, hb6⟩
        have K6 := Lib.hid (K5.out.under hb6)
        have G6 := Lib.hid hg6
        obtain ⟨p6, q6⟩ := K6.out.cells
        have l6 := blk_lt K6.out.box
        clear hb6
        refine hK _ _ ?_
        clear hK K
        refine wpAny_ready (rs := [13]) (by kernel_rfl) (by simp) ?_
        refine AllReady.cons rfl (fun K hK => ?_) AllReady.nil
        go_simp
        with_reducible refine (ht1 _ _ G6.out).mono ?_
        rintro e w7 ⟨rfl, hb7⟩
        have K7 := Lib.hid (K6.out.under hb7)
        obtain ⟨p7, q7⟩ := K7.out.cells
        have l7 := blk_lt K7.out.box
        clear hb7
        refine hK _ _ ?_
        clear hK K
        refine wpAny_take (i := 14) (v := ?vc320) rfl (by kernel_rfl) (by kernel_rfl) (by kernel_rfl) (fun _ _ _ h => h) (Or.inl ⟨by kernel_rfl, ?hc320⟩) ?rc320
        case hc320 => (intro w; go_simp; first | done | (with_reducible rfl))
        refine wpAny_take (i := 15) (v := ?vc321) rfl (by kernel_rfl) (by kernel_rfl) (by kernel_rfl) (fun _ _ _ h => h) (Or.inl ⟨by kernel_rfl, ?hc321⟩) ?rc321
        case hc321 => (intro w; go_simp; first | done | (with_reducible rfl))
        refine wpAny_take (i := 16) (v := undef) rfl (by kernel_rfl) (by kernel_rfl) (by kernel_rfl) (fun _ _ _ h => h) (Or.inr ⟨by kernel_rfl, rfl⟩) ?_
        refine wpAny_take (i := 17) (v := undef) rfl (by kernel_rfl) (by kernel_rfl) (by kernel_rfl) (fun _ _ _ h => h) (Or.inr ⟨by kernel_rfl, rfl⟩) ?_
        refine wpAny_take (i := 18) (v := undef) rfl (by kernel_rfl) (by kernel_rfl) (by kernel_rfl) (fun _ _ _ h => h) (Or.inr ⟨by kernel_rfl, rfl⟩) ?_
        refine wpAny_take (i := 19) (v := ?vc325) rfl (by kernel_rfl) (by kernel_rfl) (by kernel_rfl) (fun _ _ _ h => h) (Or.inl ⟨by kernel_rfl, ?hc325⟩) ?rc325
        case hc325 => (intro w; go_simp; first | done | (with_reducible rfl))
        refine wpAny_take (i := 20) (v := ?vc326) rfl (by kernel_rfl) (by kernel_rfl) (by kernel_rfl) (fun _ _ _ h => h) (Or.inl ⟨by kernel_rfl, ?hc326⟩) ?rc326
        case hc326 => (intro w; go_simp; first | done | (with_reducible rfl))
        refine wpAny_take (i := 21) (v := undef) rfl (by kernel_rfl) (by kernel_rfl) (by kernel_rfl) (fun _ _ _ h => h) (Or.inr ⟨by kernel_rfl, rfl⟩) ?_
        refine wpAny_take (i := 22) (v := undef) rfl (by kernel_rfl) (by kernel_rfl) (by kernel_rfl) (fun _ _ _ h => h) (Or.inr ⟨by kernel_rfl, rfl⟩) ?_
        refine wpAny_take (i := 23) (v := undef) rfl (by kernel_rfl) (by kernel_rfl) (by kernel_rfl) (fun _ _ _ h => h) (Or.inr ⟨by kernel_rfl, rfl⟩) ?_
        refine wpAny_take (i := 24) (v := undef) rfl (by kernel_rfl) (by kernel_rfl) (by kernel_rfl) (fun _ _ _ h => h) (Or.inr ⟨by kernel_rfl, rfl⟩) ?_
        refine wpAny_take (i := 25) (v := ?vc331) rfl (by kernel_rfl) (by kernel_rfl) (by kernel_rfl) (fun _ _ _ h => h) (Or.inl ⟨by kernel_rfl, ?hc331⟩) ?rc331
        case hc331 => (intro w; go_simp; first | done | (with_reducible rfl))
        refine wpAny_ready (rs := [26]) (by kernel_rfl) (by simp) ?_
        refine AllReady.cons rfl (fun K hK => ?_) AllReady.nil
        go_simp
        refine hK _ _ ?_
        clear hK K
        refine wpAny_done (by kernel_rfl) ?_ _
        try go_simp
        go_wp2
        go_ret
        exact ⟨rfl, K7.out.bel⟩
      | false =>
        cases a4 with
        | true =>
          simp only [Bool.not_true, Bool.false_or, Bool.true_or]
          clear hl
          go_enter Tryz.func71, Tryz.ntmps71
          go_upto_region 1 with (fail)
          rw [← hX]
          clear hX
          refine wp_region_any (by kernel_rfl) ?_
          change wpAny _ _ _ _ _ _ _ X.drew
          have p0 := K0.out.cells.1
          have q0 := K0.out.cells.2
          have l0 := blk_lt K0.out.box
          refine wpAny_take (i := 0) (v := ?vc41) rfl (by kernel_rfl) (by kernel_rfl) (by kernel_rfl) (fun _ _ _ h => h) (Or.inl ⟨by kernel_rfl, ?hc41⟩) ?rc41
          case hc41 => (intro w; go_simp; first | done | (with_reducible rfl))
          refine wpAny_ready (rs := [1]) (by kernel_rfl) (by simp) ?_
          refine AllReady.cons rfl (fun K hK => ?_) AllReady.nil
          go_simp
          refine hK _ _ ?_
          clear hK K
          refine wpAny_ready (rs := [2]) (by kernel_rfl) (by simp) ?_
          refine AllReady.cons rfl (fun K hK => ?_) AllReady.nil
          go_simp
          with_reducible refine (hi1 _).mono ?_
          rintro e w4 ⟨rfl, hb4⟩
          have K4 := Lib.hid (K0.out.under hb4)
          obtain ⟨p4, q4⟩ := K4.out.cells
          have l4 := blk_lt K4.out.box
          clear hb4
          refine hK _ _ ?_
          clear hK K
          refine wpAny_take (i := 3) (v := ?vc42) rfl (by kernel_rfl) (by kernel_rfl) (by kernel_rfl) (fun _ _ _ h => h) (Or.inl ⟨by kernel_rfl, ?hc42⟩) ?rc42
          case hc42 => (intro w; go_simp; first | done | (with_reducible rfl))
          refine wpAny_take (i := 4) (v := ?vc43) rfl (by kernel_rfl) (by kernel_rfl) (by kernel_rfl) (fun _ _ _ h => h) (Or.inl ⟨by kernel_rfl, ?hc43⟩) ?rc43
          case hc43 => (intro w; go_simp; first | done | (with_reducible rfl))
          refine wpAny_take (i := 5) (v := ?vc44) rfl (by kernel_rfl) (by kernel_rfl) (by kernel_rfl) (fun _ _ _ h => h) (Or.inl ⟨by kernel_rfl, ?hc44⟩) ?rc44
          case hc44 => (intro w; go_simp; first | done | (with_reducible rfl))
          refine wpAny_ready (rs := [6]) (by kernel_rfl) (by simp) ?_
          refine AllReady.cons rfl (fun K hK => ?_) AllReady.nil
          go_simp
          refine hK _ _ ?_
          clear hK K
          refine wpAny_ready (rs := [7]) (by kernel_rfl) (by simp) ?_
          refine AllReady.cons rfl (fun K hK => ?_) AllReady.nil
          go_simp
          with_reducible refine (hi2 _).mono ?_
          rintro e w5 ⟨rfl, hb5⟩
          have K5 := Lib.hid (K4.out.under hb5)
          obtain ⟨p5, q5⟩ := K5.out.cells
          have l5 := blk_lt K5.out.box
          clear hb5
          refine hK _ _ ?_
          clear hK K
          refine wpAny_take (i := 8) (v := ?vc45) rfl (by kernel_rfl) (by kernel_rfl) (by kernel_rfl) (fun _ _ _ h => h) (Or.inl ⟨by kernel_rfl, ?hc45⟩) ?rc45
          case hc45 => (intro w; go_simp; first | done | (with_reducible rfl))
          refine wpAny_take (i := 9) (v := ?vc46) rfl (by kernel_rfl) (by kernel_rfl) (by kernel_rfl) (fun _ _ _ h => h) (Or.inl ⟨by kernel_rfl, ?hc46⟩) ?rc46
          case hc46 => (intro w; go_simp; first | done | (with_reducible rfl))
          refine wpAny_take (i := 10) (v := ?vc47) rfl (by kernel_rfl) (by kernel_rfl) (by kernel_rfl) (fun _ _ _ h => h) (Or.inl ⟨by kernel_rfl, ?hc47⟩) ?rc47
          case hc47 => (intro w; go_simp; first | done | (with_reducible rfl))
          refine wpAny_ready (rs := [11, 12]) (by kernel_rfl) (by simp) ?_
          refine AllReady.cons rfl (fun K hK => ?_) ?_
          · skip
            go_simp
            with_reducible refine (hn1 _).mono ?_
            rintro e w6 ⟨g6, rfl, hg6, hb6⟩
            have K6 := Lib.hid (K5.out.under hb6)
            have G6 := Lib.hid hg6
            obtain ⟨p6, q6⟩ := K6.out.cells
            have l6 := blk_lt K6.out.box
            clear hb6
            refine hK _ _ ?_
            clear hK K
            refine wpAny_ready (rs := [12]) (by kernel_rfl) (by simp) ?_
            refine AllReady.cons rfl (fun K hK => ?_) AllReady.nil
            go_simp
            refine hK _ _ ?_
            clear hK K
            refine wpAny_ready (rs := [13]) (by kernel_rfl) (by simp) ?_
            refine AllReady.cons rfl (fun K hK => ?_) AllReady.nil
            go_simp
            with_reducible refine (ht1 _ _ G6.out).mono ?_
            rintro e w7 ⟨rfl, hb7⟩
            have K7 := Lib.hid (K6.out.under hb7)
            obtain ⟨p7, q7⟩ := K7.out.cells
            have l7 := blk_lt K7.out.box
            clear hb7
            refine hK _ _ ?_
            clear hK K
            refine wpAny_take (i := 14) (v := ?vc48) rfl (by kernel_rfl) (by kernel_rfl) (by kernel_rfl) (fun _ _ _ h => h) (Or.inl ⟨by kernel_rfl, ?hc48⟩) ?rc48
            case hc48 => (intro w; go_simp; first | done | (with_reducible rfl))
            refine wpAny_take (i := 15) (v := ?vc49) rfl (by kernel_rfl) (by kernel_rfl) (by kernel_rfl) (fun _ _ _ h => h) (Or.inl ⟨by kernel_rfl, ?hc49⟩) ?rc49
            case hc49 => (intro w; go_simp; first | done | (with_reducible rfl))
            refine wpAny_ready (rs := [16, 17]) (by kernel_rfl) (by simp) ?_
            refine AllReady.cons rfl (fun K hK => ?_) ?_
            · skip
              go_simp
              with_reducible refine (hn2 _).mono ?_
              rintro e w8 ⟨g8, rfl, hg8, hb8⟩
              have K8 := Lib.hid (K7.out.under hb8)
              have G8 := Lib.hid hg8
              obtain ⟨p8, q8⟩ := K8.out.cells
              have l8 := blk_lt K8.out.box
              clear hb8
              refine hK _ _ ?_
              clear hK K
              refine wpAny_ready (rs := [17]) (by kernel_rfl) (by simp) ?_
              refine AllReady.cons rfl (fun K hK => ?_) AllReady.nil
              go_simp
              refine hK _ _ ?_
              clear hK K
              refine wpAny_ready (rs := [18]) (by kernel_rfl) (by simp) ?_
              refine AllReady.cons rfl (fun K hK => ?_) AllReady.nil
              go_simp
              with_reducible refine (ht2 _ _ G8.out).mono ?_
              rintro e w9 ⟨rfl, hb9⟩
              have K9 := Lib.hid (K8.out.under hb9)
              obtain ⟨p9, q9⟩ := K9.out.cells
              have l9 := blk_lt K9.out.box
              clear hb9
              refine hK _ _ ?_
              clear hK K
              refine wpAny_take (i := 19) (v := ?vc410) rfl (by kernel_rfl) (by kernel_rfl) (by kernel_rfl) (fun _ _ _ h => h) (Or.inl ⟨by kernel_rfl, ?hc410⟩) ?rc410
              case hc410 => (intro w; go_simp; first | done | (with_reducible rfl))
              refine wpAny_take (i := 20) (v := ?vc411) rfl (by kernel_rfl) (by kernel_rfl) (by kernel_rfl) (fun _ _ _ h => h) (Or.inl ⟨by kernel_rfl, ?hc411⟩) ?rc411
              case hc411 => (intro w; go_simp; first | done | (with_reducible rfl))
              refine wpAny_take (i := 21) (v := undef) rfl (by kernel_rfl) (by kernel_rfl) (by kernel_rfl) (fun _ _ _ h => h) (Or.inr ⟨by kernel_rfl, rfl⟩) ?_
              refine wpAny_take (i := 22) (v := undef) rfl (by kernel_rfl) (by kernel_rfl) (by kernel_rfl) (fun _ _ _ h => h) (Or.inr ⟨by kernel_rfl, rfl⟩) ?_
              refine wpAny_take (i := 23) (v := undef) rfl (by kernel_rfl) (by kernel_rfl) (by kernel_rfl) (fun _ _ _ h => h) (Or.inr ⟨by kernel_rfl, rfl⟩) ?_
              refine wpAny_take (i := 24) (v := undef) rfl (by kernel_rfl) (by kernel_rfl) (by kernel_rfl) (fun _ _ _ h => h) (Or.inr ⟨by kernel_rfl, rfl⟩) ?_
              refine wpAny_take (i := 25) (v := ?vc416) rfl (by kernel_rfl) (by kernel_rfl) (by kernel_rfl) (fun _ _ _ h => h) (Or.inl ⟨by kernel_rfl, ?hc416⟩) ?rc416
              case hc416 => (intro w; go_simp; first | done | (with_reducible rfl))
              refine wpAny_ready (rs := [26]) (by kernel_rfl) (by simp) ?_
              refine AllReady.cons rfl (fun K hK => ?_) AllReady.nil
              go_simp
              refine hK _ _ ?_
              clear hK K
              refine wpAny_done (by kernel_rfl) ?_ _
              try go_simp
              go_wp2
              go_ret
              exact ⟨rfl, K9.out.bel⟩
            refine AllReady.cons rfl (fun K hK => ?_) AllReady.nil
            go_simp
            refine hK _ _ ?_
            clear hK K
            refine wpAny_ready (rs := [16]) (by kernel_rfl) (by simp) ?_
            refine AllReady.cons rfl (fun K hK => ?_) AllReady.nil
            go_simp
            with_reducible refine (hn2 _).mono ?_
            rintro e w8 ⟨g8, rfl, hg8, hb8⟩
            have K8 := Lib.hid (K7.out.under hb8)
            have G8 := Lib.hid hg8
            obtain ⟨p8, q8⟩ := K8.out.cells
            have l8 := blk_lt K8.out.box
            clear hb8
            refine hK _ _ ?_
            clear hK K
            refine wpAny_ready (rs := [18]) (by kernel_rfl) (by simp) ?_
            refine AllReady.cons rfl (fun K hK => ?_) AllReady.nil
            go_simp
            with_reducible refine (ht2 _ _ G8.out).mono ?_
            rintro e w9 ⟨rfl, hb9⟩
            have K9 := Lib.hid (K8.out.under hb9)
            obtain ⟨p9, q9⟩ := K9.out.cells
            have l9 := blk_lt K9.out.box
            clear hb9
            refine hK _ _ ?_
            clear hK K
            refine wpAny_take (i := 19) (v := ?vc417) rfl (by kernel_rfl) (by kernel_rfl) (by kernel_rfl) (fun _ _ _ h => h) (Or.inl ⟨by kernel_rfl, ?hc417⟩) ?rc417
            case hc417 => (intro w; go_simp; first | done | (with_reducible rfl))
            refine wpAny_take (i := 20) (v := ?vc418) rfl (by kernel_rfl) (by kernel_rfl) (by kernel_rfl) (fun _ _ _ h => h) (Or.inl ⟨by kernel_rfl, ?hc418⟩) ?rc418
            case hc418 => (intro w; go_simp; first | done | (with_reducible rfl))
            refine wpAny_take (i := 21) (v := undef) rfl (by kernel_rfl) (by kernel_rfl) (by kernel_rfl) (fun _ _ _ h => h) (Or.inr ⟨by kernel_rfl, rfl⟩) ?_
            refine wpAny_take (i := 22) (v := undef) rfl (by kernel_rfl) (by kernel_rfl) (by kernel_rfl) (fun _ _ _ h => h) (Or.inr ⟨by kernel_rfl, rfl⟩) ?_
            refine wpAny_take (i := 23) (v := undef) rfl (by kernel_rfl) (by kernel_rfl) (by kernel_rfl) (fun _ _ _ h => h) (Or.inr ⟨by kernel_rfl, rfl⟩) ?_
            refine wpAny_take (i := 24) (v := undef) rfl (by kernel_rfl) (by kernel_rfl) (by kernel_rfl) (fun _ _ _ h => h) (Or.inr ⟨by kernel_rfl, rfl⟩) ?_
            refine wpAny_take (i := 25) (v := ?vc423) rfl (by kernel_rfl) (by kernel_rfl) (by kernel_rfl) (fun _ _ _ h => h) (Or.inl ⟨by kernel_rfl, ?hc423⟩) ?rc423
            case hc423 => (intro w; go_simp; first | done | (with_reducible rfl))
            refine wpAny_ready (rs := [26]) (by kernel_rfl) (by simp) ?_
            refine AllReady.cons rfl (fun K hK => ?_) AllReady.nil
            go_simp
            refine hK _ _ ?_
            clear hK K
            refine wpAny_done (by kernel_rfl) ?_ _
            try go_simp
            go_wp2
            go_ret
            exact ⟨rfl, K9.out.bel⟩
          refine AllReady.cons rfl (fun K hK => ?_) AllReady.nil
          go_simp
          refine hK _ _ ?_
          clear hK K
          refine wpAny_ready (rs := [11]) (by kernel_rfl) (by simp) ?_
          refine AllReady.cons rfl (fun K hK => ?_) AllReady.nil
          go_simp
          with_reducible refine (hn1 _).mono ?_
          rintro e w6 ⟨g6, rfl, hg6, hb6⟩
          have K6 := Lib.hid (K5.out.under hb6)
          have G6 := Lib.hid hg6
          obtain ⟨p6, q6⟩ := K6.out.cells
          have l6 := blk_lt K6.out.box
          clear hb6
          refine hK _ _ ?_
          clear hK K
          refine wpAny_ready (rs := [13]) (by kernel_rfl) (by simp) ?_
          refine AllReady.cons rfl (fun K hK => ?_) AllReady.nil
          go_simp
          with_reducible refine (ht1 _ _ G6.out).mono ?_
          rintro e w7 ⟨rfl, hb7⟩
          have K7 := Lib.hid (K6.out.under hb7)
          obtain ⟨p7, q7⟩ := K7.out.cells
          have l7 := blk_lt K7.out.box
          clear hb7
          refine hK _ _ ?_
          clear hK K
          refine wpAny_take (i := 14) (v := ?vc424) rfl (by kernel_rfl) (by kernel_rfl) (by kernel_rfl) (fun _ _ _ h => h) (Or.inl ⟨by kernel_rfl, ?hc424⟩) ?rc424
          case hc424 => (intro w; go_simp; first | done | (with_reducible rfl))
          refine wpAny_take (i := 15) (v := ?vc425) rfl (by kernel_rfl) (by kernel_rfl) (by kernel_rfl) (fun _ _ _ h => h) (Or.inl ⟨by kernel_rfl, ?hc425⟩) ?rc425
          case hc425 => (intro w; go_simp; first | done | (with_reducible rfl))
          refine wpAny_ready (rs := [16, 17]) (by kernel_rfl) (by simp) ?_
          refine AllReady.cons rfl (fun K hK => ?_) ?_
          · skip
            go_simp
            with_reducible refine (hn2 _).mono ?_
            rintro e w8 ⟨g8, rfl, hg8, hb8⟩
            have K8 := Lib.hid (K7.out.under hb8)
            have G8 := Lib.hid hg8
            obtain ⟨p8, q8⟩ := K8.out.cells
            have l8 := blk_lt K8.out.box
            clear hb8
            refine hK _ _ ?_
            clear hK K
            refine wpAny_ready (rs := [17]) (by kernel_rfl) (by simp) ?_
            refine AllReady.cons rfl (fun K hK => ?_) AllReady.nil
            go_simp
            refine hK _ _ ?_
            clear hK K
            refine wpAny_ready (rs := [18]) (by kernel_rfl) (by simp) ?_
            refine AllReady.cons rfl (fun K hK => ?_) AllReady.nil
            go_simp
            with_reducible refine (ht2 _ _ G8.out).mono ?_
            rintro e w9 ⟨rfl, hb9⟩
            have K9 := Lib.hid (K8.out.under hb9)
            obtain ⟨p9, q9⟩ := K9.out.cells
            have l9 := blk_lt K9.out.box
            clear hb9
            refine hK _ _ ?_
            clear hK K
            refine wpAny_take (i := 19) (v := ?vc426) rfl (by kernel_rfl) (by kernel_rfl) (by kernel_rfl) (fun _ _ _ h => h) (Or.inl ⟨by kernel_rfl, ?hc426⟩) ?rc426
            case hc426 => (intro w; go_simp; first | done | (with_reducible rfl))
            refine wpAny_take (i := 20) (v := ?vc427) rfl (by kernel_rfl) (by kernel_rfl) (by kernel_rfl) (fun _ _ _ h => h) (Or.inl ⟨by kernel_rfl, ?hc427⟩) ?rc427
            case hc427 => (intro w; go_simp; first | done | (with_reducible rfl))
            refine wpAny_take (i := 21) (v := undef) rfl (by kernel_rfl) (by kernel_rfl) (by kernel_rfl) (fun _ _ _ h => h) (Or.inr ⟨by kernel_rfl, rfl⟩) ?_
            refine wpAny_take (i := 22) (v := undef) rfl (by kernel_rfl) (by kernel_rfl) (by kernel_rfl) (fun _ _ _ h => h) (Or.inr ⟨by kernel_rfl, rfl⟩) ?_
            refine wpAny_take (i := 23) (v := undef) rfl (by kernel_rfl) (by kernel_rfl) (by kernel_rfl) (fun _ _ _ h => h) (Or.inr ⟨by kernel_rfl, rfl⟩) ?_
            refine wpAny_take (i := 24) (v := undef) rfl (by kernel_rfl) (by kernel_rfl) (by kernel_rfl) (fun _ _ _ h => h) (Or.inr ⟨by kernel_rfl, rfl⟩) ?_
            refine wpAny_take (i := 25) (v := ?vc432) rfl (by kernel_rfl) (by kernel_rfl) (by kernel_rfl) (fun _ _ _ h => h) (Or.inl ⟨by kernel_rfl, ?hc432⟩) ?rc432
            case hc432 => (intro w; go_simp; first | done | (with_reducible rfl))
            refine wpAny_ready (rs := [26]) (by kernel_rfl) (by simp) ?_
            refine AllReady.cons rfl (fun K hK => ?_) AllReady.nil
            go_simp
            refine hK _ _ ?_
            clear hK K
            refine wpAny_done (by kernel_rfl) ?_ _
            try go_simp
            go_wp2
            go_ret
            exact ⟨rfl, K9.out.bel⟩
          refine AllReady.cons rfl (fun K hK => ?_) AllReady.nil
          go_simp
          refine hK _ _ ?_
          clear hK K
          refine wpAny_ready (rs := [16]) (by kernel_rfl) (by simp) ?_
          refine AllReady.cons rfl (fun K hK => ?_) AllReady.nil
          go_simp
          with_reducible refine (hn2 _).mono ?_
          rintro e w8 ⟨g8, rfl, hg8, hb8⟩
          have K8 := Lib.hid (K7.out.under hb8)
          have G8 := Lib.hid hg8
          obtain ⟨p8, q8⟩ := K8.out.cells
          have l8 := blk_lt K8.out.box
          clear hb8
          refine hK _ _ ?_
          clear hK K
          refine wpAny_ready (rs := [18]) (by kernel_rfl) (by simp) ?_
          refine AllReady.cons rfl (fun K hK => ?_) AllReady.nil
          go_simp
          with_reducible refine (ht2 _ _ G8.out).mono ?_
          rintro e w9 ⟨rfl, hb9⟩
          have K9 := Lib.hid (K8.out.under hb9)
          obtain ⟨p9, q9⟩ := K9.out.cells
          have l9 := blk_lt K9.out.box
          clear hb9
          refine hK _ _ ?_
          clear hK K
          refine wpAny_take (i := 19) (v := ?vc433) rfl (by kernel_rfl) (by kernel_rfl) (by kernel_rfl) (fun _ _ _ h => h) (Or.inl ⟨by kernel_rfl, ?hc433⟩) ?rc433
          case hc433 => (intro w; go_simp; first | done | (with_reducible rfl))
          refine wpAny_take (i := 20) (v := ?vc434) rfl (by kernel_rfl) (by kernel_rfl) (by kernel_rfl) (fun _ _ _ h => h) (Or.inl ⟨by kernel_rfl, ?hc434⟩) ?rc434
          case hc434 => (intro w; go_simp; first | done | (with_reducible rfl))
          refine wpAny_take (i := 21) (v := undef) rfl (by kernel_rfl) (by kernel_rfl) (by kernel_rfl) (fun _ _ _ h => h) (Or.inr ⟨by kernel_rfl, rfl⟩) ?_
          refine wpAny_take (i := 22) (v := undef) rfl (by kernel_rfl) (by kernel_rfl) (by kernel_rfl) (fun _ _ _ h => h) (Or.inr ⟨by kernel_rfl, rfl⟩) ?_
          refine wpAny_take (i := 23) (v := undef) rfl (by kernel_rfl) (by kernel_rfl) (by kernel_rfl) (fun _ _ _ h => h) (Or.inr ⟨by kernel_rfl, rfl⟩) ?_
          refine wpAny_take (i := 24) (v := undef) rfl (by kernel_rfl) (by kernel_rfl) (by kernel_rfl) (fun _ _ _ h => h) (Or.inr ⟨by kernel_rfl, rfl⟩) ?_
          refine wpAny_take (i := 25) (v := ?vc439) rfl (by kernel_rfl) (by kernel_rfl) (by kernel_rfl) (fun _ _ _ h => h) (Or.inl ⟨by kernel_rfl, ?hc439⟩) ?rc439
          case hc439 => (intro w; go_simp; first | done | (with_reducible rfl))
          refine wpAny_ready (rs := [26]) (by kernel_rfl) (by simp) ?_
          refine AllReady.cons rfl (fun K hK => ?_) AllReady.nil
          go_simp
          refine hK _ _ ?_
          clear hK K
          refine wpAny_done (by kernel_rfl) ?_ _
          try go_simp
          go_wp2
          go_ret
          exact ⟨rfl, K9.out.bel⟩
        | false =>
          simp only [Bool.not_true, Bool.false_or]
          obtain ⟨z, hz⟩ : ∃ z : Int, (((n ++ [58, 32] ++ v).length : Nat) : Int) = z := ⟨_, rfl⟩
          have hzz : n.length + 2 + v.length = (n ++ [58, 32] ++ v).length := by simp only [List.length_append, List.length_cons, List.length_nil]
          obtain ⟨L, hL⟩ : ∃ L, n ++ [58, 32] ++ v = L := ⟨_, rfl⟩
          rw [hzz]
          rw [hL] at hl hz hzz ⊢
          clear hL
          by_cases hc : 4096 < L.length
          · have hc' : (4096 : Int) < z := by omega
            rw [show decide (4096 < L.length) = true by simpa using hc]
            clear hc hzz
            go_enter Tryz.func71, Tryz.ntmps71
            go_upto_region 1 with (fail)
            rw [← hX]
            clear hX
            refine wp_region_any (by kernel_rfl) ?_
            change wpAny _ _ _ _ _ _ _ X.drew
            have p0 := K0.out.cells.1
            have q0 := K0.out.cells.2
            have l0 := blk_lt K0.out.box
            refine wpAny_take (i := 0) (v := ?vc51) rfl (by kernel_rfl) (by kernel_rfl) (by kernel_rfl) (fun _ _ _ h => h) (Or.inl ⟨by kernel_rfl, ?hc51⟩) ?rc51
            case hc51 => (intro w; go_simp; first | done | (with_reducible rfl))
            refine wpAny_ready (rs := [1]) (by kernel_rfl) (by simp) ?_
            refine AllReady.cons rfl (fun K hK => ?_) AllReady.nil
            go_simp
            refine hK _ _ ?_
            clear hK K
            refine wpAny_ready (rs := [2]) (by kernel_rfl) (by simp) ?_
            refine AllReady.cons rfl (fun K hK => ?_) AllReady.nil
            go_simp
            with_reducible refine (hi1 _).mono ?_
            rintro e w4 ⟨rfl, hb4⟩
            have K4 := Lib.hid (K0.out.under hb4)
            obtain ⟨p4, q4⟩ := K4.out.cells
            have l4 := blk_lt K4.out.box
            clear hb4
            refine hK _ _ ?_
            clear hK K
            refine wpAny_take (i := 3) (v := ?vc52) rfl (by kernel_rfl) (by kernel_rfl) (by kernel_rfl) (fun _ _ _ h => h) (Or.inl ⟨by kernel_rfl, ?hc52⟩) ?rc52
            case hc52 => (intro w; go_simp; first | done | (with_reducible rfl))
            refine wpAny_take (i := 4) (v := ?vc53) rfl (by kernel_rfl) (by kernel_rfl) (by kernel_rfl) (fun _ _ _ h => h) (Or.inl ⟨by kernel_rfl, ?hc53⟩) ?rc53
            case hc53 => (intro w; go_simp; first | done | (with_reducible rfl))
            refine wpAny_take (i := 5) (v := ?vc54) rfl (by kernel_rfl) (by kernel_rfl) (by kernel_rfl) (fun _ _ _ h => h) (Or.inl ⟨by kernel_rfl, ?hc54⟩) ?rc54
            case hc54 => (intro w; go_simp; first | done | (with_reducible rfl))
            refine wpAny_ready (rs := [6]) (by kernel_rfl) (by simp) ?_
            refine AllReady.cons rfl (fun K hK => ?_) AllReady.nil
            go_simp
            refine hK _ _ ?_
            clear hK K
            refine wpAny_ready (rs := [7]) (by kernel_rfl) (by simp) ?_
            refine AllReady.cons rfl (fun K hK => ?_) AllReady.nil
            go_simp
            with_reducible refine (hi2 _).mono ?_
            rintro e w5 ⟨rfl, hb5⟩
            have K5 := Lib.hid (K4.out.under hb5)
            obtain ⟨p5, q5⟩ := K5.out.cells
            have l5 := blk_lt K5.out.box
            clear hb5
            refine hK _ _ ?_
            clear hK K
            refine wpAny_take (i := 8) (v := ?vc55) rfl (by kernel_rfl) (by kernel_rfl) (by kernel_rfl) (fun _ _ _ h => h) (Or.inl ⟨by kernel_rfl, ?hc55⟩) ?rc55
            case hc55 => (intro w; go_simp; first | done | (with_reducible rfl))
            refine wpAny_take (i := 9) (v := ?vc56) rfl (by kernel_rfl) (by kernel_rfl) (by kernel_rfl) (fun _ _ _ h => h) (Or.inl ⟨by kernel_rfl, ?hc56⟩) ?rc56
            case hc56 => (intro w; go_simp; first | done | (with_reducible rfl))
            refine wpAny_take (i := 10) (v := ?vc57) rfl (by kernel_rfl) (by kernel_rfl) (by kernel_rfl) (fun _ _ _ h => h) (Or.inl ⟨by kernel_rfl, ?hc57⟩) ?rc57
            case hc57 => (intro w; go_simp; first | done | (with_reducible rfl))
            refine wpAny_ready (rs := [11, 12]) (by kernel_rfl) (by simp) ?_
            refine AllReady.cons rfl (fun K hK => ?_) ?_
            · skip
              go_simp
              with_reducible refine (hn1 _).mono ?_
              rintro e w6 ⟨g6, rfl, hg6, hb6⟩
              have K6 := Lib.hid (K5.out.under hb6)
              have G6 := Lib.hid hg6
              obtain ⟨p6, q6⟩ := K6.out.cells
              have l6 := blk_lt K6.out.box
              clear hb6
              refine hK _ _ ?_
              clear hK K
              refine wpAny_ready (rs := [12]) (by kernel_rfl) (by simp) ?_
              refine AllReady.cons rfl (fun K hK => ?_) AllReady.nil
              go_simp
              refine hK _ _ ?_
              clear hK K
              refine wpAny_ready (rs := [13]) (by kernel_rfl) (by simp) ?_
              refine AllReady.cons rfl (fun K hK => ?_) AllReady.nil
              go_simp
              with_reducible refine (ht1 _ _ G6.out).mono ?_
              rintro e w7 ⟨rfl, hb7⟩
              have K7 := Lib.hid (K6.out.under hb7)
              obtain ⟨p7, q7⟩ := K7.out.cells
              have l7 := blk_lt K7.out.box
              clear hb7
              refine hK _ _ ?_
              clear hK K
              refine wpAny_take (i := 14) (v := ?vc58) rfl (by kernel_rfl) (by kernel_rfl) (by kernel_rfl) (fun _ _ _ h => h) (Or.inl ⟨by kernel_rfl, ?hc58⟩) ?rc58
              case hc58 => (intro w; go_simp; first | done | (with_reducible rfl))
              refine wpAny_take (i := 15) (v := ?vc59) rfl (by kernel_rfl) (by kernel_rfl) (by kernel_rfl) (fun _ _ _ h => h) (Or.inl ⟨by kernel_rfl, ?hc59⟩) ?rc59
              case hc59 => (intro w; go_simp; first | done | (with_reducible rfl))
              refine wpAny_ready (rs := [16, 17]) (by kernel_rfl) (by simp) ?_
              refine AllReady.cons rfl (fun K hK => ?_) ?_
              · skip
                go_simp
                with_reducible refine (hn2 _).mono ?_
                rintro e w8 ⟨g8, rfl, hg8, hb8⟩
                have K8 := Lib.hid (K7.out.under hb8)
                have G8 := Lib.hid hg8
                obtain ⟨p8, q8⟩ := K8.out.cells
                have l8 := blk_lt K8.out.box
                clear hb8
                refine hK _ _ ?_
                clear hK K
                refine wpAny_ready (rs := [17]) (by kernel_rfl) (by simp) ?_
                refine AllReady.cons rfl (fun K hK => ?_) AllReady.nil
                go_simp
                refine hK _ _ ?_
                clear hK K
                refine wpAny_ready (rs := [18]) (by kernel_rfl) (by simp) ?_
                refine AllReady.cons rfl (fun K hK => ?_) AllReady.nil
                go_simp
                with_reducible refine (ht2 _ _ G8.out).mono ?_
                rintro e w9 ⟨rfl, hb9⟩
                have K9 := Lib.hid (K8.out.under hb9)
                obtain ⟨p9, q9⟩ := K9.out.cells
                have l9 := blk_lt K9.out.box
                clear hb9
                refine hK _ _ ?_
                clear hK K
                refine wpAny_take (i := 19) (v := ?vc510) rfl (by kernel_rfl) (by kernel_rfl) (by kernel_rfl) (fun _ _ _ h => h) (Or.inl ⟨by kernel_rfl, ?hc510⟩) ?rc510
                case hc510 => (intro w; go_simp; first | done | (with_reducible rfl))
                refine wpAny_take (i := 20) (v := ?vc511) rfl (by kernel_rfl) (by kernel_rfl) (by kernel_rfl) (fun _ _ _ h => h) (Or.inl ⟨by kernel_rfl, ?hc511⟩) ?rc511
                case hc511 => (intro w; go_simp; first | done | (with_reducible rfl))
                refine wpAny_ready (rs := [21]) (by kernel_rfl) (by simp) ?_
                refine AllReady.cons rfl (fun K hK => ?_) AllReady.nil
                go_simp
                refine hK _ _ ?_
                clear hK K
                refine wpAny_ready (rs := [22]) (by kernel_rfl) (by simp) ?_
                refine AllReady.cons rfl (fun K hK => ?_) AllReady.nil
                go_simp
                with_reducible refine (hl _).mono ?_
                rintro e w10 ⟨rfl, hb10⟩
                have K10 := Lib.hid (K9.out.under hb10)
                obtain ⟨p10, q10⟩ := K10.out.cells
                have l10 := blk_lt K10.out.box
                clear hb10
                refine hK _ _ ?_
                clear hK K
                refine wpAny_take (i := 23) (v := ?vc512) rfl (by kernel_rfl) (by kernel_rfl) (by kernel_rfl) (fun _ _ _ h => h) (Or.inl ⟨by kernel_rfl, ?hc512⟩) ?rc512
                case hc512 => (intro w; go_simp; first | done | (with_reducible rfl))
                refine wpAny_take (i := 24) (v := ?vc513) rfl (by kernel_rfl) (by kernel_rfl) (by kernel_rfl) (fun _ _ _ h => h) (Or.inl ⟨by kernel_rfl, ?hc513⟩) ?rc513
                case hc513 => (intro w; go_simp; first | done | (with_reducible rfl))
                refine wpAny_take (i := 25) (v := ?vc514) rfl (by kernel_rfl) (by kernel_rfl) (by kernel_rfl) (fun _ _ _ h => h) (Or.inl ⟨by kernel_rfl, ?hc514⟩) ?rc514
                case hc514 => (intro w; go_simp; first | done | (with_reducible rfl))
                refine wpAny_ready (rs := [26]) (by kernel_rfl) (by simp) ?_
                refine AllReady.cons rfl (fun K hK => ?_) AllReady.nil
                go_simp
                refine hK _ _ ?_
                clear hK K
                refine wpAny_done (by kernel_rfl) ?_ _
                try go_simp
                go_wp2
                go_ret
                exact ⟨rfl, K10.out.bel⟩
              refine AllReady.cons rfl (fun K hK => ?_) AllReady.nil
              go_simp
              refine hK _ _ ?_
              clear hK K
              refine wpAny_ready (rs := [16]) (by kernel_rfl) (by simp) ?_
              refine AllReady.cons rfl (fun K hK => ?_) AllReady.nil
              go_simp
              with_reducible refine (hn2 _).mono ?_
              rintro e w8 ⟨g8, rfl, hg8, hb8⟩
              have K8 := Lib.hid (K7.out.under hb8)
              have G8 := Lib.hid hg8
              obtain ⟨p8, q8⟩ := K8.out.cells
              have l8 := blk_lt K8.out.box
              clear hb8
              refine hK _ _ ?_
              clear hK K
              refine wpAny_ready (rs := [18]) (by kernel_rfl) (by simp) ?_
              refine AllReady.cons rfl (fun K hK => ?_) AllReady.nil
              go_simp
              with_reducible refine (ht2 _ _ G8.out).mono ?_
              rintro e w9 ⟨rfl, hb9⟩
              have K9 := Lib.hid (K8.out.under hb9)
              obtain ⟨p9, q9⟩ := K9.out.cells
              have l9 := blk_lt K9.out.box
              clear hb9
              refine hK _ _ ?_
              clear hK K
              refine wpAny_take (i := 19) (v := ?vc515) rfl (by kernel_rfl) (by kernel_rfl) (by kernel_rfl) (fun _ _ _ h => h) (Or.inl ⟨by kernel_rfl, ?hc515⟩) ?rc515
              case hc515 => (intro w; go_simp; first | done | (with_reducible rfl))
              refine wpAny_take (i := 20) (v := ?vc516) rfl (by kernel_rfl) (by kernel_rfl) (by kernel_rfl) (fun _ _ _ h => h) (Or.inl ⟨by kernel_rfl, ?hc516⟩) ?rc516
              case hc516 => (intro w; go_simp; first | done | (with_reducible rfl))
              refine wpAny_ready (rs := [21]) (by kernel_rfl) (by simp) ?_
              refine AllReady.cons rfl (fun K hK => ?_) AllReady.nil
              go_simp
              refine hK _ _ ?_
              clear hK K
              refine wpAny_ready (rs := [22]) (by kernel_rfl) (by simp) ?_
              refine AllReady.cons rfl (fun K hK => ?_) AllReady.nil
              go_simp
              with_reducible refine (hl _).mono ?_
              rintro e w10 ⟨rfl, hb10⟩
              have K10 := Lib.hid (K9.out.under hb10)
              obtain ⟨p10, q10⟩ := K10.out.cells
              have l10 := blk_lt K10.out.box
              clear hb10
              refine hK _ _ ?_
              clear hK K
              refine wpAny_take (i := 23) (v := ?vc517) rfl (by kernel_rfl) (by kernel_rfl) (by kernel_rfl) (fun _ _ _ h => h) (Or.inl ⟨by kernel_rfl, ?hc517⟩) ?rc517
              case hc517 => (intro w; go_simp; first | done | (with_reducible rfl))
              refine wpAny_take (i := 24) (v := ?vc518) rfl (by kernel_rfl) (by kernel_rfl) (by kernel_rfl) (fun _ _ _ h => h) (Or.inl ⟨by kernel_rfl, ?hc518⟩) ?rc518
              case hc518 => (intro w; go_simp; first | done | (with_reducible rfl))
              refine wpAny_take (i := 25) (v := ?vc519) rfl (by kernel_rfl) (by kernel_rfl) (by kernel_rfl) (fun _ _ _ h => h) (Or.inl ⟨by kernel_rfl, ?hc519⟩) ?rc519
              case hc519 => (intro w; go_simp; first | done | (with_reducible rfl))
              refine wpAny_ready (rs := [26]) (by kernel_rfl) (by simp) ?_
              refine AllReady.cons rfl (fun K hK => ?_) AllReady.nil
              go_simp
              refine hK _ _ ?_
              clear hK K
              refine wpAny_done (by kernel_rfl) ?_ _
              try go_simp
              go_wp2
              go_ret
              exact ⟨rfl, K10.out.bel⟩
            refine AllReady.cons rfl (fun K hK => ?_) AllReady.nil
            go_simp
            refine hK _ _ ?_
            clear hK K
            refine wpAny_ready (rs := [11]) (by kernel_rfl) (by simp) ?_
            refine AllReady.cons rfl (fun K hK => ?_) AllReady.nil
            go_simp
            with_reducible refine (hn1 _).mono ?_
            rintro e w6 ⟨g6, rfl, hg6, hb6⟩
            have K6 := Lib.hid (K5.out.under hb6)
            have G6 := Lib.hid hg6
            obtain ⟨p6, q6⟩ := K6.out.cells
            have l6 := blk_lt K6.out.box
            clear hb6
            refine hK _ _ ?_
            clear hK K
            refine wpAny_ready (rs := [13]) (by kernel_rfl) (by simp) ?_
            refine AllReady.cons rfl (fun K hK => ?_) AllReady.nil
            go_simp
            with_reducible refine (ht1 _ _ G6.out).mono ?_
            rintro e w7 ⟨rfl, hb7⟩
            have K7 := Lib.hid (K6.out.under hb7)
            obtain ⟨p7, q7⟩ := K7.out.cells
            have l7 := blk_lt K7.out.box
            clear hb7
            refine hK _ _ ?_
            clear hK K
            refine wpAny_take (i := 14) (v := ?vc520) rfl (by kernel_rfl) (by kernel_rfl) (by kernel_rfl) (fun _ _ _ h => h) (Or.inl ⟨by kernel_rfl, ?hc520⟩) ?rc520
            case hc520 => (intro w; go_simp; first | done | (with_reducible rfl))
            refine wpAny_take (i := 15) (v := ?vc521) rfl (by kernel_rfl) (by kernel_rfl) (by kernel_rfl) (fun _ _ _ h => h) (Or.inl ⟨by kernel_rfl, ?hc521⟩) ?rc521
            case hc521 => (intro w; go_simp; first | done | (with_reducible rfl))
            refine wpAny_ready (rs := [16, 17]) (by kernel_rfl) (by simp) ?_
            refine AllReady.cons rfl (fun K hK => ?_) ?_
            · skip
              go_simp
              with_reducible refine (hn2 _).mono ?_
              rintro e w8 ⟨g8, rfl, hg8, hb8⟩
              have K8 := Lib.hid (K7.out.under hb8)
              have G8 := Lib.hid hg8
              obtain ⟨p8, q8⟩ := K8.out.cells
              have l8 := blk_lt K8.out.box
              clear hb8
              refine hK _ _ ?_
              clear hK K
              refine wpAny_ready (rs := [17]) (by kernel_rfl) (by simp) ?_
              refine AllReady.cons rfl (fun K hK => ?_) AllReady.nil
              go_simp
              refine hK _ _ ?_
              clear hK K
              refine wpAny_ready (rs := [18]) (by kernel_rfl) (by simp) ?_
              refine AllReady.cons rfl (fun K hK => ?_) AllReady.nil
              go_simp
              with_reducible refine (ht2 _ _ G8.out).mono ?_
              rintro e w9 ⟨rfl, hb9⟩
              have K9 := Lib.hid (K8.out.under hb9)
              obtain ⟨p9, q9⟩ := K9.out.cells
              have l9 := blk_lt K9.out.box
              clear hb9
              refine hK _ _ ?_
              clear hK K
              refine wpAny_take (i := 19) (v := ?vc522) rfl (by kernel_rfl) (by kernel_rfl) (by kernel_rfl) (fun _ _ _ h => h) (Or.inl ⟨by kernel_rfl, ?hc522⟩) ?rc522
              case hc522 => (intro w; go_simp; first | done | (with_reducible rfl))
              refine wpAny_take (i := 20) (v := ?vc523) rfl (by kernel_rfl) (by kernel_rfl) (by kernel_rfl) (fun _ _ _ h => h) (Or.inl ⟨by kernel_rfl, ?hc523⟩) ?rc523
              case hc523 => (intro w; go_simp; first | done | (with_reducible rfl))
              refine wpAny_ready (rs := [21]) (by kernel_rfl) (by simp) ?_
              refine AllReady.cons rfl (fun K hK => ?_) AllReady.nil
              go_simp
              refine hK _ _ ?_
              clear hK K
              refine wpAny_ready (rs := [22]) (by kernel_rfl) (by simp) ?_
              refine AllReady.cons rfl (fun K hK => ?_) AllReady.nil
              go_simp
              with_reducible refine (hl _).mono ?_
              rintro e w10 ⟨rfl, hb10⟩
              have K10 := Lib.hid (K9.out.under hb10)
              obtain ⟨p10, q10⟩ := K10.out.cells
              have l10 := blk_lt K10.out.box
              clear hb10
              refine hK _ _ ?_
              clear hK K
              refine wpAny_take (i := 23) (v := ?vc524) rfl (by kernel_rfl) (by kernel_rfl) (by kernel_rfl) (fun _ _ _ h => h) (Or.inl ⟨by kernel_rfl, ?hc524⟩) ?rc524
              case hc524 => (intro w; go_simp; first | done | (with_reducible rfl))
              refine wpAny_take (i := 24) (v := ?vc525) rfl (by kernel_rfl) (by kernel_rfl) (by kernel_rfl) (fun _ _ _ h => h) (Or.inl ⟨by kernel_rfl, ?hc525⟩) ?rc525
              case hc525 => (intro w; go_simp; first | done | (with_reducible rfl))
              refine wpAny_take (i := 25) (v := ?vc526) rfl (by kernel_rfl) (by kernel_rfl) (by kernel_rfl) (fun _ _ _ h => h) (Or.inl ⟨by kernel_rfl, ?hc526⟩) ?rc526
              case hc526 => (intro w; go_simp; first | done | (with_reducible rfl))
              refine wpAny_ready (rs := [26]) (by kernel_rfl) (by simp) ?_
              refine AllReady.cons rfl (fun K hK => ?_) AllReady.nil
              go_simp
              refine hK _ _ ?_
              clear hK K
              refine wpAny_done (by kernel_rfl) ?_ _
              try go_simp
              go_wp2
              go_ret
              exact ⟨rfl, K10.out.bel⟩
            refine AllReady.cons rfl (fun K hK => ?_) AllReady.nil
            go_simp
            refine hK _ _ ?_
            clear hK K
            refine wpAny_ready (rs := [16]) (by kernel_rfl) (by simp) ?_
            refine AllReady.cons rfl (fun K hK => ?_) AllReady.nil
            go_simp
            with_reducible refine (hn2 _).mono ?_
            rintro e w8 ⟨g8, rfl, hg8, hb8⟩
            have K8 := Lib.hid (K7.out.under hb8)
            have G8 := Lib.hid hg8
            obtain ⟨p8, q8⟩ := K8.out.cells
            have l8 := blk_lt K8.out.box
            clear hb8
            refine hK _ _ ?_
            clear hK K
            refine wpAny_ready (rs := [18]) (by kernel_rfl) (by simp) ?_
            refine AllReady.cons rfl (fun K hK => ?_) AllReady.nil
            go_simp
            with_reducible refine (ht2 _ _ G8.out).mono ?_
            rintro e w9 ⟨rfl, hb9⟩
            have K9 := Lib.hid (K8.out.under hb9)
            obtain ⟨p9, q9⟩ := K9.out.cells
            have l9 := blk_lt K9.out.box
            clear hb9
            refine hK _ _ ?_
            clear hK K
            refine wpAny_take (i := 19) (v := ?vc527) rfl (by kernel_rfl) (by kernel_rfl) (by kernel_rfl) (fun _ _ _ h => h) (Or.inl ⟨by kernel_rfl, ?hc527⟩) ?rc527
            case hc527 => (intro w; go_simp; first | done | (with_reducible rfl))
            refine wpAny_take (i := 20) (v := ?vc528) rfl (by kernel_rfl) (by kernel_rfl) (by kernel_rfl) (fun _ _ _ h => h) (Or.inl ⟨by kernel_rfl, ?hc528⟩) ?rc528
            case hc528 => (intro w; go_simp; first | done | (with_reducible rfl))
            refine wpAny_ready (rs := [21]) (by kernel_rfl) (by simp) ?_
            refine AllReady.cons rfl (fun K hK => ?_) AllReady.nil
            go_simp
            refine hK _ _ ?_
            clear hK K
            refine wpAny_ready (rs := [22]) (by kernel_rfl) (by simp) ?_
            refine AllReady.cons rfl (fun K hK => ?_) AllReady.nil
            go_simp
            with_reducible refine (hl _).mono ?_
            rintro e w10 ⟨rfl, hb10⟩
            have K10 := Lib.hid (K9.out.under hb10)
            obtain ⟨p10, q10⟩ := K10.out.cells
            have l10 := blk_lt K10.out.box
            clear hb10
            refine hK _ _ ?_
            clear hK K
            refine wpAny_take (i := 23) (v := ?vc529) rfl (by kernel_rfl) (by kernel_rfl) (by kernel_rfl) (fun _ _ _ h => h) (Or.inl ⟨by kernel_rfl, ?hc529⟩) ?rc529
            case hc529 => (intro w; go_simp; first | done | (with_reducible rfl))
            refine wpAny_take (i := 24) (v := ?vc530) rfl (by kernel_rfl) (by kernel_rfl) (by kernel_rfl) (fun _ _ _ h => h) (Or.inl ⟨by kernel_rfl, ?hc530⟩) ?rc530
            case hc530 => (intro w; go_simp; first | done | (with_reducible rfl))
            refine wpAny_take (i := 25) (v := ?vc531) rfl (by kernel_rfl) (by kernel_rfl) (by kernel_rfl) (fun _ _ _ h => h) (Or.inl ⟨by kernel_rfl, ?hc531⟩) ?rc531
            case hc531 => (intro w; go_simp; first | done | (with_reducible rfl))
            refine wpAny_ready (rs := [26]) (by kernel_rfl) (by simp) ?_
            refine AllReady.cons rfl (fun K hK => ?_) AllReady.nil
            go_simp
            refine hK _ _ ?_
            clear hK K
            refine wpAny_done (by kernel_rfl) ?_ _
            try go_simp
            go_wp2
            go_ret
            exact ⟨rfl, K10.out.bel⟩
          · have hc' : ¬ (4096 : Int) < z := by omega
            rw [show decide (4096 < L.length) = false by simpa using hc]
            clear hc hzz
            go_enter Tryz.func71, Tryz.ntmps71
            go_upto_region 1 with (fail)
            rw [← hX]
            clear hX
            refine wp_region_any (by kernel_rfl) ?_
            change wpAny _ _ _ _ _ _ _ X.drew
            have p0 := K0.out.cells.1
            have q0 := K0.out.cells.2
            have l0 := blk_lt K0.out.box
            refine wpAny_take (i := 0) (v := ?vc61) rfl (by kernel_rfl) (by kernel_rfl) (by kernel_rfl) (fun _ _ _ h => h) (Or.inl ⟨by kernel_rfl, ?hc61⟩) ?rc61
            case hc61 => (intro w; go_simp; first | done | (with_reducible rfl))
            refine wpAny_ready (rs := [1]) (by kernel_rfl) (by simp) ?_
            refine AllReady.cons rfl (fun K hK => ?_) AllReady.nil
            go_simp
            refine hK _ _ ?_
            clear hK K
            refine wpAny_ready (rs := [2]) (by kernel_rfl) (by simp) ?_
            refine AllReady.cons rfl (fun K hK => ?_) AllReady.nil
            go_simp
            with_reducible refine (hi1 _).mono ?_
            rintro e w4 ⟨rfl, hb4⟩
            have K4 := Lib.hid (K0.out.under hb4)
            obtain ⟨p4, q4⟩ := K4.out.cells
            have l4 := blk_lt K4.out.box
            clear hb4
            refine hK _ _ ?_
            clear hK K
            refine wpAny_take (i := 3) (v := ?vc62) rfl (by kernel_rfl) (by kernel_rfl) (by kernel_rfl) (fun _ _ _ h => h) (Or.inl ⟨by kernel_rfl, ?hc62⟩) ?rc62
            case hc62 => (intro w; go_simp; first | done | (with_reducible rfl))
            refine wpAny_take (i := 4) (v := ?vc63) rfl (by kernel_rfl) (by kernel_rfl) (by kernel_rfl) (fun _ _ _ h => h) (Or.inl ⟨by kernel_rfl, ?hc63⟩) ?rc63
            case hc63 => (intro w; go_simp; first | done | (with_reducible rfl))
            refine wpAny_take (i := 5) (v := ?vc64) rfl (by kernel_rfl) (by kernel_rfl) (by kernel_rfl) (fun _ _ _ h => h) (Or.inl ⟨by kernel_rfl, ?hc64⟩) ?rc64
            case hc64 => (intro w; go_simp; first | done | (with_reducible rfl))
            refine wpAny_ready (rs := [6]) (by kernel_rfl) (by simp) ?_
            refine AllReady.cons rfl (fun K hK => ?_) AllReady.nil
            go_simp
            refine hK _ _ ?_
            clear hK K
            refine wpAny_ready (rs := [7]) (by kernel_rfl) (by simp) ?_
            refine AllReady.cons rfl (fun K hK => ?_) AllReady.nil
            go_simp
            with_reducible refine (hi2 _).mono ?_
            rintro e w5 ⟨rfl, hb5⟩
            have K5 := Lib.hid (K4.out.under hb5)
            obtain ⟨p5, q5⟩ := K5.out.cells
            have l5 := blk_lt K5.out.box
            clear hb5
            refine hK _ _ ?_
            clear hK K
            refine wpAny_take (i := 8) (v := ?vc65) rfl (by kernel_rfl) (by kernel_rfl) (by kernel_rfl) (fun _ _ _ h => h) (Or.inl ⟨by kernel_rfl, ?hc65⟩) ?rc65
            case hc65 => (intro w; go_simp; first | done | (with_reducible rfl))
            refine wpAny_take (i := 9) (v := ?vc66) rfl (by kernel_rfl) (by kernel_rfl) (by kernel_rfl) (fun _ _ _ h => h) (Or.inl ⟨by kernel_rfl, ?hc66⟩) ?rc66
            case hc66 => (intro w; go_simp; first | done | (with_reducible rfl))
            refine wpAny_take (i := 10) (v := ?vc67) rfl (by kernel_rfl) (by kernel_rfl) (by kernel_rfl) (fun _ _ _ h => h) (Or.inl ⟨by kernel_rfl, ?hc67⟩) ?rc67
            case hc67 => (intro w; go_simp; first | done | (with_reducible rfl))
            refine wpAny_ready (rs := [11, 12]) (by kernel_rfl) (by simp) ?_
            refine AllReady.cons rfl (fun K hK => ?_) ?_
            · skip
              go_simp
              with_reducible refine (hn1 _).mono ?_
              rintro e w6 ⟨g6, rfl, hg6, hb6⟩
              have K6 := Lib.hid (K5.out.under hb6)
              have G6 := Lib.hid hg6
              obtain ⟨p6, q6⟩ := K6.out.cells
              have l6 := blk_lt K6.out.box
              clear hb6
              refine hK _ _ ?_
              clear hK K
              refine wpAny_ready (rs := [12]) (by kernel_rfl) (by simp) ?_
              refine AllReady.cons rfl (fun K hK => ?_) AllReady.nil
              go_simp
              refine hK _ _ ?_
              clear hK K
              refine wpAny_ready (rs := [13]) (by kernel_rfl) (by simp) ?_
              refine AllReady.cons rfl (fun K hK => ?_) AllReady.nil
              go_simp
              with_reducible refine (ht1 _ _ G6.out).mono ?_
              rintro e w7 ⟨rfl, hb7⟩
              have K7 := Lib.hid (K6.out.under hb7)
              obtain ⟨p7, q7⟩ := K7.out.cells
              have l7 := blk_lt K7.out.box
              clear hb7
              refine hK _ _ ?_
              clear hK K
              refine wpAny_take (i := 14) (v := ?vc68) rfl (by kernel_rfl) (by kernel_rfl) (by kernel_rfl) (fun _ _ _ h => h) (Or.inl ⟨by kernel_rfl, ?hc68⟩) ?rc68
              case hc68 => (intro w; go_simp; first | done | (with_reducible rfl))
              refine wpAny_take (i := 15) (v := ?vc69) rfl (by kernel_rfl) (by kernel_rfl) (by kernel_rfl) (fun _ _ _ h => h) (Or.inl ⟨by kernel_rfl, ?hc69⟩) ?rc69
              case hc69 => (intro w; go_simp; first | done | (with_reducible rfl))
              refine wpAny_ready (rs := [16, 17]) (by kernel_rfl) (by simp) ?_
              refine AllReady.cons rfl (fun K hK => ?_) ?_
              · skip
                go_simp
                with_reducible refine (hn2 _).mono ?_
                rintro e w8 ⟨g8, rfl, hg8, hb8⟩
                have K8 := Lib.hid (K7.out.under hb8)
                have G8 := Lib.hid hg8
                obtain ⟨p8, q8⟩ := K8.out.cells
                have l8 := blk_lt K8.out.box
                clear hb8
                refine hK _ _ ?_
                clear hK K
                refine wpAny_ready (rs := [17]) (by kernel_rfl) (by simp) ?_
                refine AllReady.cons rfl (fun K hK => ?_) AllReady.nil
                go_simp
                refine hK _ _ ?_
                clear hK K
                refine wpAny_ready (rs := [18]) (by kernel_rfl) (by simp) ?_
                refine AllReady.cons rfl (fun K hK => ?_) AllReady.nil
                go_simp
                with_reducible refine (ht2 _ _ G8.out).mono ?_
                rintro e w9 ⟨rfl, hb9⟩
                have K9 := Lib.hid (K8.out.under hb9)
                obtain ⟨p9, q9⟩ := K9.out.cells
                have l9 := blk_lt K9.out.box
                clear hb9
                refine hK _ _ ?_
                clear hK K
                refine wpAny_take (i := 19) (v := ?vc610) rfl (by kernel_rfl) (by kernel_rfl) (by kernel_rfl) (fun _ _ _ h => h) (Or.inl ⟨by kernel_rfl, ?hc610⟩) ?rc610
                case hc610 => (intro w; go_simp; first | done | (with_reducible rfl))
                refine wpAny_take (i := 20) (v := ?vc611) rfl (by kernel_rfl) (by kernel_rfl) (by kernel_rfl) (fun _ _ _ h => h) (Or.inl ⟨by kernel_rfl, ?hc611⟩) ?rc611
                case hc611 => (intro w; go_simp; first | done | (with_reducible rfl))
                refine wpAny_ready (rs := [21]) (by kernel_rfl) (by simp) ?_
                refine AllReady.cons rfl (fun K hK => ?_) AllReady.nil
                go_simp
                refine hK _ _ ?_
                clear hK K
                refine wpAny_ready (rs := [22]) (by kernel_rfl) (by simp) ?_
                refine AllReady.cons rfl (fun K hK => ?_) AllReady.nil
                go_simp
                with_reducible refine (hl _).mono ?_
                rintro e w10 ⟨rfl, hb10⟩
                have K10 := Lib.hid (K9.out.under hb10)
                obtain ⟨p10, q10⟩ := K10.out.cells
                have l10 := blk_lt K10.out.box
                clear hb10
                refine hK _ _ ?_
                clear hK K
                refine wpAny_take (i := 23) (v := ?vc612) rfl (by kernel_rfl) (by kernel_rfl) (by kernel_rfl) (fun _ _ _ h => h) (Or.inl ⟨by kernel_rfl, ?hc612⟩) ?rc612
                case hc612 => (intro w; go_simp; first | done | (with_reducible rfl))
                refine wpAny_take (i := 24) (v := ?vc613) rfl (by kernel_rfl) (by kernel_rfl) (by kernel_rfl) (fun _ _ _ h => h) (Or.inl ⟨by kernel_rfl, ?hc613⟩) ?rc613
                case hc613 => (intro w; go_simp; first | done | (with_reducible rfl))
                refine wpAny_take (i := 25) (v := ?vc614) rfl (by kernel_rfl) (by kernel_rfl) (by kernel_rfl) (fun _ _ _ h => h) (Or.inl ⟨by kernel_rfl, ?hc614⟩) ?rc614
                case hc614 => (intro w; go_simp; first | done | (with_reducible rfl))
                refine wpAny_ready (rs := [26]) (by kernel_rfl) (by simp) ?_
                refine AllReady.cons rfl (fun K hK => ?_) AllReady.nil
                go_simp
                refine hK _ _ ?_
                clear hK K
                refine wpAny_done (by kernel_rfl) ?_ _
                try go_simp
                go_wp2
                go_ret
                exact ⟨rfl, K10.out.bel⟩
              refine AllReady.cons rfl (fun K hK => ?_) AllReady.nil
              go_simp
              refine hK _ _ ?_
              clear hK K
              refine wpAny_ready (rs := [16]) (by kernel_rfl) (by simp) ?_
              refine AllReady.cons rfl (fun K hK => ?_) AllReady.nil
              go_simp
              with_reducible refine (hn2 _).mono ?_
              rintro e w8 ⟨g8, rfl, hg8, hb8⟩
              have K8 := Lib.hid (K7.out.under hb8)
              have G8 := Lib.hid hg8
              obtain ⟨p8, q8⟩ := K8.out.cells
              have l8 := blk_lt K8.out.box
              clear hb8
              refine hK _ _ ?_
              clear hK K
              refine wpAny_ready (rs := [18]) (by kernel_rfl) (by simp) ?_
              refine AllReady.cons rfl (fun K hK => ?_) AllReady.nil
              go_simp
              with_reducible refine (ht2 _ _ G8.out).mono ?_
              rintro e w9 ⟨rfl, hb9⟩
              have K9 := Lib.hid (K8.out.under hb9)
              obtain ⟨p9, q9⟩ := K9.out.cells
              have l9 := blk_lt K9.out.box
              clear hb9
              refine hK _ _ ?_
              clear hK K
              refine wpAny_take (i := 19) (v := ?vc615) rfl (by kernel_rfl) (by kernel_rfl) (by kernel_rfl) (fun _ _ _ h => h) (Or.inl ⟨by kernel_rfl, ?hc615⟩) ?rc615
              case hc615 => (intro w; go_simp; first | done | (with_reducible rfl))
              refine wpAny_take (i := 20) (v := ?vc616) rfl (by kernel_rfl) (by kernel_rfl) (by kernel_rfl) (fun _ _ _ h => h) (Or.inl ⟨by kernel_rfl, ?hc616⟩) ?rc616
              case hc616 => (intro w; go_simp; first | done | (with_reducible rfl))
              refine wpAny_ready (rs := [21]) (by kernel_rfl) (by simp) ?_
              refine AllReady.cons rfl (fun K hK => ?_) AllReady.nil
              go_simp
              refine hK _ _ ?_
              clear hK K
              refine wpAny_ready (rs := [22]) (by kernel_rfl) (by simp) ?_
              refine AllReady.cons rfl (fun K hK => ?_) AllReady.nil
              go_simp
              with_reducible refine (hl _).mono ?_
              rintro e w10 ⟨rfl, hb10⟩
              have K10 := Lib.hid (K9.out.under hb10)
              obtain ⟨p10, q10⟩ := K10.out.cells
              have l10 := blk_lt K10.out.box
              clear hb10
              refine hK _ _ ?_
              clear hK K
              refine wpAny_take (i := 23) (v := ?vc617) rfl (by kernel_rfl) (by kernel_rfl) (by kernel_rfl) (fun _ _ _ h => h) (Or.inl ⟨by kernel_rfl, ?hc617⟩) ?rc617
              case hc617 => (intro w; go_simp; first | done | (with_reducible rfl))
              refine wpAny_take (i := 24) (v := ?vc618) rfl (by kernel_rfl) (by kernel_rfl) (by kernel_rfl) (fun _ _ _ h => h) (Or.inl ⟨by kernel_rfl, ?hc618⟩) ?rc618
              case hc618 => (intro w; go_simp; first | done | (with_reducible rfl))
              refine wpAny_take (i := 25) (v := ?vc619) rfl (by kernel_rfl) (by kernel_rfl) (by kernel_rfl) (fun _ _ _ h => h) (Or.inl ⟨by kernel_rfl, ?hc619⟩) ?rc619
              case hc619 => (intro w; go_simp; first | done | (with_reducible rfl))
              refine wpAny_ready (rs := [26]) (by kernel_rfl) (by simp) ?_
              refine AllReady.cons rfl (fun K hK => ?_) AllReady.nil
              go_simp
              refine hK _ _ ?_
              clear hK K
              refine wpAny_done (by kernel_rfl) ?_ _
              try go_simp
              go_wp2
              go_ret
              exact ⟨rfl, K10.out.bel⟩
            refine AllReady.cons rfl (fun K hK => ?_) AllReady.nil
            go_simp
            refine hK _ _ ?_
            clear hK K
            refine wpAny_ready (rs := [11]) (by kernel_rfl) (by simp) ?_
            refine AllReady.cons rfl (fun K hK => ?_) AllReady.nil
            go_simp
            with_reducible refine (hn1 _).mono ?_
            rintro e w6 ⟨g6, rfl, hg6, hb6⟩
            have K6 := Lib.hid (K5.out.under hb6)
            have G6 := Lib.hid hg6
            obtain ⟨p6, q6⟩ := K6.out.cells
            have l6 := blk_lt K6.out.box
            clear hb6
            refine hK _ _ ?_
            clear hK K
            refine wpAny_ready (rs := [13]) (by kernel_rfl) (by simp) ?_
            refine AllReady.cons rfl (fun K hK => ?_) AllReady.nil
            go_simp
            with_reducible refine (ht1 _ _ G6.out).mono ?_
            rintro e w7 ⟨rfl, hb7⟩
            have K7 := Lib.hid (K6.out.under hb7)
            obtain ⟨p7, q7⟩ := K7.out.cells
            have l7 := blk_lt K7.out.box
            clear hb7
            refine hK _ _ ?_
            clear hK K
            refine wpAny_take (i := 14) (v := ?vc620) rfl (by kernel_rfl) (by kernel_rfl) (by kernel_rfl) (fun _ _ _ h => h) (Or.inl ⟨by kernel_rfl, ?hc620⟩) ?rc620
            case hc620 => (intro w; go_simp; first | done | (with_reducible rfl))
            refine wpAny_take (i := 15) (v := ?vc621) rfl (by kernel_rfl) (by kernel_rfl) (by kernel_rfl) (fun _ _ _ h => h) (Or.inl ⟨by kernel_rfl, ?hc621⟩) ?rc621
            case hc621 => (intro w; go_simp; first | done | (with_reducible rfl))
            refine wpAny_ready (rs := [16, 17]) (by kernel_rfl) (by simp) ?_
            refine AllReady.cons rfl (fun K hK => ?_) ?_
            · skip
              go_simp
              with_reducible refine (hn2 _).mono ?_
              rintro e w8 ⟨g8, rfl, hg8, hb8⟩
              have K8 := Lib.hid (K7.out.under hb8)
              have G8 := Lib.hid hg8
              obtain ⟨p8, q8⟩ := K8.out.cells
              have l8 := blk_lt K8.out.box
              clear hb8
              refine hK _ _ ?_
              clear hK K
              refine wpAny_ready (rs := [17]) (by kernel_rfl) (by simp) ?_
              refine AllReady.cons rfl (fun K hK => ?_) AllReady.nil
              go_simp
              refine hK _ _ ?_
              clear hK K
              refine wpAny_ready (rs := [18]) (by kernel_rfl) (by simp) ?_
              refine AllReady.cons rfl (fun K hK => ?_) AllReady.nil
              go_simp
              with_reducible refine (ht2 _ _ G8.out).mono ?_
              rintro e w9 ⟨rfl, hb9⟩
              have K9 := Lib.hid (K8.out.under hb9)
              obtain ⟨p9, q9⟩ := K9.out.cells
              have l9 := blk_lt K9.out.box
              clear hb9
              refine hK _ _ ?_
              clear hK K
              refine wpAny_take (i := 19) (v := ?vc622) rfl (by kernel_rfl) (by kernel_rfl) (by kernel_rfl) (fun _ _ _ h => h) (Or.inl ⟨by kernel_rfl, ?hc622⟩) ?rc622
              case hc622 => (intro w; go_simp; first | done | (with_reducible rfl))
              refine wpAny_take (i := 20) (v := ?vc623) rfl (by kernel_rfl) (by kernel_rfl) (by kernel_rfl) (fun _ _ _ h => h) (Or.inl ⟨by kernel_rfl, ?hc623⟩) ?rc623
              case hc623 => (intro w; go_simp; first | done | (with_reducible rfl))
              refine wpAny_ready (rs := [21]) (by kernel_rfl) (by simp) ?_
              refine AllReady.cons rfl (fun K hK => ?_) AllReady.nil
              go_simp
              refine hK _ _ ?_
              clear hK K
              refine wpAny_ready (rs := [22]) (by kernel_rfl) (by simp) ?_
              refine AllReady.cons rfl (fun K hK => ?_) AllReady.nil
              go_simp
              with_reducible refine (hl _).mono ?_
              rintro e w10 ⟨rfl, hb10⟩
              have K10 := Lib.hid (K9.out.under hb10)
              obtain ⟨p10, q10⟩ := K10.out.cells
              have l10 := blk_lt K10.out.box
              clear hb10
              refine hK _ _ ?_
              clear hK K
              refine wpAny_take (i := 23) (v := ?vc624) rfl (by kernel_rfl) (by kernel_rfl) (by kernel_rfl) (fun _ _ _ h => h) (Or.inl ⟨by kernel_rfl, ?hc624⟩) ?rc624
              case hc624 => (intro w; go_simp; first | done | (with_reducible rfl))
              refine wpAny_take (i := 24) (v := ?vc625) rfl (by kernel_rfl) (by kernel_rfl) (by kernel_rfl) (fun _ _ _ h => h) (Or.inl ⟨by kernel_rfl, ?hc625⟩) ?rc625
              case hc625 => (intro w; go_simp; first | done | (with_reducible rfl))
              refine wpAny_take (i := 25) (v := ?vc626) rfl (by kernel_rfl) (by kernel_rfl) (by kernel_rfl) (fun _ _ _ h => h) (Or.inl ⟨by kernel_rfl, ?hc626⟩) ?rc626
              case hc626 => (intro w; go_simp; first | done | (with_reducible rfl))
              refine wpAny_ready (rs := [26]) (by kernel_rfl) (by simp) ?_
              refine AllReady.cons rfl (fun K hK => ?_) AllReady.nil
              go_simp
              refine hK _ _ ?_
              clear hK K
              refine wpAny_done (by kernel_rfl) ?_ _
              try go_simp
              go_wp2
              go_ret
              exact ⟨rfl, K10.out.bel⟩
            refine AllReady.cons rfl (fun K hK => ?_) AllReady.nil
            go_simp
            refine hK _ _ ?_
            clear hK K
            refine wpAny_ready (rs := [16]) (by kernel_rfl) (by simp) ?_
            refine AllReady.cons rfl (fun K hK => ?_) AllReady.nil
            go_simp
            with_reducible refine (hn2 _).mono ?_
            rintro e w8 ⟨g8, rfl, hg8, hb8⟩
            have K8 := Lib.hid (K7.out.under hb8)
            have G8 := Lib.hid hg8
            obtain ⟨p8, q8⟩ := K8.out.cells
            have l8 := blk_lt K8.out.box
            clear hb8
            refine hK _ _ ?_
            clear hK K
            refine wpAny_ready (rs := [18]) (by kernel_rfl) (by simp) ?_
            refine AllReady.cons rfl (fun K hK => ?_) AllReady.nil
            go_simp
            with_reducible refine (ht2 _ _ G8.out).mono ?_
            rintro e w9 ⟨rfl, hb9⟩
            have K9 := Lib.hid (K8.out.under hb9)
            obtain ⟨p9, q9⟩ := K9.out.cells
            have l9 := blk_lt K9.out.box
            clear hb9
            refine hK _ _ ?_
            clear hK K
            refine wpAny_take (i := 19) (v := ?vc627) rfl (by kernel_rfl) (by kernel_rfl) (by kernel_rfl) (fun _ _ _ h => h) (Or.inl ⟨by kernel_rfl, ?hc627⟩) ?rc627
            case hc627 => (intro w; go_simp; first | done | (with_reducible rfl))
            refine wpAny_take (i := 20) (v := ?vc628) rfl (by kernel_rfl) (by kernel_rfl) (by kernel_rfl) (fun _ _ _ h => h) (Or.inl ⟨by kernel_rfl, ?hc628⟩) ?rc628
            case hc628 => (intro w; go_simp; first | done | (with_reducible rfl))
            refine wpAny_ready (rs := [21]) (by kernel_rfl) (by simp) ?_
            refine AllReady.cons rfl (fun K hK => ?_) AllReady.nil
            go_simp
            refine hK _ _ ?_
            clear hK K
            refine wpAny_ready (rs := [22]) (by kernel_rfl) (by simp) ?_
            refine AllReady.cons rfl (fun K hK => ?_) AllReady.nil
            go_simp
            with_reducible refine (hl _).mono ?_
            rintro e w10 ⟨rfl, hb10⟩
            have K10 := Lib.hid (K9.out.under hb10)
            obtain ⟨p10, q10⟩ := K10.out.cells
            have l10 := blk_lt K10.out.box
            clear hb10
            refine hK _ _ ?_
            clear hK K
            refine wpAny_take (i := 23) (v := ?vc629) rfl (by kernel_rfl) (by kernel_rfl) (by kernel_rfl) (fun _ _ _ h => h) (Or.inl ⟨by kernel_rfl, ?hc629⟩) ?rc629
            case hc629 => (intro w; go_simp; first | done | (with_reducible rfl))
            refine wpAny_take (i := 24) (v := ?vc630) rfl (by kernel_rfl) (by kernel_rfl) (by kernel_rfl) (fun _ _ _ h => h) (Or.inl ⟨by kernel_rfl, ?hc630⟩) ?rc630
            case hc630 => (intro w; go_simp; first | done | (with_reducible rfl))
            refine wpAny_take (i := 25) (v := ?vc631) rfl (by kernel_rfl) (by kernel_rfl) (by kernel_rfl) (fun _ _ _ h => h) (Or.inl ⟨by kernel_rfl, ?hc631⟩) ?rc631
            case hc631 => (intro w; go_simp; first | done | (with_reducible rfl))
            refine wpAny_ready (rs := [26]) (by kernel_rfl) (by simp) ?_
            refine AllReady.cons rfl (fun K hK => ?_) AllReady.nil
            go_simp
            refine hK _ _ ?_
            clear hK K
            refine wpAny_done (by kernel_rfl) ?_ _
            try go_simp
            go_wp2
            go_ret
            exact ⟨rfl, K10.out.bel⟩
end Go.Proofs.YtomicdkmbgckkaaGreatDoor
