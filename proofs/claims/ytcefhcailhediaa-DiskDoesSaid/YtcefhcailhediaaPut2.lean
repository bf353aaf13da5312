/- THE WALKS OVER put. -/
import Derived.Test.YtcefhcailhediaaPut
namespace Go.Proofs.Ytcefhcailhediaa
open Go.RowKit
set_option linter.unusedVariables false
set_option linter.unusedSimpArgs false

set_option maxHeartbeats 800000 in
/-- put at a list with cells -/
theorem put_some (w : World) (g gb n cap at_ en : Nat) (down : Bool) (fuse fault : Int) (x v1 : Value) (X w1 w2 : World) (ad2 : Option Addr) (n2 cap2 base : Nat) (out : List F) (hX : w.drew = X) (h : Dk w g 64 (.slice (some ⟨gb, 0, none⟩) n cap) down fuse fault) (h1 : at_ ≤ n) (h2 : en ≤ n) (h3 : n ≤ cap) (h4 : n ≤ 1000)
    (ht : Two X (.slice (some ⟨gb, 0, none⟩) at_ at_) x (restV gb en n cap) v1 w1 ad2 n2 cap2 w2 out) (hne : gb ≠ g) (hgbb : base ≤ gb) (hbase : base ≤ w.heap.size) (hbg : base ≤ g) :
    Calls Try.prog 54 #[.pointer (some ⟨g, 0, none⟩), .int .i64 (at_ : Int), .int .i64 (en : Int), x] w fun e w' => e = .returned (.tuple #[]) ∧ Behind base w g down fuse fault out w' := by
  have Hpost := Lib.hid (show Ending.returned (.tuple #[]) = .returned (.tuple #[]) ∧ Behind base w g down fuse fault out (w2.setCell ⟨g, 0, none⟩ (.slice ad2 n2 cap2)) from ⟨rfl, behind_of hX h ht (by simp [Value.ownBlock, hne]) (fun b hb => by simp [Value.ownBlock] at hb; omega) hbase hbg⟩)
  obtain ⟨hr1, hr2, hb1, hb2, _, _⟩ := ht
  have hDX : Dk X g 64 (.slice (some ⟨gb, 0, none⟩) n cap) down fuse fault := by rw [← hX]; exact h
  have hlt := hDX.lt
  obtain ⟨⟨d0, d1, d2, d3⟩, _⟩ := h.facts
  obtain ⟨⟨x0, _, _, _⟩, _⟩ := hDX.facts
  obtain ⟨⟨y0, _, _, _⟩, _⟩ := (hDX.keep hb1 hlt).facts
  obtain ⟨⟨z0, _, _, _⟩, fz, _⟩ := (hDX.keep hb2 hlt).facts
  have HX := Lib.hid hX
  have H3 := Lib.hid hr1
  have he0 : (0 : Int) ≤ (en : Int) := by omega
  have he1 : (en : Int) ≤ (n : Int) := by omega
  have ha0 : (0 : Int) ≤ (at_ : Int) := by omega
  have ha1 : (at_ : Int) ≤ (n : Int) := by omega
  have ha2 : (at_ : Int) ≤ (cap : Int) := by omega
  have he2 : (en : Int) ≤ (cap : Int) := by omega
  unfold restV at hr2
  by_cases hec : en = cap
  · rw [if_pos hec] at hr2
    have H11 := Lib.hid hr2
    have hn : n = cap := by omega
    subst hec
    subst hn
    clear hr1 hr2 hb1 hb2 hX h hDX hlt
    go_enter Try.func54, Try.ntmps54
    go_wp2
    refine wp_region_any (by kernel_rfl) ?_
    change wpAny _ _ _ _ _ _ _ (w.drew)
    rw [HX.out]
    refine wpAny_take (i := 0) (v := ?va1) rfl (by kernel_rfl) (by kernel_rfl) (by kernel_rfl) (fun _ _ _ h => h) (Or.inl ⟨by kernel_rfl, ?ha1⟩) ?ra1
    case ha1 => (intro w; go_simp; first | done | (with_reducible rfl))
    refine wpAny_take (i := 1) (v := ?va2) rfl (by kernel_rfl) (by kernel_rfl) (by kernel_rfl) (fun _ _ _ h => h) (Or.inl ⟨by kernel_rfl, ?ha2⟩) ?ra2
    case ha2 => (intro w; go_simp; first | done | (with_reducible rfl))
    refine wpAny_take (i := 2) (v := ?va3) rfl (by kernel_rfl) (by kernel_rfl) (by kernel_rfl) (fun _ _ _ h => h) (Or.inl ⟨by kernel_rfl, ?ha3⟩) ?ra3
    case ha3 => (intro w; go_simp; first | done | (with_reducible rfl))
    refine wpAny_take (i := 4) (v := ?va4) rfl (by kernel_rfl) (by kernel_rfl) (by kernel_rfl) (fun _ _ _ h => h) (Or.inl ⟨by kernel_rfl, ?ha4⟩) ?ra4
    case ha4 => (intro w; go_simp; first | done | (with_reducible rfl))
    refine wpAny_take (i := 5) (v := ?va5) rfl (by kernel_rfl) (by kernel_rfl) (by kernel_rfl) (fun _ _ _ h => h) (Or.inl ⟨by kernel_rfl, ?ha5⟩) ?ra5
    case ha5 => (intro w; go_simp; first | done | (with_reducible rfl))
    refine wpAny_take (i := 6) (v := ?va6) rfl (by kernel_rfl) (by kernel_rfl) (by kernel_rfl) (fun _ _ _ h => h) (Or.inl ⟨by kernel_rfl, ?ha6⟩) ?ra6
    case ha6 => (intro w; go_simp; first | done | (with_reducible rfl))
    refine wpAny_take (i := 7) (v := ?va7) rfl (by kernel_rfl) (by kernel_rfl) (by kernel_rfl) (fun _ _ _ h => h) (Or.inl ⟨by kernel_rfl, ?ha7⟩) ?ra7
    case ha7 => (intro w; go_simp; first | done | (with_reducible rfl))
    refine wpAny_take (i := 9) (v := ?va8) rfl (by kernel_rfl) (by kernel_rfl) (by kernel_rfl) (fun _ _ _ h => h) (Or.inl ⟨by kernel_rfl, ?ha8⟩) ?ra8
    case ha8 => (intro w; go_simp; first | done | (with_reducible rfl))
    refine wpAny_ready (rs := [3, 8]) (by kernel_rfl) (by simp) ?_
    refine AllReady.cons rfl (fun K hK => ?_) ?_
    · skip
      rw [if_pos (by kernel_rfl)]
      refine op_app (.tmp 18) (.tmp 19) (.slice (some ⟨gb, 0, none⟩) at_ at_) x (by kernel_rfl) (by kernel_rfl) rfl (H3.out _) ?_
      refine hK _ _ ?_
      clear hK K
      refine wpAny_ready (rs := [8]) (by kernel_rfl) (by simp) ?_
      refine AllReady.cons rfl (fun K hK => ?_) AllReady.nil
      go_simp
      refine hK _ _ ?_
      clear hK K
      refine wpAny_take (i := 10) (v := ?va9) rfl (by kernel_rfl) (by kernel_rfl) (by kernel_rfl) (fun _ _ _ h => h) (Or.inl ⟨by kernel_rfl, ?ha9⟩) ?ra9
      case ha9 => (intro w; go_simp; first | done | (with_reducible rfl))
      refine wpAny_ready (rs := [11]) (by kernel_rfl) (by simp) ?_
      refine AllReady.cons rfl (fun K hK => ?_) AllReady.nil
      rw [if_pos (by kernel_rfl)]
      refine op_app (.tmp 20) (.tmp 27) v1 (.slice (some ⟨gb, 0, none⟩) 0 0) (by kernel_rfl) (by kernel_rfl) rfl (H11.out _) ?_
      refine hK _ _ ?_
      clear hK K
      refine wpAny_take (i := 12) (v := ?va10) rfl (by kernel_rfl) (by kernel_rfl) (by kernel_rfl) (fun _ _ _ h => h) (Or.inl ⟨by kernel_rfl, ?ha10⟩) ?ra10
      case ha10 => (intro w; go_simp; first | done | (with_reducible rfl))
      refine wpAny_take (i := 13) (v := ?va11) rfl (by kernel_rfl) (by kernel_rfl) (by kernel_rfl) (fun _ _ _ h => h) (Or.inl ⟨by kernel_rfl, ?ha11⟩) ?ra11
      case ha11 => (intro w; go_simp; first | done | (with_reducible rfl))
      refine wpAny_take (i := 14) (v := ?va12) rfl (by kernel_rfl) (by kernel_rfl) (by kernel_rfl) (fun _ _ _ h => h) (Or.inl ⟨by kernel_rfl, ?ha12⟩) ?ra12
      case ha12 => (intro w; go_simp; first | done | (with_reducible rfl))
      refine wpAny_ready (rs := [15]) (by kernel_rfl) (by simp) ?_
      refine AllReady.cons rfl (fun K hK => ?_) AllReady.nil
      go_simp
      refine hK _ _ ?_
      clear hK K
      refine wpAny_done (by kernel_rfl) ?_ _
      try go_simp
      go_end0
      exact ⟨rfl, Hpost.out.2⟩
    refine AllReady.cons rfl (fun K hK => ?_) AllReady.nil
    go_simp
    refine hK _ _ ?_
    clear hK K
    refine wpAny_take (i := 10) (v := ?va13) rfl (by kernel_rfl) (by kernel_rfl) (by kernel_rfl) (fun _ _ _ h => h) (Or.inl ⟨by kernel_rfl, ?ha13⟩) ?ra13
    case ha13 => (intro w; go_simp; first | done | (with_reducible rfl))
    refine wpAny_ready (rs := [3]) (by kernel_rfl) (by simp) ?_
    refine AllReady.cons rfl (fun K hK => ?_) AllReady.nil
    rw [if_pos (by kernel_rfl)]
    refine op_app (.tmp 18) (.tmp 19) (.slice (some ⟨gb, 0, none⟩) at_ at_) x (by kernel_rfl) (by kernel_rfl) rfl (H3.out _) ?_
    refine hK _ _ ?_
    clear hK K
    refine wpAny_ready (rs := [11]) (by kernel_rfl) (by simp) ?_
    refine AllReady.cons rfl (fun K hK => ?_) AllReady.nil
    rw [if_pos (by kernel_rfl)]
    refine op_app (.tmp 20) (.tmp 27) v1 (.slice (some ⟨gb, 0, none⟩) 0 0) (by kernel_rfl) (by kernel_rfl) rfl (H11.out _) ?_
    refine hK _ _ ?_
    clear hK K
    refine wpAny_take (i := 12) (v := ?va14) rfl (by kernel_rfl) (by kernel_rfl) (by kernel_rfl) (fun _ _ _ h => h) (Or.inl ⟨by kernel_rfl, ?ha14⟩) ?ra14
    case ha14 => (intro w; go_simp; first | done | (with_reducible rfl))
    refine wpAny_take (i := 13) (v := ?va15) rfl (by kernel_rfl) (by kernel_rfl) (by kernel_rfl) (fun _ _ _ h => h) (Or.inl ⟨by kernel_rfl, ?ha15⟩) ?ra15
    case ha15 => (intro w; go_simp; first | done | (with_reducible rfl))
    refine wpAny_take (i := 14) (v := ?va16) rfl (by kernel_rfl) (by kernel_rfl) (by kernel_rfl) (fun _ _ _ h => h) (Or.inl ⟨by kernel_rfl, ?ha16⟩) ?ra16
    case ha16 => (intro w; go_simp; first | done | (with_reducible rfl))
    refine wpAny_ready (rs := [15]) (by kernel_rfl) (by simp) ?_
    refine AllReady.cons rfl (fun K hK => ?_) AllReady.nil
    go_simp
    refine hK _ _ ?_
    clear hK K
    refine wpAny_done (by kernel_rfl) ?_ _
    try go_simp
    go_end0
    exact ⟨rfl, Hpost.out.2⟩
  · rw [if_neg hec] at hr2
    have hec' : (cap == en) = false := by simp; omega
    have hec2 : ¬ cap = en := fun e => hec e.symm
    have hec3 : 0 < cap - en := by omega
    have H11 := Lib.hid hr2
    clear hr1 hr2 hb1 hb2 hX h hDX hlt
    go_enter Try.func54, Try.ntmps54
    go_wp2
    refine wp_region_any (by kernel_rfl) ?_
    change wpAny _ _ _ _ _ _ _ (w.drew)
    rw [HX.out]
    refine wpAny_take (i := 0) (v := ?vb1) rfl (by kernel_rfl) (by kernel_rfl) (by kernel_rfl) (fun _ _ _ h => h) (Or.inl ⟨by kernel_rfl, ?hb1⟩) ?rb1
    case hb1 => (intro w; go_simp; first | done | (with_reducible rfl))
    refine wpAny_take (i := 1) (v := ?vb2) rfl (by kernel_rfl) (by kernel_rfl) (by kernel_rfl) (fun _ _ _ h => h) (Or.inl ⟨by kernel_rfl, ?hb2⟩) ?rb2
    case hb2 => (intro w; go_simp; first | done | (with_reducible rfl))
    refine wpAny_take (i := 2) (v := ?vb3) rfl (by kernel_rfl) (by kernel_rfl) (by kernel_rfl) (fun _ _ _ h => h) (Or.inl ⟨by kernel_rfl, ?hb3⟩) ?rb3
    case hb3 => (intro w; go_simp; first | done | (with_reducible rfl))
    refine wpAny_take (i := 4) (v := ?vb4) rfl (by kernel_rfl) (by kernel_rfl) (by kernel_rfl) (fun _ _ _ h => h) (Or.inl ⟨by kernel_rfl, ?hb4⟩) ?rb4
    case hb4 => (intro w; go_simp; first | done | (with_reducible rfl))
    refine wpAny_take (i := 5) (v := ?vb5) rfl (by kernel_rfl) (by kernel_rfl) (by kernel_rfl) (fun _ _ _ h => h) (Or.inl ⟨by kernel_rfl, ?hb5⟩) ?rb5
    case hb5 => (intro w; go_simp; first | done | (with_reducible rfl))
    refine wpAny_take (i := 6) (v := ?vb6) rfl (by kernel_rfl) (by kernel_rfl) (by kernel_rfl) (fun _ _ _ h => h) (Or.inl ⟨by kernel_rfl, ?hb6⟩) ?rb6
    case hb6 => (intro w; go_simp; first | done | (with_reducible rfl))
    refine wpAny_take (i := 7) (v := ?vb7) rfl (by kernel_rfl) (by kernel_rfl) (by kernel_rfl) (fun _ _ _ h => h) (Or.inl ⟨by kernel_rfl, ?hb7⟩) ?rb7
    case hb7 => (intro w; go_simp; first | done | (with_reducible rfl))
    refine wpAny_take (i := 9) (v := ?vb8) rfl (by kernel_rfl) (by kernel_rfl) (by kernel_rfl) (fun _ _ _ h => h) (Or.inl ⟨by kernel_rfl, ?hb8⟩) ?rb8
    case hb8 => (intro w; go_simp; first | done | (with_reducible rfl))
    refine wpAny_ready (rs := [3, 8]) (by kernel_rfl) (by simp) ?_
    refine AllReady.cons rfl (fun K hK => ?_) ?_
    · skip
      rw [if_pos (by kernel_rfl)]
      refine op_app (.tmp 18) (.tmp 19) (.slice (some ⟨gb, 0, none⟩) at_ at_) x (by kernel_rfl) (by kernel_rfl) rfl (H3.out _) ?_
      refine hK _ _ ?_
      clear hK K
      refine wpAny_ready (rs := [8]) (by kernel_rfl) (by simp) ?_
      refine AllReady.cons rfl (fun K hK => ?_) AllReady.nil
      go_simp
      refine hK _ _ ?_
      clear hK K
      refine wpAny_take (i := 10) (v := ?vb9) rfl (by kernel_rfl) (by kernel_rfl) (by kernel_rfl) (fun _ _ _ h => h) (Or.inl ⟨by kernel_rfl, ?hb9⟩) ?rb9
      case hb9 => (intro w; go_simp; first | done | (with_reducible rfl))
      refine wpAny_ready (rs := [11]) (by kernel_rfl) (by simp) ?_
      refine AllReady.cons rfl (fun K hK => ?_) AllReady.nil
      rw [if_pos (by kernel_rfl)]
      refine op_app (.tmp 20) (.tmp 27) v1 (.slice (some ⟨gb, en * 3, none⟩) (n - en) (cap - en)) (by kernel_rfl) (by kernel_rfl) rfl (H11.out _) ?_
      refine hK _ _ ?_
      clear hK K
      refine wpAny_take (i := 12) (v := ?vb10) rfl (by kernel_rfl) (by kernel_rfl) (by kernel_rfl) (fun _ _ _ h => h) (Or.inl ⟨by kernel_rfl, ?hb10⟩) ?rb10
      case hb10 => (intro w; go_simp; first | done | (with_reducible rfl))
      refine wpAny_take (i := 13) (v := ?vb11) rfl (by kernel_rfl) (by kernel_rfl) (by kernel_rfl) (fun _ _ _ h => h) (Or.inl ⟨by kernel_rfl, ?hb11⟩) ?rb11
      case hb11 => (intro w; go_simp; first | done | (with_reducible rfl))
      refine wpAny_take (i := 14) (v := ?vb12) rfl (by kernel_rfl) (by kernel_rfl) (by kernel_rfl) (fun _ _ _ h => h) (Or.inl ⟨by kernel_rfl, ?hb12⟩) ?rb12
      case hb12 => (intro w; go_simp; first | done | (with_reducible rfl))
      refine wpAny_ready (rs := [15]) (by kernel_rfl) (by simp) ?_
      refine AllReady.cons rfl (fun K hK => ?_) AllReady.nil
      go_simp
      refine hK _ _ ?_
      clear hK K
      refine wpAny_done (by kernel_rfl) ?_ _
      try go_simp
      go_end0
      exact ⟨rfl, Hpost.out.2⟩
    refine AllReady.cons rfl (fun K hK => ?_) AllReady.nil
    go_simp
    refine hK _ _ ?_
    clear hK K
    refine wpAny_take (i := 10) (v := ?vb13) rfl (by kernel_rfl) (by kernel_rfl) (by kernel_rfl) (fun _ _ _ h => h) (Or.inl ⟨by kernel_rfl, ?hb13⟩) ?rb13
    case hb13 => (intro w; go_simp; first | done | (with_reducible rfl))
    refine wpAny_ready (rs := [3]) (by kernel_rfl) (by simp) ?_
    refine AllReady.cons rfl (fun K hK => ?_) AllReady.nil
    rw [if_pos (by kernel_rfl)]
    refine op_app (.tmp 18) (.tmp 19) (.slice (some ⟨gb, 0, none⟩) at_ at_) x (by kernel_rfl) (by kernel_rfl) rfl (H3.out _) ?_
    refine hK _ _ ?_
    clear hK K
    refine wpAny_ready (rs := [11]) (by kernel_rfl) (by simp) ?_
    refine AllReady.cons rfl (fun K hK => ?_) AllReady.nil
    rw [if_pos (by kernel_rfl)]
    refine op_app (.tmp 20) (.tmp 27) v1 (.slice (some ⟨gb, en * 3, none⟩) (n - en) (cap - en)) (by kernel_rfl) (by kernel_rfl) rfl (H11.out _) ?_
    refine hK _ _ ?_
    clear hK K
    refine wpAny_take (i := 12) (v := ?vb14) rfl (by kernel_rfl) (by kernel_rfl) (by kernel_rfl) (fun _ _ _ h => h) (Or.inl ⟨by kernel_rfl, ?hb14⟩) ?rb14
    case hb14 => (intro w; go_simp; first | done | (with_reducible rfl))
    refine wpAny_take (i := 13) (v := ?vb15) rfl (by kernel_rfl) (by kernel_rfl) (by kernel_rfl) (fun _ _ _ h => h) (Or.inl ⟨by kernel_rfl, ?hb15⟩) ?rb15
    case hb15 => (intro w; go_simp; first | done | (with_reducible rfl))
    refine wpAny_take (i := 14) (v := ?vb16) rfl (by kernel_rfl) (by kernel_rfl) (by kernel_rfl) (fun _ _ _ h => h) (Or.inl ⟨by kernel_rfl, ?hb16⟩) ?rb16
    case hb16 => (intro w; go_simp; first | done | (with_reducible rfl))
    refine wpAny_ready (rs := [15]) (by kernel_rfl) (by simp) ?_
    refine AllReady.cons rfl (fun K hK => ?_) AllReady.nil
    go_simp
    refine hK _ _ ?_
    clear hK K
    refine wpAny_done (by kernel_rfl) ?_ _
    try go_simp
    go_end0
    exact ⟨rfl, Hpost.out.2⟩

set_option maxHeartbeats 800000 in
/-- put at no list -/
theorem put_none (w : World) (g : Nat) (down : Bool) (fuse fault : Int) (x v1 : Value) (X w1 w2 : World) (ad2 : Option Addr) (n2 cap2 base : Nat) (out : List F) (hX : w.drew = X) (h : Dk w g 64 (.slice none 0 0) down fuse fault)
    (ht : Two X (.slice none 0 0) x (.slice none 0 0) v1 w1 ad2 n2 cap2 w2 out) (hbase : base ≤ w.heap.size) (hbg : base ≤ g) :
    Calls Try.prog 54 #[.pointer (some ⟨g, 0, none⟩), .int .i64 0, .int .i64 0, x] w fun e w' => e = .returned (.tuple #[]) ∧ Behind base w g down fuse fault out w' := by
  have Hpost := Lib.hid (show Ending.returned (.tuple #[]) = .returned (.tuple #[]) ∧ Behind base w g down fuse fault out (w2.setCell ⟨g, 0, none⟩ (.slice ad2 n2 cap2)) from ⟨rfl, behind_of hX h ht (by simp [Value.ownBlock]) (fun b hb => by simp [Value.ownBlock] at hb) hbase hbg⟩)
  obtain ⟨hr1, hr2, hb1, hb2, _, _⟩ := ht
  have hDX : Dk X g 64 (.slice none 0 0) down fuse fault := by rw [← hX]; exact h
  have hlt := hDX.lt
  obtain ⟨⟨d0, d1, d2, d3⟩, _⟩ := h.facts
  obtain ⟨⟨x0, _, _, _⟩, _⟩ := hDX.facts
  obtain ⟨⟨y0, _, _, _⟩, _⟩ := (hDX.keep hb1 hlt).facts
  obtain ⟨⟨z0, _, _, _⟩, fz, _⟩ := (hDX.keep hb2 hlt).facts
  have HX := Lib.hid hX
  have H3 := Lib.hid hr1
  have H11 := Lib.hid hr2
  clear hr1 hr2 hb1 hb2 hX h hDX hlt
  go_enter Try.func54, Try.ntmps54
  go_wp2
  refine wp_region_any (by kernel_rfl) ?_
  change wpAny _ _ _ _ _ _ _ (w.drew)
  rw [HX.out]
  refine wpAny_take (i := 0) (v := ?vc1) rfl (by kernel_rfl) (by kernel_rfl) (by kernel_rfl) (fun _ _ _ h => h) (Or.inl ⟨by kernel_rfl, ?hc1⟩) ?rc1
  case hc1 => (intro w; go_simp; first | done | (with_reducible rfl))
  refine wpAny_take (i := 1) (v := ?vc2) rfl (by kernel_rfl) (by kernel_rfl) (by kernel_rfl) (fun _ _ _ h => h) (Or.inl ⟨by kernel_rfl, ?hc2⟩) ?rc2
  case hc2 => (intro w; go_simp; first | done | (with_reducible rfl))
  refine wpAny_take (i := 2) (v := ?vc3) rfl (by kernel_rfl) (by kernel_rfl) (by kernel_rfl) (fun _ _ _ h => h) (Or.inl ⟨by kernel_rfl, ?hc3⟩) ?rc3
  case hc3 => (intro w; go_simp; first | done | (with_reducible rfl))
  refine wpAny_take (i := 4) (v := ?vc4) rfl (by kernel_rfl) (by kernel_rfl) (by kernel_rfl) (fun _ _ _ h => h) (Or.inl ⟨by kernel_rfl, ?hc4⟩) ?rc4
  case hc4 => (intro w; go_simp; first | done | (with_reducible rfl))
  refine wpAny_take (i := 5) (v := ?vc5) rfl (by kernel_rfl) (by kernel_rfl) (by kernel_rfl) (fun _ _ _ h => h) (Or.inl ⟨by kernel_rfl, ?hc5⟩) ?rc5
  case hc5 => (intro w; go_simp; first | done | (with_reducible rfl))
  refine wpAny_take (i := 6) (v := ?vc6) rfl (by kernel_rfl) (by kernel_rfl) (by kernel_rfl) (fun _ _ _ h => h) (Or.inl ⟨by kernel_rfl, ?hc6⟩) ?rc6
  case hc6 => (intro w; go_simp; first | done | (with_reducible rfl))
  refine wpAny_take (i := 7) (v := ?vc7) rfl (by kernel_rfl) (by kernel_rfl) (by kernel_rfl) (fun _ _ _ h => h) (Or.inl ⟨by kernel_rfl, ?hc7⟩) ?rc7
  case hc7 => (intro w; go_simp; first | done | (with_reducible rfl))
  refine wpAny_take (i := 9) (v := ?vc8) rfl (by kernel_rfl) (by kernel_rfl) (by kernel_rfl) (fun _ _ _ h => h) (Or.inl ⟨by kernel_rfl, ?hc8⟩) ?rc8
  case hc8 => (intro w; go_simp; first | done | (with_reducible rfl))
  refine wpAny_ready (rs := [3, 8]) (by kernel_rfl) (by simp) ?_
  refine AllReady.cons rfl (fun K hK => ?_) ?_
  · skip
    rw [if_pos (by kernel_rfl)]
    refine op_app (.tmp 18) (.tmp 19) (.slice none 0 0) x (by kernel_rfl) (by kernel_rfl) rfl (H3.out _) ?_
    refine hK _ _ ?_
    clear hK K
    refine wpAny_ready (rs := [8]) (by kernel_rfl) (by simp) ?_
    refine AllReady.cons rfl (fun K hK => ?_) AllReady.nil
    go_simp
    refine hK _ _ ?_
    clear hK K
    refine wpAny_take (i := 10) (v := ?vc9) rfl (by kernel_rfl) (by kernel_rfl) (by kernel_rfl) (fun _ _ _ h => h) (Or.inl ⟨by kernel_rfl, ?hc9⟩) ?rc9
    case hc9 => (intro w; go_simp; first | done | (with_reducible rfl))
    refine wpAny_ready (rs := [11]) (by kernel_rfl) (by simp) ?_
    refine AllReady.cons rfl (fun K hK => ?_) AllReady.nil
    rw [if_pos (by kernel_rfl)]
    refine op_app (.tmp 20) (.tmp 27) v1 (.slice none 0 0) (by kernel_rfl) (by kernel_rfl) rfl (H11.out _) ?_
    refine hK _ _ ?_
    clear hK K
    refine wpAny_take (i := 12) (v := ?vc10) rfl (by kernel_rfl) (by kernel_rfl) (by kernel_rfl) (fun _ _ _ h => h) (Or.inl ⟨by kernel_rfl, ?hc10⟩) ?rc10
    case hc10 => (intro w; go_simp; first | done | (with_reducible rfl))
    refine wpAny_take (i := 13) (v := ?vc11) rfl (by kernel_rfl) (by kernel_rfl) (by kernel_rfl) (fun _ _ _ h => h) (Or.inl ⟨by kernel_rfl, ?hc11⟩) ?rc11
    case hc11 => (intro w; go_simp; first | done | (with_reducible rfl))
    refine wpAny_take (i := 14) (v := ?vc12) rfl (by kernel_rfl) (by kernel_rfl) (by kernel_rfl) (fun _ _ _ h => h) (Or.inl ⟨by kernel_rfl, ?hc12⟩) ?rc12
    case hc12 => (intro w; go_simp; first | done | (with_reducible rfl))
    refine wpAny_ready (rs := [15]) (by kernel_rfl) (by simp) ?_
    refine AllReady.cons rfl (fun K hK => ?_) AllReady.nil
    go_simp
    refine hK _ _ ?_
    clear hK K
    refine wpAny_done (by kernel_rfl) ?_ _
    try go_simp
    go_end0
    exact ⟨rfl, Hpost.out.2⟩
  refine AllReady.cons rfl (fun K hK => ?_) AllReady.nil
  go_simp
  refine hK _ _ ?_
  clear hK K
  refine wpAny_take (i := 10) (v := ?vc13) rfl (by kernel_rfl) (by kernel_rfl) (by kernel_rfl) (fun _ _ _ h => h) (Or.inl ⟨by kernel_rfl, ?hc13⟩) ?rc13
  case hc13 => (intro w; go_simp; first | done | (with_reducible rfl))
  refine wpAny_ready (rs := [3]) (by kernel_rfl) (by simp) ?_
  refine AllReady.cons rfl (fun K hK => ?_) AllReady.nil
  rw [if_pos (by kernel_rfl)]
  refine op_app (.tmp 18) (.tmp 19) (.slice none 0 0) x (by kernel_rfl) (by kernel_rfl) rfl (H3.out _) ?_
  refine hK _ _ ?_
  clear hK K
  refine wpAny_ready (rs := [11]) (by kernel_rfl) (by simp) ?_
  refine AllReady.cons rfl (fun K hK => ?_) AllReady.nil
  rw [if_pos (by kernel_rfl)]
  refine op_app (.tmp 20) (.tmp 27) v1 (.slice none 0 0) (by kernel_rfl) (by kernel_rfl) rfl (H11.out _) ?_
  refine hK _ _ ?_
  clear hK K
  refine wpAny_take (i := 12) (v := ?vc14) rfl (by kernel_rfl) (by kernel_rfl) (by kernel_rfl) (fun _ _ _ h => h) (Or.inl ⟨by kernel_rfl, ?hc14⟩) ?rc14
  case hc14 => (intro w; go_simp; first | done | (with_reducible rfl))
  refine wpAny_take (i := 13) (v := ?vc15) rfl (by kernel_rfl) (by kernel_rfl) (by kernel_rfl) (fun _ _ _ h => h) (Or.inl ⟨by kernel_rfl, ?hc15⟩) ?rc15
  case hc15 => (intro w; go_simp; first | done | (with_reducible rfl))
  refine wpAny_take (i := 14) (v := ?vc16) rfl (by kernel_rfl) (by kernel_rfl) (by kernel_rfl) (fun _ _ _ h => h) (Or.inl ⟨by kernel_rfl, ?hc16⟩) ?rc16
  case hc16 => (intro w; go_simp; first | done | (with_reducible rfl))
  refine wpAny_ready (rs := [15]) (by kernel_rfl) (by simp) ?_
  refine AllReady.cons rfl (fun K hK => ?_) AllReady.nil
  go_simp
  refine hK _ _ ?_
  clear hK K
  refine wpAny_done (by kernel_rfl) ?_ _
  try go_simp
  go_end0
  exact ⟨rfl, Hpost.out.2⟩

end Go.Proofs.Ytcefhcailhediaa
