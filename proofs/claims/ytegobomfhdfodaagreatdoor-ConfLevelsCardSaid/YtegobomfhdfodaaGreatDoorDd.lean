/- CONF: THE WALKS OVER areKeys, isNode at any node, Check. -/
import Derived.Test.YtegobomfhdfodaaGreatDoorDc1
namespace Go.Proofs.YtegobomfhdfodaaGreatDoor
open Go.RowKit
set_option maxRecDepth 100000
set_option linter.unusedVariables false
set_option linter.unusedSimpArgs false

theorem drop_get {α : Type} {l : List α} {k : Nat} {y : α} (h : l[k]? = some y) : l.drop k = y :: l.drop (k + 1) := by
  obtain ⟨hk, e⟩ := List.getElem?_eq_some_iff.1 h
  rw [List.drop_eq_getElem_cons hk, e]
theorem take_snoc {α : Type} {l : List α} {k : Nat} {y : α} (h : l[k]? = some y) : l.take (k + 1) = l.take k ++ [y] := by rw [List.take_add_one, h]; rfl
set_option maxHeartbeats 8000000 in
theorem keys_main (l : List (K.T × Nd)) (a : Nat) (ha : a ≤ 8) (h256 : l.length ≤ 256) (ok : Nd → Bool) (ih : ∀ y ∈ l, NodeC y.2 (a + 1) (ok y.2)) : KeysC l a (K.keysF ok [] l) := by
  intro B w q hq
  obtain ⟨ad, cap, rfl, hl⟩ := hq.form
  obtain ⟨n, hn⟩ : ∃ n, n = l.length := ⟨_, rfl⟩
  rw [← hn] at hq hl h256 ⊢
  have hroom := hq.room.1
  obtain ⟨R, hR⟩ : ∃ R, K.keysF ok [] l = R := ⟨_, rfl⟩
  rw [hR]
  have Hq := Lib.hid hq
  have Hn := Lib.hid hn
  have HR := Lib.hid hR
  have Ih := Lib.hid ih
  have ha' : ¬ (8 : Int) < (a : Int) := by omega
  have hn' : ¬ (256 : Int) < (n : Int) := by omega
  clear hq hn hR ih
  go_enter Tryz.func60, Tryz.ntmps60
  go_wp2
  go_loopw [16] (fun i wr => ∃ k : Nat, i = .int .i64 (k : Int) ∧ k ≤ n ∧ Go.RowKit.Hid (K.keysF ok (l.take k) (l.drop k) = R) ∧ Below w.heap.size w wr) (fun i _ => n - (intOf i).toNat)
  case atStart => exact ⟨0, rfl, Nat.zero_le _, HR.out, Below.refl _ _⟩
  case round =>
    obtain ⟨k, rfl, hk, hall, hbel⟩ := hrel
    have Hall := Lib.hid hall.out
    have Hbel := Lib.hid hbel
    clear hall hbel
    by_cases hlt : k < n
    · obtain ⟨y, hy⟩ := get_at (l := l) (k := k) (by rw [← Hn.out]; exact hlt)
      obtain ⟨g, o, c, d, rfl, hg, ⟨c0, c1, c2, c3, c4⟩, hky, hrep⟩ := (Hq.out.under Hbel.out).at hy
      obtain ⟨adc, capc, rfl, _⟩ := hrep.parts.2.1.form
      obtain ⟨add, capd, rfl, _⟩ := hrep.parts.2.2.form
      have hk0 : (0 : Int) ≤ (k : Int) := by omega
      have hkn : (k : Int) < (n : Int) := by omega
      have hkc : (k : Int) ≤ (cap : Int) := by omega
      have hk8 : (k : Int) ≤ 256 := by omega
      have ha8 : (a : Int) ≤ 8 := by omega
      obtain ⟨W, hW⟩ : ∃ W, W = wr.alloc (.cells (kv y.1 y.2 (.slice adc y.2.l.length capc) (.slice add y.2.p.length capd)) 44) := ⟨_, rfl⟩
      have hBW : Below wr.heap.size wr W := by rw [hW]; exact (Below.refl _ _).alloc (Nat.le_refl _) _
      have hat : At5 W wr.heap.size 0 y.1 y.2 (.slice adc y.2.l.length capc) (.slice add y.2.p.length capd) := At5.box (t := 44) (by rw [hW]; exact blk_new wr _)
      obtain ⟨z0, z1, z2, z3, z4⟩ := hat
      simp only [Nat.zero_add] at z0 z1 z2 z3 z4
      have hlW : wr.heap.size < W.heap.size := by rw [hW]; simp
      have HAT := Lib.hid (show At5 W.drew wr.heap.size 0 y.1 y.2 (.slice adc y.2.l.length capc) (.slice add y.2.p.length capd) from ⟨z0, z1, z2, z3, z4⟩)
      have HLT := Lib.hid (show wr.heap.size < W.drew.heap.size from hlW)
      have HBW := Lib.hid (show Below wr.heap.size wr W.drew from hBW.trans ((Below.refl _ W).drew.mono hBW.size))
      have HQ := Lib.hid ((Hq.out.under Hbel.out).under HBW.out)
      have HRP := Lib.hid (hrep.under HBW.out)
      have hkey := key_any y.1 (by omega) W.drew
      have hstep : (K.isKey y.1 && (K.find (l.take k) y.1).isNone && ok y.2 && K.keysF ok (l.take (k + 1)) (l.drop (k + 1))) = R := by
        rw [← Hall.out, drop_get hy, take_snoc hy]
        rfl
      have HND := Lib.hid (Ih.out y (List.mem_of_getElem? hy))
      have HW := Lib.hid hW
      have HST := Lib.hid hstep
      have HWA := Lib.hid (show IntKind.i64.wrap ((a : Int) + 1) = ((a + 1 : Nat) : Int) by rw [IntWalk.i64_in _ (by omega)]; omega)
      obtain ⟨b1, hb1⟩ : ∃ b, K.isKey y.1 = b := ⟨_, rfl⟩
      rw [hb1] at hkey
      have HKY := Lib.hid hkey
      have HB1 := Lib.hid hb1
      clear hW hBW hrep hkey hstep hb1 hy hky Hq Ih HR Hall
      go_upto_region 6 with (fail)
      rw [← HW.out]
      cases b1 with
      | false =>
        have HFIN := Lib.hid (show R = false by rw [← HST.out, HB1.out]; rfl)
        refine wp_region_any (by kernel_rfl) ?_
        refine wpAny_take (i := 0) (v := ?va1) rfl (by kernel_rfl) (by kernel_rfl) (by kernel_rfl) (fun _ _ _ h => h) (Or.inl ⟨by kernel_rfl, ?ha1⟩) ?ra1
        case ha1 => (intro w; go_simp; first | done | (with_reducible rfl))
        refine wpAny_ready (rs := [1]) (by kernel_rfl) (by simp) ?_
        refine AllReady.cons rfl (fun K hK => ?_) AllReady.nil
        go_simp
        refine hK _ _ ?_
        clear hK K
        refine wpAny_ready (rs := [2]) (by kernel_rfl) (by simp) ?_
        refine AllReady.cons rfl (fun K hK => ?_) AllReady.nil
        go_simp
        go_at_call 55
        refine (HKY.out).mono ?_
        rintro e w2 ⟨rfl, hb2⟩
        obtain ⟨k0, k1, k2, k3, k4⟩ := HAT.out.keep (hb2.block _ HLT.out)
        simp only [Nat.zero_add] at k0 k1 k2 k3 k4
        have hl2 : wr.heap.size < w2.heap.size := Nat.lt_of_lt_of_le HLT.out hb2.size
        refine hK _ _ ?_
        clear hK K
        refine wpAny_take (i := 3) (v := ?va2) rfl (by kernel_rfl) (by kernel_rfl) (by kernel_rfl) (fun _ _ _ h => h) (Or.inl ⟨by kernel_rfl, ?ha2⟩) ?ra2
        case ha2 => (intro w; go_simp; first | done | (with_reducible rfl))
        refine wpAny_take (i := 4) (v := ?va3) rfl (by kernel_rfl) (by kernel_rfl) (by kernel_rfl) (fun _ _ _ h => h) (Or.inl ⟨by kernel_rfl, ?ha3⟩) ?ra3
        case ha3 => (intro w; go_simp; first | done | (with_reducible rfl))
        refine wpAny_take (i := 5) (v := undef) rfl (by kernel_rfl) (by kernel_rfl) (by kernel_rfl) (fun _ _ _ h => h) (Or.inr ⟨by kernel_rfl, rfl⟩) ?_
        refine wpAny_take (i := 6) (v := undef) rfl (by kernel_rfl) (by kernel_rfl) (by kernel_rfl) (fun _ _ _ h => h) (Or.inr ⟨by kernel_rfl, rfl⟩) ?_
        refine wpAny_take (i := 7) (v := undef) rfl (by kernel_rfl) (by kernel_rfl) (by kernel_rfl) (fun _ _ _ h => h) (Or.inr ⟨by kernel_rfl, rfl⟩) ?_
        refine wpAny_take (i := 8) (v := undef) rfl (by kernel_rfl) (by kernel_rfl) (by kernel_rfl) (fun _ _ _ h => h) (Or.inr ⟨by kernel_rfl, rfl⟩) ?_
        refine wpAny_take (i := 9) (v := undef) rfl (by kernel_rfl) (by kernel_rfl) (by kernel_rfl) (fun _ _ _ h => h) (Or.inr ⟨by kernel_rfl, rfl⟩) ?_
        refine wpAny_take (i := 10) (v := undef) rfl (by kernel_rfl) (by kernel_rfl) (by kernel_rfl) (fun _ _ _ h => h) (Or.inr ⟨by kernel_rfl, rfl⟩) ?_
        refine wpAny_take (i := 11) (v := undef) rfl (by kernel_rfl) (by kernel_rfl) (by kernel_rfl) (fun _ _ _ h => h) (Or.inr ⟨by kernel_rfl, rfl⟩) ?_
        refine wpAny_take (i := 12) (v := ?va11) rfl (by kernel_rfl) (by kernel_rfl) (by kernel_rfl) (fun _ _ _ h => h) (Or.inl ⟨by kernel_rfl, ?ha11⟩) ?ra11
        case ha11 => (intro w; go_simp; first | done | (with_reducible rfl))
        refine wpAny_take (i := 13) (v := ?va12) rfl (by kernel_rfl) (by kernel_rfl) (by kernel_rfl) (fun _ _ _ h => h) (Or.inl ⟨by kernel_rfl, ?ha12⟩) ?ra12
        case ha12 => (intro w; go_simp; first | done | (with_reducible rfl))
        refine wpAny_take (i := 14) (v := undef) rfl (by kernel_rfl) (by kernel_rfl) (by kernel_rfl) (fun _ _ _ h => h) (Or.inr ⟨by kernel_rfl, rfl⟩) ?_
        refine wpAny_take (i := 15) (v := undef) rfl (by kernel_rfl) (by kernel_rfl) (by kernel_rfl) (fun _ _ _ h => h) (Or.inr ⟨by kernel_rfl, rfl⟩) ?_
        refine wpAny_take (i := 16) (v := undef) rfl (by kernel_rfl) (by kernel_rfl) (by kernel_rfl) (fun _ _ _ h => h) (Or.inr ⟨by kernel_rfl, rfl⟩) ?_
        refine wpAny_take (i := 17) (v := undef) rfl (by kernel_rfl) (by kernel_rfl) (by kernel_rfl) (fun _ _ _ h => h) (Or.inr ⟨by kernel_rfl, rfl⟩) ?_
        refine wpAny_take (i := 18) (v := undef) rfl (by kernel_rfl) (by kernel_rfl) (by kernel_rfl) (fun _ _ _ h => h) (Or.inr ⟨by kernel_rfl, rfl⟩) ?_
        refine wpAny_take (i := 19) (v := undef) rfl (by kernel_rfl) (by kernel_rfl) (by kernel_rfl) (fun _ _ _ h => h) (Or.inr ⟨by kernel_rfl, rfl⟩) ?_
        refine wpAny_take (i := 20) (v := ?va19) rfl (by kernel_rfl) (by kernel_rfl) (by kernel_rfl) (fun _ _ _ h => h) (Or.inl ⟨by kernel_rfl, ?ha19⟩) ?ra19
        case ha19 => (intro w; go_simp; first | done | (with_reducible rfl))
        refine wpAny_done (by kernel_rfl) ?_ _
        try go_simp
        have HBE := Lib.hid (Hbel.out.trans ((HBW.out.trans (hb2.mono HBW.out.size)).mono Hbel.out.size))
        go_wp2
        go_ret
        exact ⟨by rw [HFIN.out]; rfl, HBE.out⟩
      | true =>
        obtain ⟨fd, hfd⟩ : ∃ fd, K.find (l.take k) y.1 = fd := ⟨_, rfl⟩
        have HFD := Lib.hid hfd
        clear hfd
        cases fd with
        | some i =>
          have HFIN := Lib.hid (show R = false by rw [← HST.out, HB1.out, HFD.out]; rfl)
          have hi0 : (0 : Int) ≤ (i : Int) := by omega
          have hi1 : decide ((0 : Int) ≤ (i : Int)) = true := decide_eq_true hi0
          refine wp_region_any (by kernel_rfl) ?_
          refine wpAny_take (i := 0) (v := ?vb1) rfl (by kernel_rfl) (by kernel_rfl) (by kernel_rfl) (fun _ _ _ h => h) (Or.inl ⟨by kernel_rfl, ?hb1⟩) ?rb1
          case hb1 => (intro w; go_simp; first | done | (with_reducible rfl))
          refine wpAny_ready (rs := [1]) (by kernel_rfl) (by simp) ?_
          refine AllReady.cons rfl (fun K hK => ?_) AllReady.nil
          go_simp
          refine hK _ _ ?_
          clear hK K
          refine wpAny_ready (rs := [2]) (by kernel_rfl) (by simp) ?_
          refine AllReady.cons rfl (fun K hK => ?_) AllReady.nil
          go_simp
          go_at_call 55
          refine (HKY.out).mono ?_
          rintro e w2 ⟨rfl, hb2⟩
          obtain ⟨k0, k1, k2, k3, k4⟩ := HAT.out.keep (hb2.block _ HLT.out)
          simp only [Nat.zero_add] at k0 k1 k2 k3 k4
          have hl2 : wr.heap.size < w2.heap.size := Nat.lt_of_lt_of_le HLT.out hb2.size
          refine hK _ _ ?_
          clear hK K
          refine wpAny_take (i := 3) (v := ?vb2) rfl (by kernel_rfl) (by kernel_rfl) (by kernel_rfl) (fun _ _ _ h => h) (Or.inl ⟨by kernel_rfl, ?hb2⟩) ?rb2
          case hb2 => (intro w; go_simp; first | done | (with_reducible rfl))
          refine wpAny_take (i := 4) (v := ?vb3) rfl (by kernel_rfl) (by kernel_rfl) (by kernel_rfl) (fun _ _ _ h => h) (Or.inl ⟨by kernel_rfl, ?hb3⟩) ?rb3
          case hb3 => (intro w; go_simp; first | done | (with_reducible rfl))
          refine wpAny_take (i := 5) (v := ?vb4) rfl (by kernel_rfl) (by kernel_rfl) (by kernel_rfl) (fun _ _ _ h => h) (Or.inl ⟨by kernel_rfl, ?hb4⟩) ?rb4
          case hb4 => (intro w; go_simp; first | done | (with_reducible rfl))
          refine wpAny_take (i := 6) (v := ?vb5) rfl (by kernel_rfl) (by kernel_rfl) (by kernel_rfl) (fun _ _ _ h => h) (Or.inl ⟨by kernel_rfl, ?hb5⟩) ?rb5
          case hb5 => (intro w; go_simp; first | done | (with_reducible rfl))
          refine wpAny_take (i := 8) (v := ?vb6) rfl (by kernel_rfl) (by kernel_rfl) (by kernel_rfl) (fun _ _ _ h => h) (Or.inl ⟨by kernel_rfl, ?hb6⟩) ?rb6
          case hb6 => (intro w; go_simp; first | done | (with_reducible rfl))
          refine wpAny_ready (rs := [7, 9]) (by kernel_rfl) (by simp) ?_
          refine AllReady.cons rfl (fun K hK => ?_) ?_
          · skip
            go_simp
            refine hK _ _ ?_
            clear hK K
            refine wpAny_ready (rs := [9]) (by kernel_rfl) (by simp) ?_
            refine AllReady.cons rfl (fun K hK => ?_) AllReady.nil
            go_simp
            refine hK _ _ ?_
            clear hK K
            refine wpAny_ready (rs := [10]) (by kernel_rfl) (by simp) ?_
            refine AllReady.cons rfl (fun K hK => ?_) AllReady.nil
            go_simp
            go_at_call 35
            refine (find_any w2 _ (l.take k) y.1 ((HQ.out.under hb2).take k (by have := Hn.out; omega))).mono ?_
            rw [HFD.out]
            rintro e w3 ⟨rfl, hb3⟩
            simp only [atI]
            obtain ⟨m0, m1, m2, m3, m4⟩ := HAT.out.keep ((hb3.block _ hl2).trans (hb2.block _ HLT.out))
            simp only [Nat.zero_add] at m0 m1 m2 m3 m4
            have hl3 : wr.heap.size < w3.heap.size := Nat.lt_of_lt_of_le hl2 hb3.size
            refine hK _ _ ?_
            clear hK K
            refine wpAny_take (i := 11) (v := ?vb7) rfl (by kernel_rfl) (by kernel_rfl) (by kernel_rfl) (fun _ _ _ h => h) (Or.inl ⟨by kernel_rfl, ?hb7⟩) ?rb7
            case hb7 => (intro w; go_simp; first | done | (with_reducible rfl))
            refine wpAny_take (i := 12) (v := ?vb8) rfl (by kernel_rfl) (by kernel_rfl) (by kernel_rfl) (fun _ _ _ h => h) (Or.inl ⟨by kernel_rfl, ?hb8⟩) ?rb8
            case hb8 => (intro w; go_simp; first | done | (with_reducible rfl))
            refine wpAny_take (i := 13) (v := ?vb9) rfl (by kernel_rfl) (by kernel_rfl) (by kernel_rfl) (fun _ _ _ h => h) (Or.inl ⟨by kernel_rfl, ?hb9⟩) ?rb9
            case hb9 => (intro w; go_simp; first | done | (with_reducible rfl))
            refine wpAny_take (i := 14) (v := undef) rfl (by kernel_rfl) (by kernel_rfl) (by kernel_rfl) (fun _ _ _ h => h) (Or.inr ⟨by kernel_rfl, rfl⟩) ?_
            refine wpAny_take (i := 15) (v := undef) rfl (by kernel_rfl) (by kernel_rfl) (by kernel_rfl) (fun _ _ _ h => h) (Or.inr ⟨by kernel_rfl, rfl⟩) ?_
            refine wpAny_take (i := 16) (v := undef) rfl (by kernel_rfl) (by kernel_rfl) (by kernel_rfl) (fun _ _ _ h => h) (Or.inr ⟨by kernel_rfl, rfl⟩) ?_
            refine wpAny_take (i := 17) (v := undef) rfl (by kernel_rfl) (by kernel_rfl) (by kernel_rfl) (fun _ _ _ h => h) (Or.inr ⟨by kernel_rfl, rfl⟩) ?_
            refine wpAny_take (i := 18) (v := undef) rfl (by kernel_rfl) (by kernel_rfl) (by kernel_rfl) (fun _ _ _ h => h) (Or.inr ⟨by kernel_rfl, rfl⟩) ?_
            refine wpAny_take (i := 19) (v := undef) rfl (by kernel_rfl) (by kernel_rfl) (by kernel_rfl) (fun _ _ _ h => h) (Or.inr ⟨by kernel_rfl, rfl⟩) ?_
            refine wpAny_take (i := 20) (v := ?vb16) rfl (by kernel_rfl) (by kernel_rfl) (by kernel_rfl) (fun _ _ _ h => h) (Or.inl ⟨by kernel_rfl, ?hb16⟩) ?rb16
            case hb16 => (intro w; go_simp; first | done | (with_reducible rfl))
            refine wpAny_done (by kernel_rfl) ?_ _
            try go_simp
            have HBE := Lib.hid (Hbel.out.trans ((HBW.out.trans ((hb2.trans (hb3.mono hb2.size)).mono HBW.out.size)).mono Hbel.out.size))
            go_wp2
            go_ret
            exact ⟨by rw [HFIN.out]; rfl, HBE.out⟩
          refine AllReady.cons rfl (fun K hK => ?_) AllReady.nil
          go_simp
          refine hK _ _ ?_
          clear hK K
          refine wpAny_ready (rs := [7]) (by kernel_rfl) (by simp) ?_
          refine AllReady.cons rfl (fun K hK => ?_) AllReady.nil
          go_simp
          refine hK _ _ ?_
          clear hK K
          refine wpAny_ready (rs := [10]) (by kernel_rfl) (by simp) ?_
          refine AllReady.cons rfl (fun K hK => ?_) AllReady.nil
          go_simp
          go_at_call 35
          refine (find_any w2 _ (l.take k) y.1 ((HQ.out.under hb2).take k (by have := Hn.out; omega))).mono ?_
          rw [HFD.out]
          rintro e w3 ⟨rfl, hb3⟩
          simp only [atI]
          obtain ⟨m0, m1, m2, m3, m4⟩ := HAT.out.keep ((hb3.block _ hl2).trans (hb2.block _ HLT.out))
          simp only [Nat.zero_add] at m0 m1 m2 m3 m4
          have hl3 : wr.heap.size < w3.heap.size := Nat.lt_of_lt_of_le hl2 hb3.size
          refine hK _ _ ?_
          clear hK K
          refine wpAny_take (i := 11) (v := ?vb17) rfl (by kernel_rfl) (by kernel_rfl) (by kernel_rfl) (fun _ _ _ h => h) (Or.inl ⟨by kernel_rfl, ?hb17⟩) ?rb17
          case hb17 => (intro w; go_simp; first | done | (with_reducible rfl))
          refine wpAny_take (i := 12) (v := ?vb18) rfl (by kernel_rfl) (by kernel_rfl) (by kernel_rfl) (fun _ _ _ h => h) (Or.inl ⟨by kernel_rfl, ?hb18⟩) ?rb18
          case hb18 => (intro w; go_simp; first | done | (with_reducible rfl))
          refine wpAny_take (i := 13) (v := ?vb19) rfl (by kernel_rfl) (by kernel_rfl) (by kernel_rfl) (fun _ _ _ h => h) (Or.inl ⟨by kernel_rfl, ?hb19⟩) ?rb19
          case hb19 => (intro w; go_simp; first | done | (with_reducible rfl))
          refine wpAny_take (i := 14) (v := undef) rfl (by kernel_rfl) (by kernel_rfl) (by kernel_rfl) (fun _ _ _ h => h) (Or.inr ⟨by kernel_rfl, rfl⟩) ?_
          refine wpAny_take (i := 15) (v := undef) rfl (by kernel_rfl) (by kernel_rfl) (by kernel_rfl) (fun _ _ _ h => h) (Or.inr ⟨by kernel_rfl, rfl⟩) ?_
          refine wpAny_take (i := 16) (v := undef) rfl (by kernel_rfl) (by kernel_rfl) (by kernel_rfl) (fun _ _ _ h => h) (Or.inr ⟨by kernel_rfl, rfl⟩) ?_
          refine wpAny_take (i := 17) (v := undef) rfl (by kernel_rfl) (by kernel_rfl) (by kernel_rfl) (fun _ _ _ h => h) (Or.inr ⟨by kernel_rfl, rfl⟩) ?_
          refine wpAny_take (i := 18) (v := undef) rfl (by kernel_rfl) (by kernel_rfl) (by kernel_rfl) (fun _ _ _ h => h) (Or.inr ⟨by kernel_rfl, rfl⟩) ?_
          refine wpAny_take (i := 19) (v := undef) rfl (by kernel_rfl) (by kernel_rfl) (by kernel_rfl) (fun _ _ _ h => h) (Or.inr ⟨by kernel_rfl, rfl⟩) ?_
          refine wpAny_take (i := 20) (v := ?vb26) rfl (by kernel_rfl) (by kernel_rfl) (by kernel_rfl) (fun _ _ _ h => h) (Or.inl ⟨by kernel_rfl, ?hb26⟩) ?rb26
          case hb26 => (intro w; go_simp; first | done | (with_reducible rfl))
          refine wpAny_done (by kernel_rfl) ?_ _
          try go_simp
          have HBE := Lib.hid (Hbel.out.trans ((HBW.out.trans ((hb2.trans (hb3.mono hb2.size)).mono HBW.out.size)).mono Hbel.out.size))
          go_wp2
          go_ret
          exact ⟨by rw [HFIN.out]; rfl, HBE.out⟩
        | none =>
          have hm1 : decide ((0 : Int) ≤ -1) = false := by decide
          obtain ⟨b2, hb2⟩ : ∃ b, ok y.2 = b := ⟨_, rfl⟩
          rw [hb2] at HND
          have HB2 := Lib.hid hb2
          clear hb2
          cases b2 with
          | false =>
            have HFIN := Lib.hid (show R = false by rw [← HST.out, HB1.out, HFD.out, HB2.out]; rfl)
            refine wp_region_any (by kernel_rfl) ?_
            refine wpAny_take (i := 0) (v := ?vd1) rfl (by kernel_rfl) (by kernel_rfl) (by kernel_rfl) (fun _ _ _ h => h) (Or.inl ⟨by kernel_rfl, ?hd1⟩) ?rd1
            case hd1 => (intro w; go_simp; first | done | (with_reducible rfl))
            refine wpAny_ready (rs := [1]) (by kernel_rfl) (by simp) ?_
            refine AllReady.cons rfl (fun K hK => ?_) AllReady.nil
            go_simp
            refine hK _ _ ?_
            clear hK K
            refine wpAny_ready (rs := [2]) (by kernel_rfl) (by simp) ?_
            refine AllReady.cons rfl (fun K hK => ?_) AllReady.nil
            go_simp
            go_at_call 55
            refine (HKY.out).mono ?_
            rintro e w2 ⟨rfl, hb2⟩
            obtain ⟨k0, k1, k2, k3, k4⟩ := HAT.out.keep (hb2.block _ HLT.out)
            simp only [Nat.zero_add] at k0 k1 k2 k3 k4
            have hl2 : wr.heap.size < w2.heap.size := Nat.lt_of_lt_of_le HLT.out hb2.size
            refine hK _ _ ?_
            clear hK K
            refine wpAny_take (i := 3) (v := ?vd2) rfl (by kernel_rfl) (by kernel_rfl) (by kernel_rfl) (fun _ _ _ h => h) (Or.inl ⟨by kernel_rfl, ?hd2⟩) ?rd2
            case hd2 => (intro w; go_simp; first | done | (with_reducible rfl))
            refine wpAny_take (i := 4) (v := ?vd3) rfl (by kernel_rfl) (by kernel_rfl) (by kernel_rfl) (fun _ _ _ h => h) (Or.inl ⟨by kernel_rfl, ?hd3⟩) ?rd3
            case hd3 => (intro w; go_simp; first | done | (with_reducible rfl))
            refine wpAny_take (i := 5) (v := ?vd4) rfl (by kernel_rfl) (by kernel_rfl) (by kernel_rfl) (fun _ _ _ h => h) (Or.inl ⟨by kernel_rfl, ?hd4⟩) ?rd4
            case hd4 => (intro w; go_simp; first | done | (with_reducible rfl))
            refine wpAny_take (i := 6) (v := ?vd5) rfl (by kernel_rfl) (by kernel_rfl) (by kernel_rfl) (fun _ _ _ h => h) (Or.inl ⟨by kernel_rfl, ?hd5⟩) ?rd5
            case hd5 => (intro w; go_simp; first | done | (with_reducible rfl))
            refine wpAny_take (i := 8) (v := ?vd6) rfl (by kernel_rfl) (by kernel_rfl) (by kernel_rfl) (fun _ _ _ h => h) (Or.inl ⟨by kernel_rfl, ?hd6⟩) ?rd6
            case hd6 => (intro w; go_simp; first | done | (with_reducible rfl))
            refine wpAny_ready (rs := [7, 9]) (by kernel_rfl) (by simp) ?_
            refine AllReady.cons rfl (fun K hK => ?_) ?_
            · skip
              go_simp
              refine hK _ _ ?_
              clear hK K
              refine wpAny_ready (rs := [9]) (by kernel_rfl) (by simp) ?_
              refine AllReady.cons rfl (fun K hK => ?_) AllReady.nil
              go_simp
              refine hK _ _ ?_
              clear hK K
              refine wpAny_ready (rs := [10]) (by kernel_rfl) (by simp) ?_
              refine AllReady.cons rfl (fun K hK => ?_) AllReady.nil
              go_simp
              go_at_call 35
              refine (find_any w2 _ (l.take k) y.1 ((HQ.out.under hb2).take k (by have := Hn.out; omega))).mono ?_
              rw [HFD.out]
              rintro e w3 ⟨rfl, hb3⟩
              simp only [atI]
              obtain ⟨m0, m1, m2, m3, m4⟩ := HAT.out.keep ((hb3.block _ hl2).trans (hb2.block _ HLT.out))
              simp only [Nat.zero_add] at m0 m1 m2 m3 m4
              have hl3 : wr.heap.size < w3.heap.size := Nat.lt_of_lt_of_le hl2 hb3.size
              refine hK _ _ ?_
              clear hK K
              refine wpAny_take (i := 11) (v := ?vd7) rfl (by kernel_rfl) (by kernel_rfl) (by kernel_rfl) (fun _ _ _ h => h) (Or.inl ⟨by kernel_rfl, ?hd7⟩) ?rd7
              case hd7 => (intro w; go_simp; first | done | (with_reducible rfl))
              refine wpAny_take (i := 12) (v := ?vd8) rfl (by kernel_rfl) (by kernel_rfl) (by kernel_rfl) (fun _ _ _ h => h) (Or.inl ⟨by kernel_rfl, ?hd8⟩) ?rd8
              case hd8 => (intro w; go_simp; first | done | (with_reducible rfl))
              refine wpAny_take (i := 13) (v := ?vd9) rfl (by kernel_rfl) (by kernel_rfl) (by kernel_rfl) (fun _ _ _ h => h) (Or.inl ⟨by kernel_rfl, ?hd9⟩) ?rd9
              case hd9 => (intro w; go_simp; first | done | (with_reducible rfl))
              refine wpAny_take (i := 14) (v := ?vd10) rfl (by kernel_rfl) (by kernel_rfl) (by kernel_rfl) (fun _ _ _ h => h) (Or.inl ⟨by kernel_rfl, ?hd10⟩) ?rd10
              case hd10 => (intro w; go_simp; first | done | (with_reducible rfl))
              refine wpAny_take (i := 16) (v := ?vd11) rfl (by kernel_rfl) (by kernel_rfl) (by kernel_rfl) (fun _ _ _ h => h) (Or.inl ⟨by kernel_rfl, ?hd11⟩) ?rd11
              case hd11 => (intro w; go_simp; first | done | (with_reducible rfl))
              refine wpAny_take (i := 17) (v := ?vd12) rfl (by kernel_rfl) (by kernel_rfl) (by kernel_rfl) (fun _ _ _ h => h) (Or.inl ⟨by kernel_rfl, ?hd12⟩) ?rd12
              case hd12 => (intro w; go_simp; first | done | (with_reducible rfl))
              refine wpAny_ready (rs := [15]) (by kernel_rfl) (by simp) ?_
              refine AllReady.cons rfl (fun K hK => ?_) AllReady.nil
              go_simp
              refine hK _ _ ?_
              clear hK K
              refine wpAny_ready (rs := [18]) (by kernel_rfl) (by simp) ?_
              refine AllReady.cons rfl (fun K hK => ?_) AllReady.nil
              go_simp
              go_at_call 34
              rw [HWA.out]
              refine (HND.out _ w3 _ _ ((HRP.out.under hb2).under hb3)).mono ?_
              rintro e w4 ⟨rfl, hb4⟩
              refine hK _ _ ?_
              clear hK K
              refine wpAny_take (i := 19) (v := ?vd13) rfl (by kernel_rfl) (by kernel_rfl) (by kernel_rfl) (fun _ _ _ h => h) (Or.inl ⟨by kernel_rfl, ?hd13⟩) ?rd13
              case hd13 => (intro w; go_simp; first | done | (with_reducible rfl))
              refine wpAny_take (i := 20) (v := ?vd14) rfl (by kernel_rfl) (by kernel_rfl) (by kernel_rfl) (fun _ _ _ h => h) (Or.inl ⟨by kernel_rfl, ?hd14⟩) ?rd14
              case hd14 => (intro w; go_simp; first | done | (with_reducible rfl))
              refine wpAny_done (by kernel_rfl) ?_ _
              try go_simp
              have HBE := Lib.hid (Hbel.out.trans ((HBW.out.trans ((hb2.trans (hb3.mono hb2.size)).trans (hb4.mono (Nat.le_trans hb2.size hb3.size)) |>.mono HBW.out.size)).mono Hbel.out.size))
              go_wp2
              go_ret
              exact ⟨by rw [HFIN.out]; rfl, HBE.out⟩
            refine AllReady.cons rfl (fun K hK => ?_) AllReady.nil
            go_simp
            refine hK _ _ ?_
            clear hK K
            refine wpAny_ready (rs := [7]) (by kernel_rfl) (by simp) ?_
            refine AllReady.cons rfl (fun K hK => ?_) AllReady.nil
            go_simp
            refine hK _ _ ?_
            clear hK K
            refine wpAny_ready (rs := [10]) (by kernel_rfl) (by simp) ?_
            refine AllReady.cons rfl (fun K hK => ?_) AllReady.nil
            go_simp
            go_at_call 35
            refine (find_any w2 _ (l.take k) y.1 ((HQ.out.under hb2).take k (by have := Hn.out; omega))).mono ?_
            rw [HFD.out]
            rintro e w3 ⟨rfl, hb3⟩
            simp only [atI]
            obtain ⟨m0, m1, m2, m3, m4⟩ := HAT.out.keep ((hb3.block _ hl2).trans (hb2.block _ HLT.out))
            simp only [Nat.zero_add] at m0 m1 m2 m3 m4
            have hl3 : wr.heap.size < w3.heap.size := Nat.lt_of_lt_of_le hl2 hb3.size
            refine hK _ _ ?_
            clear hK K
            refine wpAny_take (i := 11) (v := ?vd15) rfl (by kernel_rfl) (by kernel_rfl) (by kernel_rfl) (fun _ _ _ h => h) (Or.inl ⟨by kernel_rfl, ?hd15⟩) ?rd15
            case hd15 => (intro w; go_simp; first | done | (with_reducible rfl))
            refine wpAny_take (i := 12) (v := ?vd16) rfl (by kernel_rfl) (by kernel_rfl) (by kernel_rfl) (fun _ _ _ h => h) (Or.inl ⟨by kernel_rfl, ?hd16⟩) ?rd16
            case hd16 => (intro w; go_simp; first | done | (with_reducible rfl))
            refine wpAny_take (i := 13) (v := ?vd17) rfl (by kernel_rfl) (by kernel_rfl) (by kernel_rfl) (fun _ _ _ h => h) (Or.inl ⟨by kernel_rfl, ?hd17⟩) ?rd17
            case hd17 => (intro w; go_simp; first | done | (with_reducible rfl))
            refine wpAny_take (i := 14) (v := ?vd18) rfl (by kernel_rfl) (by kernel_rfl) (by kernel_rfl) (fun _ _ _ h => h) (Or.inl ⟨by kernel_rfl, ?hd18⟩) ?rd18
            case hd18 => (intro w; go_simp; first | done | (with_reducible rfl))
            refine wpAny_take (i := 16) (v := ?vd19) rfl (by kernel_rfl) (by kernel_rfl) (by kernel_rfl) (fun _ _ _ h => h) (Or.inl ⟨by kernel_rfl, ?hd19⟩) ?rd19
            case hd19 => (intro w; go_simp; first | done | (with_reducible rfl))
            refine wpAny_take (i := 17) (v := ?vd20) rfl (by kernel_rfl) (by kernel_rfl) (by kernel_rfl) (fun _ _ _ h => h) (Or.inl ⟨by kernel_rfl, ?hd20⟩) ?rd20
            case hd20 => (intro w; go_simp; first | done | (with_reducible rfl))
            refine wpAny_ready (rs := [15]) (by kernel_rfl) (by simp) ?_
            refine AllReady.cons rfl (fun K hK => ?_) AllReady.nil
            go_simp
            refine hK _ _ ?_
            clear hK K
            refine wpAny_ready (rs := [18]) (by kernel_rfl) (by simp) ?_
            refine AllReady.cons rfl (fun K hK => ?_) AllReady.nil
            go_simp
            go_at_call 34
            rw [HWA.out]
            refine (HND.out _ w3 _ _ ((HRP.out.under hb2).under hb3)).mono ?_
            rintro e w4 ⟨rfl, hb4⟩
            refine hK _ _ ?_
            clear hK K
            refine wpAny_take (i := 19) (v := ?vd21) rfl (by kernel_rfl) (by kernel_rfl) (by kernel_rfl) (fun _ _ _ h => h) (Or.inl ⟨by kernel_rfl, ?hd21⟩) ?rd21
            case hd21 => (intro w; go_simp; first | done | (with_reducible rfl))
            refine wpAny_take (i := 20) (v := ?vd22) rfl (by kernel_rfl) (by kernel_rfl) (by kernel_rfl) (fun _ _ _ h => h) (Or.inl ⟨by kernel_rfl, ?hd22⟩) ?rd22
            case hd22 => (intro w; go_simp; first | done | (with_reducible rfl))
            refine wpAny_done (by kernel_rfl) ?_ _
            try go_simp
            have HBE := Lib.hid (Hbel.out.trans ((HBW.out.trans ((hb2.trans (hb3.mono hb2.size)).trans (hb4.mono (Nat.le_trans hb2.size hb3.size)) |>.mono HBW.out.size)).mono Hbel.out.size))
            go_wp2
            go_ret
            exact ⟨by rw [HFIN.out]; rfl, HBE.out⟩
          | true =>
            have HNX := Lib.hid (show K.keysF ok (l.take (k + 1)) (l.drop (k + 1)) = R by rw [← HST.out, HB1.out, HFD.out, HB2.out]; simp)
            refine wp_region_any (by kernel_rfl) ?_
            refine wpAny_take (i := 0) (v := ?vc1) rfl (by kernel_rfl) (by kernel_rfl) (by kernel_rfl) (fun _ _ _ h => h) (Or.inl ⟨by kernel_rfl, ?hc1⟩) ?rc1
            case hc1 => (intro w; go_simp; first | done | (with_reducible rfl))
            refine wpAny_ready (rs := [1]) (by kernel_rfl) (by simp) ?_
            refine AllReady.cons rfl (fun K hK => ?_) AllReady.nil
            go_simp
            refine hK _ _ ?_
            clear hK K
            refine wpAny_ready (rs := [2]) (by kernel_rfl) (by simp) ?_
            refine AllReady.cons rfl (fun K hK => ?_) AllReady.nil
            go_simp
            go_at_call 55
            refine (HKY.out).mono ?_
            rintro e w2 ⟨rfl, hb2⟩
            obtain ⟨k0, k1, k2, k3, k4⟩ := HAT.out.keep (hb2.block _ HLT.out)
            simp only [Nat.zero_add] at k0 k1 k2 k3 k4
            have hl2 : wr.heap.size < w2.heap.size := Nat.lt_of_lt_of_le HLT.out hb2.size
            refine hK _ _ ?_
            clear hK K
            refine wpAny_take (i := 3) (v := ?vc2) rfl (by kernel_rfl) (by kernel_rfl) (by kernel_rfl) (fun _ _ _ h => h) (Or.inl ⟨by kernel_rfl, ?hc2⟩) ?rc2
            case hc2 => (intro w; go_simp; first | done | (with_reducible rfl))
            refine wpAny_take (i := 4) (v := ?vc3) rfl (by kernel_rfl) (by kernel_rfl) (by kernel_rfl) (fun _ _ _ h => h) (Or.inl ⟨by kernel_rfl, ?hc3⟩) ?rc3
            case hc3 => (intro w; go_simp; first | done | (with_reducible rfl))
            refine wpAny_take (i := 5) (v := ?vc4) rfl (by kernel_rfl) (by kernel_rfl) (by kernel_rfl) (fun _ _ _ h => h) (Or.inl ⟨by kernel_rfl, ?hc4⟩) ?rc4
            case hc4 => (intro w; go_simp; first | done | (with_reducible rfl))
            refine wpAny_take (i := 6) (v := ?vc5) rfl (by kernel_rfl) (by kernel_rfl) (by kernel_rfl) (fun _ _ _ h => h) (Or.inl ⟨by kernel_rfl, ?hc5⟩) ?rc5
            case hc5 => (intro w; go_simp; first | done | (with_reducible rfl))
            refine wpAny_take (i := 8) (v := ?vc6) rfl (by kernel_rfl) (by kernel_rfl) (by kernel_rfl) (fun _ _ _ h => h) (Or.inl ⟨by kernel_rfl, ?hc6⟩) ?rc6
            case hc6 => (intro w; go_simp; first | done | (with_reducible rfl))
            refine wpAny_ready (rs := [7, 9]) (by kernel_rfl) (by simp) ?_
            refine AllReady.cons rfl (fun K hK => ?_) ?_
            · skip
              go_simp
              refine hK _ _ ?_
              clear hK K
              refine wpAny_ready (rs := [9]) (by kernel_rfl) (by simp) ?_
              refine AllReady.cons rfl (fun K hK => ?_) AllReady.nil
              go_simp
              refine hK _ _ ?_
              clear hK K
              refine wpAny_ready (rs := [10]) (by kernel_rfl) (by simp) ?_
              refine AllReady.cons rfl (fun K hK => ?_) AllReady.nil
              go_simp
              go_at_call 35
              refine (find_any w2 _ (l.take k) y.1 ((HQ.out.under hb2).take k (by have := Hn.out; omega))).mono ?_
              rw [HFD.out]
              rintro e w3 ⟨rfl, hb3⟩
              simp only [atI]
              obtain ⟨m0, m1, m2, m3, m4⟩ := HAT.out.keep ((hb3.block _ hl2).trans (hb2.block _ HLT.out))
              simp only [Nat.zero_add] at m0 m1 m2 m3 m4
              have hl3 : wr.heap.size < w3.heap.size := Nat.lt_of_lt_of_le hl2 hb3.size
              refine hK _ _ ?_
              clear hK K
              refine wpAny_take (i := 11) (v := ?vc7) rfl (by kernel_rfl) (by kernel_rfl) (by kernel_rfl) (fun _ _ _ h => h) (Or.inl ⟨by kernel_rfl, ?hc7⟩) ?rc7
              case hc7 => (intro w; go_simp; first | done | (with_reducible rfl))
              refine wpAny_take (i := 12) (v := ?vc8) rfl (by kernel_rfl) (by kernel_rfl) (by kernel_rfl) (fun _ _ _ h => h) (Or.inl ⟨by kernel_rfl, ?hc8⟩) ?rc8
              case hc8 => (intro w; go_simp; first | done | (with_reducible rfl))
              refine wpAny_take (i := 13) (v := ?vc9) rfl (by kernel_rfl) (by kernel_rfl) (by kernel_rfl) (fun _ _ _ h => h) (Or.inl ⟨by kernel_rfl, ?hc9⟩) ?rc9
              case hc9 => (intro w; go_simp; first | done | (with_reducible rfl))
              refine wpAny_take (i := 14) (v := ?vc10) rfl (by kernel_rfl) (by kernel_rfl) (by kernel_rfl) (fun _ _ _ h => h) (Or.inl ⟨by kernel_rfl, ?hc10⟩) ?rc10
              case hc10 => (intro w; go_simp; first | done | (with_reducible rfl))
              refine wpAny_take (i := 16) (v := ?vc11) rfl (by kernel_rfl) (by kernel_rfl) (by kernel_rfl) (fun _ _ _ h => h) (Or.inl ⟨by kernel_rfl, ?hc11⟩) ?rc11
              case hc11 => (intro w; go_simp; first | done | (with_reducible rfl))
              refine wpAny_take (i := 17) (v := ?vc12) rfl (by kernel_rfl) (by kernel_rfl) (by kernel_rfl) (fun _ _ _ h => h) (Or.inl ⟨by kernel_rfl, ?hc12⟩) ?rc12
              case hc12 => (intro w; go_simp; first | done | (with_reducible rfl))
              refine wpAny_ready (rs := [15]) (by kernel_rfl) (by simp) ?_
              refine AllReady.cons rfl (fun K hK => ?_) AllReady.nil
              go_simp
              refine hK _ _ ?_
              clear hK K
              refine wpAny_ready (rs := [18]) (by kernel_rfl) (by simp) ?_
              refine AllReady.cons rfl (fun K hK => ?_) AllReady.nil
              go_simp
              go_at_call 34
              rw [HWA.out]
              refine (HND.out _ w3 _ _ ((HRP.out.under hb2).under hb3)).mono ?_
              rintro e w4 ⟨rfl, hb4⟩
              refine hK _ _ ?_
              clear hK K
              refine wpAny_take (i := 19) (v := ?vc13) rfl (by kernel_rfl) (by kernel_rfl) (by kernel_rfl) (fun _ _ _ h => h) (Or.inl ⟨by kernel_rfl, ?hc13⟩) ?rc13
              case hc13 => (intro w; go_simp; first | done | (with_reducible rfl))
              refine wpAny_take (i := 20) (v := ?vc14) rfl (by kernel_rfl) (by kernel_rfl) (by kernel_rfl) (fun _ _ _ h => h) (Or.inl ⟨by kernel_rfl, ?hc14⟩) ?rc14
              case hc14 => (intro w; go_simp; first | done | (with_reducible rfl))
              refine wpAny_done (by kernel_rfl) ?_ _
              try go_simp
              have HBE := Lib.hid (Hbel.out.trans ((HBW.out.trans ((hb2.trans (hb3.mono hb2.size)).trans (hb4.mono (Nat.le_trans hb2.size hb3.size)) |>.mono HBW.out.size)).mono Hbel.out.size))
              go_wp2
              go_roundw
              case rel => exact ⟨k + 1, by go_num, by omega, HNX.out, HBE.out⟩
              case measure => simp [intOf]; omega
            refine AllReady.cons rfl (fun K hK => ?_) AllReady.nil
            go_simp
            refine hK _ _ ?_
            clear hK K
            refine wpAny_ready (rs := [7]) (by kernel_rfl) (by simp) ?_
            refine AllReady.cons rfl (fun K hK => ?_) AllReady.nil
            go_simp
            refine hK _ _ ?_
            clear hK K
            refine wpAny_ready (rs := [10]) (by kernel_rfl) (by simp) ?_
            refine AllReady.cons rfl (fun K hK => ?_) AllReady.nil
            go_simp
            go_at_call 35
            refine (find_any w2 _ (l.take k) y.1 ((HQ.out.under hb2).take k (by have := Hn.out; omega))).mono ?_
            rw [HFD.out]
            rintro e w3 ⟨rfl, hb3⟩
            simp only [atI]
            obtain ⟨m0, m1, m2, m3, m4⟩ := HAT.out.keep ((hb3.block _ hl2).trans (hb2.block _ HLT.out))
            simp only [Nat.zero_add] at m0 m1 m2 m3 m4
            have hl3 : wr.heap.size < w3.heap.size := Nat.lt_of_lt_of_le hl2 hb3.size
            refine hK _ _ ?_
            clear hK K
            refine wpAny_take (i := 11) (v := ?vc15) rfl (by kernel_rfl) (by kernel_rfl) (by kernel_rfl) (fun _ _ _ h => h) (Or.inl ⟨by kernel_rfl, ?hc15⟩) ?rc15
            case hc15 => (intro w; go_simp; first | done | (with_reducible rfl))
            refine wpAny_take (i := 12) (v := ?vc16) rfl (by kernel_rfl) (by kernel_rfl) (by kernel_rfl) (fun _ _ _ h => h) (Or.inl ⟨by kernel_rfl, ?hc16⟩) ?rc16
            case hc16 => (intro w; go_simp; first | done | (with_reducible rfl))
            refine wpAny_take (i := 13) (v := ?vc17) rfl (by kernel_rfl) (by kernel_rfl) (by kernel_rfl) (fun _ _ _ h => h) (Or.inl ⟨by kernel_rfl, ?hc17⟩) ?rc17
            case hc17 => (intro w; go_simp; first | done | (with_reducible rfl))
            refine wpAny_take (i := 14) (v := ?vc18) rfl (by kernel_rfl) (by kernel_rfl) (by kernel_rfl) (fun _ _ _ h => h) (Or.inl ⟨by kernel_rfl, ?hc18⟩) ?rc18
            case hc18 => (intro w; go_simp; first | done | (with_reducible rfl))
            refine wpAny_take (i := 16) (v := ?vc19) rfl (by kernel_rfl) (by kernel_rfl) (by kernel_rfl) (fun _ _ _ h => h) (Or.inl ⟨by kernel_rfl, ?hc19⟩) ?rc19
            case hc19 => (intro w; go_simp; first | done | (with_reducible rfl))
            refine wpAny_take (i := 17) (v := ?vc20) rfl (by kernel_rfl) (by kernel_rfl) (by kernel_rfl) (fun _ _ _ h => h) (Or.inl ⟨by kernel_rfl, ?hc20⟩) ?rc20
            case hc20 => (intro w; go_simp; first | done | (with_reducible rfl))
            refine wpAny_ready (rs := [15]) (by kernel_rfl) (by simp) ?_
            refine AllReady.cons rfl (fun K hK => ?_) AllReady.nil
            go_simp
            refine hK _ _ ?_
            clear hK K
            refine wpAny_ready (rs := [18]) (by kernel_rfl) (by simp) ?_
            refine AllReady.cons rfl (fun K hK => ?_) AllReady.nil
            go_simp
            go_at_call 34
            rw [HWA.out]
            refine (HND.out _ w3 _ _ ((HRP.out.under hb2).under hb3)).mono ?_
            rintro e w4 ⟨rfl, hb4⟩
            refine hK _ _ ?_
            clear hK K
            refine wpAny_take (i := 19) (v := ?vc21) rfl (by kernel_rfl) (by kernel_rfl) (by kernel_rfl) (fun _ _ _ h => h) (Or.inl ⟨by kernel_rfl, ?hc21⟩) ?rc21
            case hc21 => (intro w; go_simp; first | done | (with_reducible rfl))
            refine wpAny_take (i := 20) (v := ?vc22) rfl (by kernel_rfl) (by kernel_rfl) (by kernel_rfl) (fun _ _ _ h => h) (Or.inl ⟨by kernel_rfl, ?hc22⟩) ?rc22
            case hc22 => (intro w; go_simp; first | done | (with_reducible rfl))
            refine wpAny_done (by kernel_rfl) ?_ _
            try go_simp
            have HBE := Lib.hid (Hbel.out.trans ((HBW.out.trans ((hb2.trans (hb3.mono hb2.size)).trans (hb4.mono (Nat.le_trans hb2.size hb3.size)) |>.mono HBW.out.size)).mono Hbel.out.size))
            go_wp2
            go_roundw
            case rel => exact ⟨k + 1, by go_num, by omega, HNX.out, HBE.out⟩
            case measure => simp [intOf]; omega
    · have hkn : ¬ (k : Int) < (n : Int) := by omega
      have HFIN := Lib.hid (show R = true by rw [← Hall.out, List.drop_of_length_le (by have := Hn.out; omega)]; rfl)
      clear hlt
      go_wp2
      go_ret
      exact ⟨by rw [HFIN.out]; rfl, Hbel.out⟩
theorem nodeF_eq (f a : Nat) (x : Nd) : K.nodeF (f + 1) a x = if x.k = 0 then x.s.isEmpty && x.l.isEmpty && (decide (a ≤ 8) && decide (x.p.length ≤ 256) && K.keysF (fun y => K.nodeF f (a + 1) y) [] x.p)
    else if x.k = 1 then K.isText x.s && decide (x.l.length + x.p.length = 0)
    else if x.k = 2 then x.s.isEmpty && K.textsOk x.l && x.p.isEmpty
    else false := by cases x; rfl
theorem node_step (f a : Nat) (x : Nd) (ha : a ≤ 9) (ih : a ≤ 8 → ∀ y, NodeC y (a + 1) (K.nodeF f (a + 1) y)) : NodeC x a (K.nodeF (f + 1) a x) := by
  rw [nodeF_eq]
  by_cases h0 : x.k = 0
  · rw [if_pos h0]
    refine node_map x a _ h0 ?_
    by_cases hc : a ≤ 8 ∧ x.p.length ≤ 256
    · rw [decide_eq_true hc.1, decide_eq_true hc.2, Bool.true_and, Bool.true_and]
      exact keys_main x.p a hc.1 hc.2 _ (fun y _ => ih hc.1 y.2)
    · have : (decide (a ≤ 8) && decide (x.p.length ≤ 256) && K.keysF (fun y => K.nodeF f (a + 1) y) [] x.p) = false := by
        by_cases h8 : a ≤ 8
        · rw [decide_eq_false (fun h => hc ⟨h8, h⟩)]; simp
        · rw [decide_eq_false h8]; simp
      rw [this]
      exact keys_no x.p a (by omega) hc
  · rw [if_neg h0]
    by_cases h1 : x.k = 1
    · rw [if_pos h1]; exact node_text x a h1
    · rw [if_neg h1]
      by_cases h2 : x.k = 2
      · rw [if_pos h2]; exact node_list x a h2
      · rw [if_neg h2]; exact node_other x a h0 h1 h2
theorem node_sized : ∀ (f : Nat) (x : Nd) (a : Nat), a + f = 9 → NodeC x a (K.nodeF (f + 1) a x)
  | 0, x, a, hf => node_step 0 a x (by omega) (fun h => by omega)
  | f + 1, x, a, hf => node_step (f + 1) a x (by omega) (fun _ y => node_sized f y (a + 1) (by omega))
namespace K
def right (x : Nd) : Bool := decide (x.k = 0) && nodeF 10 0 x
end K
theorem ccheck_any {B : Nat → Prop} (w : World) (q1 q2 : Value) (x : Nd) (hr : Rep B w q1 q2 x) : Calls Tryz.prog 18 #[.agg (nv x q1 q2)] w fun e w' => e = .returned (.int .i64 (if K.right x = true then 0 else 15)) ∧ Below w.heap.size w w' := by
  have hnd := fun W (h : Below w.heap.size w W) => node_sized 9 x 0 rfl B W q1 q2 (hr.under h)
  unfold K.right
  obtain ⟨ad1, cap1, rfl, hl1⟩ := hr.parts.2.1.form
  obtain ⟨ad2, cap2, rfl, hl2⟩ := hr.parts.2.2.form
  obtain ⟨c0, c1, c2, c3⟩ := At4.box (blk_new w (.cells (nv x (.slice ad1 x.l.length cap1) (.slice ad2 x.p.length cap2)) 32))
  simp only [Nat.zero_add] at c0 c1 c2 c3
  obtain ⟨W, hW⟩ : ∃ W, W = w.alloc (.cells (nv x (.slice ad1 x.l.length cap1) (.slice ad2 x.p.length cap2)) 32) := ⟨_, rfl⟩
  have hB : Below w.heap.size w W := by rw [hW]; exact (Below.refl _ w).alloc (Nat.le_refl _) _
  rw [← hW] at c0 c1 c2 c3
  have hn := hnd W hB
  obtain ⟨b, hb⟩ : ∃ b, K.nodeF (9 + 1) 0 x = b := ⟨_, rfl⟩
  rw [hb] at hn
  rw [show K.nodeF 10 0 x = b from hb]
  have HN := Lib.hid hn
  have HB := Lib.hid hB
  have HW := Lib.hid hW
  have hcl : ∀ {e : Ending} {w1 : World}, (e = .returned (.bool b) ∧ Below W.heap.size W w1) → e = .returned (.bool b) ∧ Below w.heap.size w w1 := fun h => ⟨h.1, HB.out.trans (h.2.mono HB.out.size)⟩
  clear hnd hn hb hW hB hr
  by_cases h0 : x.k = 0
  · have hv : Value.agg (nv x (.slice ad1 x.l.length cap1) (.slice ad2 x.p.length cap2)) = .agg #[.int .u8 (x.k : Int), S x.s, .slice ad1 x.l.length cap1, .slice ad2 x.p.length cap2] := rfl
    rw [decide_eq_true h0, Bool.true_and]
    rw [h0] at c0
    obtain ⟨k, hk⟩ : ∃ k, x.k = k := ⟨_, rfl⟩
    have HN' : Calls Tryz.prog 34 #[.agg #[.int .u8 0, S x.s, .slice ad1 x.l.length cap1, .slice ad2 x.p.length cap2], .int .i64 0] W fun e w' => e = .returned (.bool b) ∧ Below W.heap.size W w' := by
      have := HN.out
      unfold nv at this
      rw [h0] at this
      exact this
    have HN2 := Lib.hid HN'
    clear HN' hv h0 hk hcl HN
    cases b with
    | false =>
      go_enter Tryz.func18, Tryz.ntmps18
      go_upto_region 1 with (fail)
      rw [← HW.out]
      go_wp2_with (go_at_call 34; refine (HN2.out).mono ?_; rintro e w1 ⟨rfl, hb1⟩)
      go_ret
      exact ⟨rfl, HB.out.trans (hb1.mono HB.out.size)⟩
    | true =>
      go_enter Tryz.func18, Tryz.ntmps18
      go_upto_region 1 with (fail)
      rw [← HW.out]
      go_wp2_with (go_at_call 34; refine (HN2.out).mono ?_; rintro e w1 ⟨rfl, hb1⟩)
      go_ret
      exact ⟨rfl, HB.out.trans (hb1.mono HB.out.size)⟩
  · rw [decide_eq_false h0, Bool.false_and]
    have e0 : ((x.k : Int) == 0) = false := by simp; omega
    have e1 : ((x.k : Int) != 0) = true := by simp; omega
    clear h0 hcl HN
    go_enter Tryz.func18, Tryz.ntmps18
    go_upto_region 1 with (fail)
    rw [← HW.out]
    go_wp2
    go_ret
    exact ⟨rfl, HB.out⟩
end Go.Proofs.YtegobomfhdfodaaGreatDoor
