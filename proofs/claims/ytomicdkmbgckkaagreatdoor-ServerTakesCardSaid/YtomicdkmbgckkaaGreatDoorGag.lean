/- HTTP: THE WALKS OVER head, alike, named. -/
import Derived.Test.YtomicdkmbgckkaaGreatDoorGaf
import Derived.Handy
namespace Go.Proofs.YtomicdkmbgckkaaGreatDoor
open Go.RowKit
set_option linter.unusedVariables false
set_option linter.unusedSimpArgs false
set_option maxRecDepth 100000

theorem trimS_len (s cs : H.T) : (Lib.trimS s cs).length ≤ s.length := by
  have hd : ∀ (p : UInt8 → Bool) (l : H.T), (l.dropWhile p).length ≤ l.length := fun p l => by
    induction l with
    | nil => simp
    | cons b t ih =>
      rw [List.dropWhile_cons]
      split
      · simp only [List.length_cons]; omega
      · exact Nat.le_refl _
  unfold Lib.trimS Lib.trimLeftS Lib.trimRightS
  refine Nat.le_trans (hd _ _) ?_
  rw [List.length_reverse]
  refine Nat.le_trans (hd _ _) ?_
  rw [List.length_reverse]
  exact Nat.le_refl _
theorem cell_put2 {w : World} {g : Nat} {x0 x1 : Value} {t : TypeId} (h : w.heap[g]? = some (.cells #[x0, x1] t (0, 0))) (v0 v1 : Value) :
    ((w.setCell ⟨g, 0, none⟩ v0).setCell ⟨g, 1, none⟩ v1).cell? ⟨g, 0, none⟩ = some v0 ∧ ((w.setCell ⟨g, 0, none⟩ v0).setCell ⟨g, 1, none⟩ v1).cell? ⟨g, 1, none⟩ = some v1 :=
  box2 (heap_setCell_same _ g 1 _ t _ (heap_setCell_same w g 0 _ t _ h))
set_option maxHeartbeats 2000000 in
theorem head_any (w : World) (t : H.T) (ht : t.length ≤ 1000000) (hT : Tabs w) :
    Calls Tryz.prog 36 #[S t] w fun e w' => Below w.heap.size w w' ∧ match H.head t with
      | .ok h => e = .returned (.agg #[S h.name, S h.value])
      | .error c => e = pan c := by
  unfold H.head
  obtain ⟨a, ha⟩ : ∃ a, Lib.cut t [58] = a := ⟨_, rfl⟩
  obtain ⟨a1, a2, a3⟩ := a
  have hal := cut_len t [58]
  rw [ha] at hal ⊢
  simp only at hal ⊢
  obtain ⟨v, hv⟩ : ∃ v, Lib.trimS a2 [32, 9] = v := ⟨_, rfl⟩
  have hvl := trimS_len a2 [32, 9]
  rw [hv] at hvl ⊢
  have hcA : ∀ w, (∃ m, w.cell? ⟨0, 0, none⟩ = some (.int .i64 m)) → Calls Tryz.prog 30 #[S t, .string ⟨#[58]⟩] w fun e w' => e = .returned (.tuple #[S a1, S a2, .bool a3]) ∧ ∃ n, w' = w.drewN n := fun w hm => by
    have := cut_any w t 58 (by omega) hm; rw [ha] at this; exact this
  have htr : ∀ w, Calls Tryz.prog 59 #[S a2, .string ⟨#[32, 9]⟩] w fun e w' => e = .returned (S v) ∧ Below w.heap.size w w' := fun w => by
    have := trim_any w a2 (by omega); rw [hv] at this; exact this
  have hi1 := fun w => isOf_any w a1 33 H.tok (fun args w => by kernel_rfl) rune_tok H.tok_hi
  have hi2 := fun w => value_any w v (by omega)
  obtain ⟨X, hX⟩ : ∃ X, X = w.alloc (.cells #[S [], S []] 77) := ⟨_, rfl⟩
  have hx : X.heap[w.heap.size]? = some (.cells #[S [], S []] 77 (0, 0)) := by rw [hX]; exact blk_new w _
  have hbX : Below w.heap.size w X := by rw [hX]; exact (Below.refl _ w).alloc (Nat.le_refl _) _
  have HT := Lib.hid (hT.under hbX)
  have Hx := Lib.hid hx
  have HbX := Lib.hid hbX
  clear ha hv hal hvl hT hx hbX
  cases a3 with
  | false =>
    simp only [Bool.false_and, Bool.false_eq_true, if_false]
    go_enter Tryz.func36, Tryz.ntmps36
    go_upto_region 1 with (fail)
    rw [← hX]
    clear hX
    go_wp2_with fail
    refine (hcA X HT.out.m).mono ?_
    rintro e w1 ⟨rfl, n1, rfl⟩
    have Hx1 := Lib.hid (blk_under Hx.out (below_drewN' X n1))
    have Hb1 := Lib.hid (HbX.out.trans ((below_drewN' X n1).mono HbX.out.size))
    clear Hx HbX HT
    go_wp2_with fail
    refine (htr _).mono ?_
    rintro e w2 ⟨rfl, hb⟩
    have Hx2 := Lib.hid (blk_under Hx1.out hb)
    have Hb2 := Lib.hid (Hb1.out.trans (hb.mono Hb1.out.size))
    clear hb Hx1 Hb1 hcA htr
    go_wp2_with (go_at_call 29; with_reducible refine (unless_no _ _).mono ?_; rintro e w' ⟨rfl, rfl⟩)
    exact ⟨rfl, Hb2.out, rfl⟩
  | true =>
    cases h1 : H.isOf a1 H.tok with
    | false =>
      rw [h1] at hi1
      simp only [Bool.false_and, Bool.and_false, Bool.false_eq_true, if_false]
      go_enter Tryz.func36, Tryz.ntmps36
      go_upto_region 1 with (fail)
      rw [← hX]
      clear hX
      go_wp2_with fail
      refine (hcA X HT.out.m).mono ?_
      rintro e w1 ⟨rfl, n1, rfl⟩
      have Hx1 := Lib.hid (blk_under Hx.out (below_drewN' X n1))
      have Hb1 := Lib.hid (HbX.out.trans ((below_drewN' X n1).mono HbX.out.size))
      clear Hx HbX HT
      go_wp2_with fail
      refine (htr _).mono ?_
      rintro e w2 ⟨rfl, hb⟩
      have Hx2 := Lib.hid (blk_under Hx1.out hb)
      have Hb2 := Lib.hid (Hb1.out.trans (hb.mono Hb1.out.size))
      clear hb Hx1 Hb1 hcA htr
      go_wp2_with (first | (go_at_call 32; with_reducible refine (hi1 _).mono ?_; rintro e w4 ⟨rfl, hb4⟩) | (go_at_call 29; with_reducible refine (unless_no _ _).mono ?_; rintro e w' ⟨rfl, rfl⟩))
      exact ⟨rfl, Hb2.out.trans (hb4.mono Hb2.out.size), rfl⟩
    | true =>
      rw [h1] at hi1
      cases h2 : H.isValue v with
      | false =>
        rw [h2] at hi2
        simp only [Bool.false_and, Bool.and_false, Bool.false_eq_true, if_false]
        go_enter Tryz.func36, Tryz.ntmps36
        go_upto_region 1 with (fail)
        rw [← hX]
        clear hX
        go_wp2_with fail
        refine (hcA X HT.out.m).mono ?_
        rintro e w1 ⟨rfl, n1, rfl⟩
        have Hx1 := Lib.hid (blk_under Hx.out (below_drewN' X n1))
        have Hb1 := Lib.hid (HbX.out.trans ((below_drewN' X n1).mono HbX.out.size))
        clear Hx HbX HT
        go_wp2_with fail
        refine (htr _).mono ?_
        rintro e w2 ⟨rfl, hb⟩
        have Hx2 := Lib.hid (blk_under Hx1.out hb)
        have Hb2 := Lib.hid (Hb1.out.trans (hb.mono Hb1.out.size))
        clear hb Hx1 Hb1 hcA htr
        go_wp2_with (first | (go_at_call 32; with_reducible refine (hi1 _).mono ?_; rintro e w4 ⟨rfl, hb4⟩) | (go_at_call 60; with_reducible refine (hi2 _).mono ?_; rintro e w5 ⟨rfl, hb5⟩) | (go_at_call 29; with_reducible refine (unless_no _ _).mono ?_; rintro e w' ⟨rfl, rfl⟩))
        have hq := Hb2.out.trans (hb4.mono Hb2.out.size)
        exact ⟨rfl, hq.trans (hb5.mono hq.size), rfl⟩
      | true =>
        rw [h2] at hi2
        simp only [Bool.true_and, if_true]
        go_enter Tryz.func36, Tryz.ntmps36
        go_upto_region 1 with (fail)
        rw [← hX]
        clear hX
        go_wp2_with fail
        refine (hcA X HT.out.m).mono ?_
        rintro e w1 ⟨rfl, n1, rfl⟩
        have Hx1 := Lib.hid (blk_under Hx.out (below_drewN' X n1))
        have Hb1 := Lib.hid (HbX.out.trans ((below_drewN' X n1).mono HbX.out.size))
        clear Hx HbX HT
        go_wp2_with fail
        refine (htr _).mono ?_
        rintro e w2 ⟨rfl, hb⟩
        have Hx2 := Lib.hid (blk_under Hx1.out hb)
        have Hb2 := Lib.hid (Hb1.out.trans (hb.mono Hb1.out.size))
        clear hb Hx1 Hb1 hcA htr
        go_wp2_with (first | (go_at_call 32; with_reducible refine (hi1 _).mono ?_; rintro e w4 ⟨rfl, hb4⟩) | (go_at_call 60; with_reducible refine (hi2 _).mono ?_; rintro e w5 ⟨rfl, hb5⟩))
        have hq := Hb2.out.trans (hb4.mono Hb2.out.size)
        have hq5 := hq.trans (hb5.mono hq.size)
        have hx5 := blk_under (blk_under Hx2.out hb4) hb5
        have Hq := Lib.hid hq5
        have Hx5 := Lib.hid hx5
        clear hq hq5 Hb2 Hx2 hb4 hb5
        refine (unless_yes _ _).mono ?_
        rintro e w6 ⟨rfl, rfl⟩
        obtain ⟨c0, c1⟩ := box2 Hx5.out
        obtain ⟨f0, f1⟩ := frz2 Hx5.out
        have hlt := blk_lt Hx5.out
        clear hx5
        obtain ⟨V, hV⟩ : ∃ V, V = ((w6.setCell ⟨w.heap.size, 0, none⟩ (S a1)).setCell ⟨w.heap.size, 1, none⟩ (S v)) := ⟨_, rfl⟩
        have hbe : Below w.heap.size w V := by rw [hV]; exact (Hq.out.setCell (p := ⟨w.heap.size, 0, none⟩) (Nat.le_refl _) _).setCell (p := ⟨w.heap.size, 1, none⟩) (Nat.le_refl _) _
        obtain ⟨k1, k2⟩ := cell_put2 Hx5.out (S a1) (S v)
        rw [← hV] at k1 k2
        go_wp2
        rw [← hV]
        clear hV
        refine bodyPost_ret (by simp [results, Tryz.results36, go_sem, k1, k2]; try rfl) rfl ?_
        exact ⟨hbe, rfl⟩
end Go.Proofs.YtomicdkmbgckkaaGreatDoor

/- HTTP: THE WALKS OVER alike, named. -/
namespace Go.Proofs.YtomicdkmbgckkaaGreatDoor
open Go.RowKit
set_option linter.unusedVariables false
set_option linter.unusedSimpArgs false
set_option maxRecDepth 100000

theorem H.alike_len : ∀ a b : H.T, H.alike a b = true → a.length = b.length
  | [], [], _ => rfl
  | [], _ :: _, h => by simp [H.alike] at h
  | _ :: _, [], h => by simp [H.alike] at h
  | a :: s, b :: t, h => by
    simp only [H.alike, Bool.and_eq_true] at h
    simp [H.alike_len s t h.2]
theorem H.alike_at (a b : H.T) (j : Nat) (ha : j < a.length) (hb : j < b.length) : H.alike (a.drop j) (b.drop j) = (H.small a[j].toNat == H.small b[j].toNat && H.alike (a.drop (j + 1)) (b.drop (j + 1))) := by
  rw [List.drop_eq_getElem_cons ha, List.drop_eq_getElem_cons hb]
  rfl
set_option maxHeartbeats 1000000 in
theorem alike_any (w : World) (a b : H.T) (ha : a.length ≤ 281474976710656) : Calls Tryz.prog 37 #[S a, S b] w fun e w' => e = .returned (.bool (H.alike a b)) ∧ ∃ n, w' = w.drewN n := by
  by_cases hl : a.length = b.length
  · obtain ⟨z, hz⟩ : ∃ z : Int, ((a.length : Nat) : Int) = z := ⟨_, rfl⟩
    have hzb : ((b.length : Nat) : Int) = z := by omega
    have hzz : (z == z) = true := by simp
    go_enter Tryz.func37, Tryz.ntmps37
    go_wp2
    go_loopw [13] (fun u wr => ∃ (j n : Nat), u = .int .i64 (j : Int) ∧ j ≤ a.length ∧ H.alike (a.drop j) (b.drop j) = H.alike a b ∧ wr = w.drewN n) (fun u _ => a.length - (intOf u).toNat)
    case atStart => exact ⟨0, 0, rfl, Nat.zero_le _, by simp, rfl⟩
    case round =>
      obtain ⟨j, n, rfl, hj, hr, rfl⟩ := hrel
      by_cases hlt : j < a.length
      · have hjz : (j : Int) < z := by omega
        have hbl : j < b.length := by omega
        rw [H.alike_at a b j hlt hbl] at hr
        obtain ⟨x, hx⟩ : ∃ x : Nat, a[j].toNat = x := ⟨_, rfl⟩
        obtain ⟨y, hy⟩ : ∃ y : Nat, b[j].toNat = y := ⟨_, rfl⟩
        have hx1 : x < 256 := by rw [← hx]; exact a[j].toNat_lt
        have hy1 : y < 256 := by rw [← hy]; exact b[j].toNat_lt
        have i1 := fun W => index_str a j hlt (x : Int) (by rw [hx]) W
        have i2 := fun W => index_str b j hbl (y : Int) (by rw [hy]) W
        have s1 := fun W => small_any W x (by omega)
        have s2 := fun W => small_any W y (by omega)
        have hwx : IntKind.i32.wrap (x : Int) = (x : Int) := by rw [IntKind.wrap_i32]; omega
        have hwy : IntKind.i32.wrap (y : Int) = (y : Int) := by rw [IntKind.wrap_i32]; omega
        rw [hx, hy] at hr
        obtain ⟨sx, hsx⟩ : ∃ sx : Nat, H.small x = sx := ⟨_, rfl⟩
        obtain ⟨sy, hsy⟩ : ∃ sy : Nat, H.small y = sy := ⟨_, rfl⟩
        rw [hsx] at s1 hr
        rw [hsy] at s2 hr
        have Hr := Lib.hid hr
        clear hr hx hy hsx hsy
        by_cases hxy : sx = sy
        · subst hxy
          go_wp2
          go_quiet ((first | (with_reducible refine (s1 _).mono ?_; exact fun e w'' h => ⟨h.1, _, h.2⟩) | (with_reducible refine (s2 _).mono ?_; exact fun e w'' h => ⟨h.1, _, h.2⟩)))
          go_wp2
          go_roundw
          case rel => exact ⟨j + 1, _, by go_num, by omega, by have := Hr.out; simpa using this, rfl⟩
          case measure => simp [intOf]; omega
        · have hxy' : ¬ (sx : Int) = (sy : Int) := by omega
          go_wp2
          go_quiet ((first | (with_reducible refine (s1 _).mono ?_; exact fun e w'' h => ⟨h.1, _, h.2⟩) | (with_reducible refine (s2 _).mono ?_; exact fun e w'' h => ⟨h.1, _, h.2⟩)))
          go_wp2
          go_ret
          exact ⟨by rw [← Hr.out]; simp [hxy], n + nq, World.drewN_drewN _ _ _⟩
      · have hjz : ¬ (j : Int) < z := by omega
        have hv : H.alike a b = true := by
          rw [← hr, List.drop_of_length_le (by omega), List.drop_of_length_le (by omega)]; rfl
        rw [hv]
        clear hr
        go_wp2
        go_ret
        exact ⟨rfl, _, rfl⟩
  · have hv : H.alike a b = false := by
      cases h : H.alike a b with
      | false => rfl
      | true => exact absurd (H.alike_len a b h) hl
    rw [hv]
    obtain ⟨z, hz⟩ : ∃ z : Int, ((a.length : Nat) : Int) = z := ⟨_, rfl⟩
    obtain ⟨y, hy⟩ : ∃ y : Int, ((b.length : Nat) : Int) = y := ⟨_, rfl⟩
    have hzy : ¬ z = y := by omega
    go_enter Tryz.func37, Tryz.ntmps37
    go_wp2
    go_ret
    exact ⟨rfl, 0, rfl⟩
/-- named(name): a test of heads -/
theorem named_any (w : World) (s : H.T) : Calls Tryz.prog 35 #[S s] w fun e w' => e = .returned (.func (.func 58) #[] #[.pointer (some ⟨w.heap.size, 0, none⟩)]) ∧ w' = w.alloc (.cells #[S s] 9) := by
  go_enter Tryz.func35, Tryz.ntmps35
  go_wp2
  go_ret
  exact ⟨rfl, rfl⟩
theorem test_any (w : World) (n v s : H.T) (g : Nat) (hg : w.heap[g]? = some (.cells #[S s] 9 (0, 0))) (hn : n.length ≤ 281474976710656) :
    Calls Tryz.prog 58 #[.agg #[S n, S v], .pointer (some ⟨g, 0, none⟩)] w fun e w' => e = .returned (.bool (H.alike n s)) ∧ Below w.heap.size w w' := by
  obtain ⟨X, hX⟩ : ∃ X, X = w.alloc (.cells #[S n, S v] 77) := ⟨_, rfl⟩
  have hx : X.heap[w.heap.size]? = some (.cells #[S n, S v] 77 (0, 0)) := by rw [hX]; exact blk_new w _
  have hb : Below w.heap.size w X := by rw [hX]; exact (Below.refl _ w).alloc (Nat.le_refl _) _
  have hg2 := cell_of_row X g 0 _ 9 (0, 0) (blk_under hg hb)
  obtain ⟨c0, c1⟩ := box2 hx
  have hlt := blk_lt hx
  have hlg := blk_lt (blk_under hg hb)
  have ha := alike_any X n s hn
  go_enter Tryz.func58, Tryz.ntmps58
  go_upto_region 1 with (fail)
  rw [← hX]
  clear hX hx hg
  go_wp2_with (refine ha.mono ?_; rintro e w' ⟨rfl, m, rfl⟩)
  go_ret
  exact ⟨rfl, hb.trans ((below_drewN' X m).mono hb.size)⟩
end Go.Proofs.YtomicdkmbgckkaaGreatDoor
