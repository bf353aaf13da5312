/- RETRY: THE WALK OVER RetryEnds. -/
import Derived.Test.YtclhclaeccoljaaRf
namespace Go.Proofs.Ytclhclaeccoljaa
open Go.RowKit
set_option linter.unusedVariables false
set_option linter.unusedSimpArgs false


set_option maxHeartbeats 4000000 in
set_option maxRecDepth 100000 in
theorem ends_any (w : World) (f m t s : Int) (hf : U64 f) (hm : U64 m) (ht : U64 t) (hs : U64 s) :
    Calls Try.prog 5 #[.agg (rcells f m t), .int .u64 s] w fun e w' => e = .returned (.bool true) ∧ Below w.heap.size w w' := by
  obtain ⟨hs0, hs1⟩ := hs
  obtain ⟨hf0, hf1⟩ := hf
  obtain ⟨ht0, ht1⟩ := ht
  have HB := Lib.hid (Below.refl w.heap.size w)
  go_enter Try.func5, Try.ntmps5
  obtain ⟨W0, hW0⟩ : ∃ W, W = w.alloc (.cells (rcells f m t) 24) := ⟨_, rfl⟩
  have hbW0 : Below w.heap.size w W0 := by rw [hW0]; exact (Below.refl _ w).alloc (Nat.le_refl _) _
  replace HB := Lib.hid (HB.out.trans (hbW0.mono HB.out.size))
  have HR := Lib.hid (show Blk W0 w.heap.size (rcells f m t) 24 from by rw [hW0]; exact blk_new w _)
  clear hbW0
  go_upto_region 1 with (fail)
  rw [← hW0]
  clear hW0
  go_wp2_with fail
  refine (lives_any W0).mono ?_
  rintro e w1 ⟨rfl, hb⟩
  replace HR := Lib.hid (HR.out.under hb)
  replace HB := Lib.hid (HB.out.trans (hb.mono HB.out.size))
  clear hb
  by_cases hbig : 1152921504606846976 < s
  · go_wp2
    go_ret
    exact ⟨rfl, HB.out⟩
  obtain ⟨X, hX⟩ : ∃ X, X = w1.alloc (.cells (tcells 0 s 0) 26) := ⟨_, rfl⟩
  have hbX : Below w1.heap.size w1 X := by rw [hX]; exact (Below.refl _ w1).alloc (Nat.le_refl _) _
  have hxX : X.heap[w1.heap.size]? = some (.cells (tcells 0 s 0) 26 (0, 0)) := by rw [hX]; exact blk_new w1 _
  have HlR := Lib.hid HR.out.lt
  have HBX := Lib.hid hbX
  have HxX := Lib.hid hxX
  clear hbX hxX
  go_upto_region 6 with (fail)
  rw [← hX]
  clear hX
  go_wp2
  go_loopw [6, 7] (fun a i wr => ∃ (j : Nat) (now nx : Int), i = .int .i64 (j : Int) ∧ j ≤ 2000 ∧ a = .int .u64 now ∧ s ≤ now ∧ now ≤ 2314850208468434944 ∧ (0 < j → RR f m t) ∧ f * (j : Int) ≤ now - s ∧ (t ≠ 0 → now - s ≤ t ∨ j = 0) ∧ (j = 0 → now = s) ∧ U64 nx ∧ Blk wr w1.heap.size (tcells (j : Int) s nx) 26 ∧ Below w1.heap.size w1 wr) (fun a i _ => 2000 - (intOf i).toNat)
  case atStart => exact ⟨0, s, 0, rfl, by omega, rfl, by omega, by omega, fun h => absurd h (by omega), by simp, fun _ => .inr rfl, fun _ => rfl, by unfold U64; omega, HxX.out, HBX.out⟩
  case round =>
    obtain ⟨j, now, nx, rfl, hj, rfl, hn1, hn2, hRR, hfj, htj, hj0, hnx, hblk, hbel⟩ := hrel
    have HBr := Lib.hid (HB.out.trans (hbel.mono HB.out.size))
    have HRr := Lib.hid (show Blk wr w.heap.size (rcells f m t) 24 from (hbel.block _ HlR.out).trans HR.out)
    have Hblk := Lib.hid hblk
    have Hbel := Lib.hid hbel
    have HRR := Lib.hid hRR
    have Hfj := Lib.hid hfj
    have Htj := Lib.hid htj
    have Hnx := Lib.hid hnx
    have Hj0 := Lib.hid hj0
    clear hRR hfj htj hnx hblk hbel hj0
    obtain ⟨c0, c1, c2⟩ := box3 HRr.out
    have hlc := HRr.out.lt
    obtain ⟨d0, d1, d2⟩ := box3 Hblk.out
    have hld := Hblk.out.lt
    by_cases hlt : j < 2000
    rotate_left
    · -- the rounds are over
      have e : j = 2000 := by omega
      subst e
      have hR := HRR.out (by omega)
      obtain ⟨r1, r2, r3, r4⟩ := hR
      by_cases ht : t = 0
      · subst ht
        go_wp2
        go_ret
        exact ⟨rfl, HBr.out⟩
      · have hq : 1000 < t / f := by
          have h1 := Hfj.out
          have h2 : now - s ≤ t := by rcases Htj.out ht with h | h <;> omega
          have h3 : (2000 : Int) ≤ t / f := by rw [Int.le_ediv_iff_mul_le (by omega)]; have : ((2000 : Nat) : Int) = 2000 := rfl; rw [this] at h1; rw [Int.mul_comm]; omega
          omega
        have hf00 : ¬ f = 0 := by omega
        go_wp2
        go_ret
        exact ⟨rfl, HBr.out⟩
    by_cases hclk : 2305843009213693952 < now
    · go_wp2
      go_ret
      exact ⟨rfl, HBr.out⟩
    go_wp2_with fail
    refine (Fail_any wr (j : Int) s nx f m t now (by unfold I64; omega) ⟨hs0, hs1⟩ Hnx.out ⟨hf0, hf1⟩ hm ⟨ht0, ht1⟩ (by unfold U64; omega)).mono ?_
    rintro e w2 ⟨rfl, hb2⟩
    replace HBr := Lib.hid (HBr.out.trans (hb2.mono HBr.out.size))
    replace HRr := Lib.hid (HRr.out.under hb2)
    replace Hblk := Lib.hid (Hblk.out.under hb2)
    replace Hbel := Lib.hid (Hbel.out.trans (hb2.mono Hbel.out.size))
    clear hb2 c0 c1 c2 hlc d0 d1 d2 hld
    have hTj : TR (j : Int) := ⟨by omega, by omega⟩
    obtain ⟨⟨k2, s2, x2, ov, co⟩, hfa⟩ : ∃ a, failA (j : Int) s nx f m t now = a := ⟨_, rfl⟩
    have Hfa := Lib.hid hfa
    rw [hfa]
    clear hfa
    simp only [faT]
    obtain ⟨V, hV⟩ : ∃ W, W = w2.alloc (.cells (tcells k2 s2 x2) 26) := ⟨_, rfl⟩
    have hbV : Below w2.heap.size w2 V := by rw [hV]; exact (Below.refl _ w2).alloc (Nat.le_refl _) _
    have HY := Lib.hid (show Blk V w2.heap.size (tcells k2 s2 x2) 26 from by rw [hV]; exact blk_new w2 _)
    replace HBr := Lib.hid (HBr.out.trans (hbV.mono HBr.out.size))
    replace HRr := Lib.hid (HRr.out.under hbV)
    have hne : w1.heap.size < w2.heap.size := Hblk.out.lt
    have Hblk2 := Lib.hid Hblk.out
    replace Hblk := Lib.hid (Hblk.out.under hbV)
    replace Hbel := Lib.hid (Hbel.out.trans (hbV.mono Hbel.out.size))
    clear hbV Hblk2
    go_upto_region 13 with (fail)
    rw [← hV]
    clear hV
    obtain ⟨c0, c1, c2⟩ := box3 HRr.out
    have hlc := HRr.out.lt
    obtain ⟨d0, d1, d2⟩ := box3 Hblk.out
    obtain ⟨q0, q1, q2⟩ := frz3 Hblk.out
    have hld := Hblk.out.lt
    obtain ⟨y0, y1, y2⟩ := box3 HY.out
    have hly := HY.out.lt
    by_cases hR : RR f m t
    rotate_left
    · have e := Hfa.out.symm.trans (failA_no (.inl hR))
      injection e with e1 e2 e3 e4 e5
      subst e1 e2 e3 e4 e5
      clear Hfa
      have hd : f < 1 ∨ m < f ∨ 9007199254740992 < m ∨ 9007199254740992 < t := by
        unfold RR at hR
        omega
      clear hR
      by_cases g1 : f < 1
      · go_wp2
        go_ret
        exact ⟨rfl, HBr.out⟩
      by_cases g2 : m < f
      · go_wp2
        go_ret
        exact ⟨rfl, HBr.out⟩
      by_cases g3 : 9007199254740992 < m
      · go_wp2
        go_ret
        exact ⟨rfl, HBr.out⟩
      have g4 : 9007199254740992 < t := by omega
      go_wp2
      go_ret
      exact ⟨rfl, HBr.out⟩
    have hg : ¬ (¬ RR f m t ∨ ¬ TR (j : Int) ∨ now < s ∨ 4611686018427387904 < now) := by
      rintro (h | h | h | h)
      · exact h hR
      · exact h hTj
      · omega
      · omega
    obtain ⟨v, hv⟩ : ∃ v, waitM f m j = v := ⟨_, rfl⟩
    have hvj : waitM f m (j : Int).toNat = v := by rw [Int.toNat_natCast]; exact hv
    have hv1 : v ≤ m := by rw [← hv]; exact waitM_le f m _
    have hv0 : f ≤ v := by rw [← hv]; exact waitM_ge (by omega) hR.2.1 _
    have HR' := Lib.hid hR
    obtain ⟨r1, r2, r3, r4⟩ := hR
    clear hTj
    have hf00 : ¬ f = 0 := by omega
    by_cases hov : t ≠ 0 ∧ t < now - s + v
    · have e := Hfa.out.symm.trans (failA_over hg (by rw [hvj]; exact hov))
      injection e with e1 e2 e3 e4 e5
      subst e1 e2 e3 e4 e5
      clear Hfa hg hvj hv
      obtain ⟨ht, hov⟩ := hov
      have hns : now - s2 ≤ t := by
        rcases Htj.out ht with h | h
        · exact h
        · have := Hj0.out h; omega
      have hq : (j : Int) ≤ t / f + 1 := by
        have h1 := Hfj.out
        have h3 : (j : Int) ≤ t / f := by rw [Int.le_ediv_iff_mul_le (by omega), Int.mul_comm]; omega
        omega
      have hq2 : t / f ≤ 9007199254740992 := by
        have h1 : t / f ≤ t := Int.ediv_le_self _ (by omega)
        omega
      have hq0 : 0 ≤ t / f := Int.ediv_nonneg (by omega) (by omega)
      have hw1 : IntKind.u64.wrap (now - s2) = now - s2 := IntWalk.u64_in _ (by omega)
      have hw2 : IntKind.u64.wrap (t.tdiv f) = t / f := IntWalk.u64_quo t f ⟨by omega, by omega, by omega⟩
      have hw3 : IntKind.u64.wrap (t / f + 1) = t / f + 1 := IntWalk.u64_in _ (by omega)
      have hw4 : IntKind.u64.wrap (j : Int) = (j : Int) := IntWalk.u64_in _ (by omega)
      have ht' : ¬ t = 0 := ht
      go_upto_region 16 with (fail)
      have ht3 : (t != 0) = true := by simp [ht]
      go_quiet (fail)
      go_wp2
      go_ret
      refine ⟨?_, below_drewN HBr.out _⟩
      simp [ht3]
    · have e := Hfa.out.symm.trans (failA_next hg (by rw [hvj]; exact hov))
      rw [hvj] at e
      injection e with e1 e2 e3 e4 e5
      subst e1 e2 e3 e4 e5
      clear Hfa hg hvj hv
      have Hov := Lib.hid hov
      clear hov
      have Hrow := Lib.hid (cell_put3 Hblk.out (.int .i64 ((j : Int) + 1)) (.int .u64 s2) (.int .u64 (now + v)))
      have Hput := Lib.hid (below_put3 Hbel.out (Nat.le_refl _) (.int .i64 ((j : Int) + 1)) (.int .u64 s2) (.int .u64 (now + v)))
      go_upto_region 19 with (fail)
      go_region
      go_wp2
      go_roundw
      case rel =>
        have hmul : f * (((j + 1 : Nat)) : Int) = f * (j : Int) + f := by rw [Int.natCast_add, Int.mul_add]; simp
        refine ⟨j + 1, now + v, now + v, by go_num, by omega, rfl, by omega, by omega, fun _ => HR'.out, ?_, ?_, fun h => absurd h (by omega), by unfold U64; omega, ?_, Hput.out.drew⟩
        · have := Hfj.out; rw [hmul]; omega
        · intro ht
          left
          have := Hov.out
          simp only [ne_eq, ht, not_false_eq_true, true_and] at this
          omega
        · exact Hrow.out
      case measure => simp [intOf]; omega
end Go.Proofs.Ytclhclaeccoljaa
