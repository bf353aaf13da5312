/- RETRY: THE WALK OVER RetryStatuses. -/
import Derived.Test.YtclhclaeccoljaaRf
namespace Go.Proofs.Ytclhclaeccoljaa
open Go.RowKit
set_option linter.unusedVariables false
set_option linter.unusedSimpArgs false


set_option maxHeartbeats 4000000 in
theorem statuses_any (w : World) (s f m t k : Int) (hk : I64 k) :
    Calls Try.prog 6 #[.int .i64 s, .agg (rcells f m t), .int .i64 k] w fun e w' => e = .returned (.bool true) ∧ Below w.heap.size w w' := by
  have HB := Lib.hid (Below.refl w.heap.size w)
  go_enter Try.func6, Try.ntmps6
  obtain ⟨W0, hW0⟩ : ∃ W, W = w.alloc (.cells (rcells f m t) 24) := ⟨_, rfl⟩
  have hbW0 : Below w.heap.size w W0 := by rw [hW0]; exact (Below.refl _ w).alloc (Nat.le_refl _) _
  replace HB := Lib.hid (HB.out.trans (hbW0.mono HB.out.size))
  have HR := Lib.hid (show Blk W0 w.heap.size (rcells f m t) 24 from by rw [hW0]; exact blk_new w _)
  clear hbW0
  go_upto_region 1 with (fail)
  rw [← hW0]
  clear hW0
  go_wp2_with fail
  refine (lives_any W0).mono ?_
  rintro e w1 ⟨rfl, hb⟩
  replace HR := Lib.hid (HR.out.under hb)
  replace HB := Lib.hid (HB.out.trans (hb.mono HB.out.size))
  clear hb
  obtain ⟨c0, c1, c2⟩ := box3 HR.out
  have hlc := HR.out.lt
  go_wp2_with fail
  refine (verdict_any w1 s).mono ?_
  rintro e w2 ⟨rfl, hb⟩
  replace HR := Lib.hid (HR.out.under hb)
  replace HB := Lib.hid (HB.out.trans (hb.mono HB.out.size))
  clear hb
  clear c0 c1 c2 hlc
  obtain ⟨v, hv⟩ : ∃ v, v = verM s := ⟨_, rfl⟩
  rw [← hv]
  have Hv := Lib.hid hv
  clear hv
  obtain ⟨c0, c1, c2⟩ := box3 HR.out
  have hlc := HR.out.lt
  by_cases g1 : 200 ≤ s
  · by_cases g2 : s < 300
    · obtain rfl : v = 0 := by rw [Hv.out]; unfold verM; rw [if_pos (by omega)]
      clear Hv
      go_wp2_with fail
      refine (Wait_any w2 f m t k hk.2).mono ?_
      rintro e w3 ⟨rfl, hb⟩
      replace HR := Lib.hid (HR.out.under hb)
      replace HB := Lib.hid (HB.out.trans (hb.mono HB.out.size))
      clear hb
      clear c0 c1 c2 hlc
      obtain ⟨c0, c1, c2⟩ := box3 HR.out
      have hlc := HR.out.lt
      by_cases hw : RR f m t ∧ 0 ≤ k
      · rw [waitA_yes hw.1 hw.2]
        simp only
        obtain ⟨v, hv⟩ : ∃ v, v = waitM f m k.toNat := ⟨_, rfl⟩
        have h1 : f ≤ v := by rw [hv]; exact waitM_ge (by have := hw.1.1; omega) hw.1.2.1 _
        have h2 : v ≤ m := by rw [hv]; exact waitM_le f m _
        rw [← hv]
        clear hv hw
        go_wp2
        go_ret
        exact ⟨rfl, HB.out⟩
      · rw [waitA_no hw]
        simp only
        clear hw
        go_wp2
        go_ret
        exact ⟨rfl, HB.out⟩
    · by_cases g3 : 400 ≤ s
      · by_cases g4 : s < 429
        · obtain rfl : v = 2 := by rw [Hv.out]; unfold verM; rw [if_neg (by omega), if_neg (by omega)]
          clear Hv
          go_wp2_with fail
          refine (Wait_any w2 f m t k hk.2).mono ?_
          rintro e w3 ⟨rfl, hb⟩
          replace HR := Lib.hid (HR.out.under hb)
          replace HB := Lib.hid (HB.out.trans (hb.mono HB.out.size))
          clear hb
          clear c0 c1 c2 hlc
          obtain ⟨c0, c1, c2⟩ := box3 HR.out
          have hlc := HR.out.lt
          by_cases hw : RR f m t ∧ 0 ≤ k
          · rw [waitA_yes hw.1 hw.2]
            simp only
            obtain ⟨v, hv⟩ : ∃ v, v = waitM f m k.toNat := ⟨_, rfl⟩
            have h1 : f ≤ v := by rw [hv]; exact waitM_ge (by have := hw.1.1; omega) hw.1.2.1 _
            have h2 : v ≤ m := by rw [hv]; exact waitM_le f m _
            rw [← hv]
            clear hv hw
            go_wp2
            go_ret
            exact ⟨rfl, HB.out⟩
          · rw [waitA_no hw]
            simp only
            clear hw
            go_wp2
            go_ret
            exact ⟨rfl, HB.out⟩
        · rcases (show v = 1 ∨ v = 2 from by rw [Hv.out]; unfold verM; rw [if_neg (by omega)]; split <;> simp) with rfl | rfl
          · clear Hv
            go_wp2_with fail
            refine (Wait_any w2 f m t k hk.2).mono ?_
            rintro e w3 ⟨rfl, hb⟩
            replace HR := Lib.hid (HR.out.under hb)
            replace HB := Lib.hid (HB.out.trans (hb.mono HB.out.size))
            clear hb
            clear c0 c1 c2 hlc
            obtain ⟨c0, c1, c2⟩ := box3 HR.out
            have hlc := HR.out.lt
            by_cases hw : RR f m t ∧ 0 ≤ k
            · rw [waitA_yes hw.1 hw.2]
              simp only
              obtain ⟨v, hv⟩ : ∃ v, v = waitM f m k.toNat := ⟨_, rfl⟩
              have h1 : f ≤ v := by rw [hv]; exact waitM_ge (by have := hw.1.1; omega) hw.1.2.1 _
              have h2 : v ≤ m := by rw [hv]; exact waitM_le f m _
              rw [← hv]
              clear hv hw
              go_wp2
              go_ret
              exact ⟨rfl, HB.out⟩
            · rw [waitA_no hw]
              simp only
              clear hw
              go_wp2
              go_ret
              exact ⟨rfl, HB.out⟩
          · clear Hv
            go_wp2_with fail
            refine (Wait_any w2 f m t k hk.2).mono ?_
            rintro e w3 ⟨rfl, hb⟩
            replace HR := Lib.hid (HR.out.under hb)
            replace HB := Lib.hid (HB.out.trans (hb.mono HB.out.size))
            clear hb
            clear c0 c1 c2 hlc
            obtain ⟨c0, c1, c2⟩ := box3 HR.out
            have hlc := HR.out.lt
            by_cases hw : RR f m t ∧ 0 ≤ k
            · rw [waitA_yes hw.1 hw.2]
              simp only
              obtain ⟨v, hv⟩ : ∃ v, v = waitM f m k.toNat := ⟨_, rfl⟩
              have h1 : f ≤ v := by rw [hv]; exact waitM_ge (by have := hw.1.1; omega) hw.1.2.1 _
              have h2 : v ≤ m := by rw [hv]; exact waitM_le f m _
              rw [← hv]
              clear hv hw
              go_wp2
              go_ret
              exact ⟨rfl, HB.out⟩
            · rw [waitA_no hw]
              simp only
              clear hw
              go_wp2
              go_ret
              exact ⟨rfl, HB.out⟩
      · rcases (show v = 1 ∨ v = 2 from by rw [Hv.out]; unfold verM; rw [if_neg (by omega)]; split <;> simp) with rfl | rfl
        · clear Hv
          go_wp2_with fail
          refine (Wait_any w2 f m t k hk.2).mono ?_
          rintro e w3 ⟨rfl, hb⟩
          replace HR := Lib.hid (HR.out.under hb)
          replace HB := Lib.hid (HB.out.trans (hb.mono HB.out.size))
          clear hb
          clear c0 c1 c2 hlc
          obtain ⟨c0, c1, c2⟩ := box3 HR.out
          have hlc := HR.out.lt
          by_cases hw : RR f m t ∧ 0 ≤ k
          · rw [waitA_yes hw.1 hw.2]
            simp only
            obtain ⟨v, hv⟩ : ∃ v, v = waitM f m k.toNat := ⟨_, rfl⟩
            have h1 : f ≤ v := by rw [hv]; exact waitM_ge (by have := hw.1.1; omega) hw.1.2.1 _
            have h2 : v ≤ m := by rw [hv]; exact waitM_le f m _
            rw [← hv]
            clear hv hw
            go_wp2
            go_ret
            exact ⟨rfl, HB.out⟩
          · rw [waitA_no hw]
            simp only
            clear hw
            go_wp2
            go_ret
            exact ⟨rfl, HB.out⟩
        · clear Hv
          go_wp2_with fail
          refine (Wait_any w2 f m t k hk.2).mono ?_
          rintro e w3 ⟨rfl, hb⟩
          replace HR := Lib.hid (HR.out.under hb)
          replace HB := Lib.hid (HB.out.trans (hb.mono HB.out.size))
          clear hb
          clear c0 c1 c2 hlc
          obtain ⟨c0, c1, c2⟩ := box3 HR.out
          have hlc := HR.out.lt
          by_cases hw : RR f m t ∧ 0 ≤ k
          · rw [waitA_yes hw.1 hw.2]
            simp only
            obtain ⟨v, hv⟩ : ∃ v, v = waitM f m k.toNat := ⟨_, rfl⟩
            have h1 : f ≤ v := by rw [hv]; exact waitM_ge (by have := hw.1.1; omega) hw.1.2.1 _
            have h2 : v ≤ m := by rw [hv]; exact waitM_le f m _
            rw [← hv]
            clear hv hw
            go_wp2
            go_ret
            exact ⟨rfl, HB.out⟩
          · rw [waitA_no hw]
            simp only
            clear hw
            go_wp2
            go_ret
            exact ⟨rfl, HB.out⟩
  · by_cases g3 : 400 ≤ s
    · exfalso; omega
    · rcases (show v = 1 ∨ v = 2 from by rw [Hv.out]; unfold verM; rw [if_neg (by omega)]; split <;> simp) with rfl | rfl
      · clear Hv
        go_wp2_with fail
        refine (Wait_any w2 f m t k hk.2).mono ?_
        rintro e w3 ⟨rfl, hb⟩
        replace HR := Lib.hid (HR.out.under hb)
        replace HB := Lib.hid (HB.out.trans (hb.mono HB.out.size))
        clear hb
        clear c0 c1 c2 hlc
        obtain ⟨c0, c1, c2⟩ := box3 HR.out
        have hlc := HR.out.lt
        by_cases hw : RR f m t ∧ 0 ≤ k
        · rw [waitA_yes hw.1 hw.2]
          simp only
          obtain ⟨v, hv⟩ : ∃ v, v = waitM f m k.toNat := ⟨_, rfl⟩
          have h1 : f ≤ v := by rw [hv]; exact waitM_ge (by have := hw.1.1; omega) hw.1.2.1 _
          have h2 : v ≤ m := by rw [hv]; exact waitM_le f m _
          rw [← hv]
          clear hv hw
          go_wp2
          go_ret
          exact ⟨rfl, HB.out⟩
        · rw [waitA_no hw]
          simp only
          clear hw
          go_wp2
          go_ret
          exact ⟨rfl, HB.out⟩
      · clear Hv
        go_wp2_with fail
        refine (Wait_any w2 f m t k hk.2).mono ?_
        rintro e w3 ⟨rfl, hb⟩
        replace HR := Lib.hid (HR.out.under hb)
        replace HB := Lib.hid (HB.out.trans (hb.mono HB.out.size))
        clear hb
        clear c0 c1 c2 hlc
        obtain ⟨c0, c1, c2⟩ := box3 HR.out
        have hlc := HR.out.lt
        by_cases hw : RR f m t ∧ 0 ≤ k
        · rw [waitA_yes hw.1 hw.2]
          simp only
          obtain ⟨v, hv⟩ : ∃ v, v = waitM f m k.toNat := ⟨_, rfl⟩
          have h1 : f ≤ v := by rw [hv]; exact waitM_ge (by have := hw.1.1; omega) hw.1.2.1 _
          have h2 : v ≤ m := by rw [hv]; exact waitM_le f m _
          rw [← hv]
          clear hv hw
          go_wp2
          go_ret
          exact ⟨rfl, HB.out⟩
        · rw [waitA_no hw]
          simp only
          clear hw
          go_wp2
          go_ret
          exact ⟨rfl, HB.out⟩
end Go.Proofs.Ytclhclaeccoljaa
