/- HTTP: THE WALK OVER HttpBack. -/
import Derived.Test.YtjkinjfbjbehjaaGreatDoorGar
namespace Go.Proofs.YtjkinjfbjbehjaaGreatDoor
open Go.RowKit
set_option maxRecDepth 100000
set_option linter.unusedVariables false
set_option linter.unusedSimpArgs false

theorem H.writeReq_cases (q : H.Rq) : H.writeReq q = ([], 13) ∨ (H.writeReq q = (H.woutH (H.firstOf q.method q.target) q.hs q.body, 0) ∧ q.hs.length ≤ 64 ∧ (H.woutH (H.firstOf q.method q.target) q.hs q.body).length ≤ 400000 ∧ ∀ x, H.readRequest (H.woutH (H.firstOf q.method q.target) q.hs q.body ++ x) 65536 = (q, (H.woutH (H.firstOf q.method q.target) q.hs q.body).length, 0)) := by
  obtain ⟨m, t, hs, b⟩ := q
  unfold H.writeReq H.writeA
  simp only
  cases h1 : H.isOf m H.tok with
  | false => exact .inl rfl
  | true =>
    cases h2 : H.isOf t H.tgt with
    | false => exact .inl rfl
    | true =>
      by_cases h3 : H.wOk (H.firstOf m t) hs b
      · rw [if_pos h3]
        exact .inr ⟨rfl, h3.2.1, H.woutH_len _ _ _ h3, fun x => H.back_req m t hs b x h1 h2 h3⟩
      · rw [if_neg h3]
        exact .inl rfl
theorem H.writeRes_cases (st : Int) (hs : List H.Hd) (b : H.T) : H.writeRes st hs b = ([], 13) ∨ ∃ n : Nat, st = (n : Int) ∧ H.writeRes st hs b = (H.woutH (H.firstRs n) hs b, 0) ∧ hs.length ≤ 64 ∧ (H.woutH (H.firstRs n) hs b).length ≤ 400000 ∧ ∀ x, H.readResponse (H.woutH (H.firstRs n) hs b ++ x) 65536 = (⟨n, hs, b⟩, (H.woutH (H.firstRs n) hs b).length, 0) := by
  unfold H.writeRes H.writeA
  by_cases h1 : 100 ≤ st ∧ st ≤ 599
  · obtain ⟨n, rfl⟩ : ∃ n : Nat, st = (n : Int) := ⟨st.toNat, by omega⟩
    rw [if_pos h1]
    by_cases h3 : H.wOk (H.firstRs n) hs b
    · refine .inr ⟨n, rfl, ?_, h3.2.1, H.woutH_len _ _ _ h3, fun x => H.back_res n hs b x (by omega) (by omega) h3.2.1 h3.2.2.1 h3.2.2.2⟩
      rw [show ((n : Int)).toNat = n from rfl, if_pos h3]
    · rw [show ((n : Int)).toNat = n from rfl, if_neg h3]
      exact .inl rfl
  · rw [if_neg h1]
    exact .inl rfl
set_option maxHeartbeats 8000000 in
theorem back_any (w : World) (q : H.Rq) (ad : Option Addr) (cap : Nat) (hq : RqIn w ad q) (st : Int) (hst : -9223372036854775808 ≤ st ∧ st ≤ 9223372036854775807) (hs : List H.Hd) (b : H.T) (ad2 : Option Addr) (cap2 : Nat) (hr : RsIn w ad2 hs b) (x : H.T) (hx : x.length ≤ 140737488355000) (hT : Tabs w) :
    Calls Tryz.prog 5 #[.agg #[S q.method, S q.target, .slice ad q.hs.length cap, S q.body], .agg #[.int .i64 st, .slice ad2 hs.length cap2, S b], S x] w fun e w' => e = .returned (.bool true) ∧ Below w.heap.size w w' := by
  obtain ⟨X, hX⟩ : ∃ X, X = (w.alloc (.cells #[S q.method, S q.target, .slice ad q.hs.length cap, S q.body] 24)).alloc (.cells #[.int .i64 st, .slice ad2 hs.length cap2, S b] 29) := ⟨_, rfl⟩
  have hbX : Below w.heap.size w X := by rw [hX]; exact ((Below.refl _ w).alloc (Nat.le_refl _) _).alloc (by simp) _
  have K := Lib.hid (show X.heap[w.heap.size]? = some (.cells #[S q.method, S q.target, .slice ad q.hs.length cap, S q.body] 24 (0, 0)) from by rw [hX]; exact blk_alloc (blk_new w _) _)
  have L := Lib.hid (show X.heap[w.heap.size + 1]? = some (.cells #[.int .i64 st, .slice ad2 hs.length cap2, S b] 29 (0, 0)) from by rw [hX]; exact blk_at (by simp))
  have HT := Lib.hid (hT.under hbX)
  have HQ := Lib.hid (hq.under hbX)
  have HS := Lib.hid (hr.under hbX)
  have HB := Lib.hid hbX
  have hwq := fun W (h : RqIn W ad q) hT => writeReq_any W q ad cap h hT
  have hws := fun W (h : RsIn W ad2 hs b) hT => writeRes_any W st hst hs b ad2 cap2 h hT
  clear hT hq hr hbX
  rcases H.writeReq_cases q with h1 | ⟨h1, hm1, hl1, hb1⟩
  · rw [h1] at hwq
    have HWQ := Lib.hid hwq
    clear hwq h1
    rcases H.writeRes_cases st hs b with h2 | ⟨n, rfl, h2, hm2, hl2, hb2⟩
    · rw [h2] at hws
      have HWS := Lib.hid hws
      clear hws h2
      go_enter Tryz.func5, Tryz.ntmps5
      go_upto_region 1 with (fail)
      rw [← hX]
      clear hX
      go_wp2_with fail
      refine (lives_any X HT.out).mono ?_
      rintro e w1 ⟨rfl, hb1⟩
      have HT1 := Lib.hid (HT.out.under hb1)
      have HB1 := Lib.hid (HB.out.trans (hb1.mono HB.out.size))
      have HQ1 := Lib.hid (HQ.out.under hb1)
      have HS1 := Lib.hid (HS.out.under hb1)
      have K1 := Lib.hid (blk_under K.out hb1)
      have L1 := Lib.hid (blk_under L.out hb1)
      obtain ⟨a0, a1, a2, a3⟩ := box4 K1.out
      have la := blk_lt K1.out
      clear hb1 HT HQ HS K L HB
      go_wp2_with fail
      with_reducible refine (HWQ.out _ HQ1.out HT1.out).mono ?_
      rintro e w2 ⟨rfl, hb2⟩
      have HT2 := Lib.hid (HT1.out.under hb2)
      have HB2 := Lib.hid (HB1.out.trans (hb2.mono HB1.out.size))
      have HQ2 := Lib.hid (HQ1.out.under hb2)
      have HS2 := Lib.hid (HS1.out.under hb2)
      have K2 := Lib.hid (blk_under K1.out hb2)
      have L2 := Lib.hid (blk_under L1.out hb2)
      clear hb2 HT1 HQ1 HS1 K1 L1 HB1 a0 a1 a2 a3 la
      obtain ⟨d0, d1, d2⟩ := box3 L2.out
      have ld := blk_lt L2.out
      go_wp2_with fail
      with_reducible refine (HWS.out _ HS2.out HT2.out).mono ?_
      rintro e w5 ⟨rfl, hb5⟩
      have HT5 := Lib.hid (HT2.out.under hb5)
      have HB5 := Lib.hid (HB2.out.trans (hb5.mono HB2.out.size))
      have HS5 := Lib.hid (HS2.out.under hb5)
      have L5 := Lib.hid (blk_under L2.out hb5)
      clear hb5 HT2 HB2 HS2 L2 d0 d1 d2 ld
      go_wp2
      go_ret
      exact ⟨rfl, HB5.out⟩
    · rw [h2] at hws
      have HWS := Lib.hid hws
      have Hm2 := Lib.hid hm2
      have ES := Lib.hid (S_app (H.woutH (H.firstRs n) hs b) x)
      have hr2 := fun w hT => rs_any w (H.woutH (H.firstRs n) hs b ++ x) 65536 (by decide) (by rw [List.length_append]; omega) hT _ _ _ (hb2 x)
      obtain ⟨z2, hz2⟩ : ∃ z : Int, (((H.woutH (H.firstRs n) hs b).length : Nat) : Int) = z := ⟨_, rfl⟩
      rw [hz2] at hr2
      have HR2 := Lib.hid hr2
      obtain ⟨o2, ho2⟩ : ∃ o, H.woutH (H.firstRs n) hs b = o := ⟨_, rfl⟩
      rw [ho2] at HWS ES HR2 hz2 hl2
      obtain ⟨st, hst'⟩ : ∃ st : Int, (n : Int) = st := ⟨_, rfl⟩
      simp only [hst'] at hX hst L HWS HR2 ⊢
      clear hws h2 hm2 hr2 ho2 hb2
      go_enter Tryz.func5, Tryz.ntmps5
      go_upto_region 1 with (fail)
      rw [← hX]
      clear hX
      go_wp2_with fail
      refine (lives_any X HT.out).mono ?_
      rintro e w1 ⟨rfl, hb1⟩
      have HT1 := Lib.hid (HT.out.under hb1)
      have HB1 := Lib.hid (HB.out.trans (hb1.mono HB.out.size))
      have HQ1 := Lib.hid (HQ.out.under hb1)
      have HS1 := Lib.hid (HS.out.under hb1)
      have K1 := Lib.hid (blk_under K.out hb1)
      have L1 := Lib.hid (blk_under L.out hb1)
      obtain ⟨a0, a1, a2, a3⟩ := box4 K1.out
      have la := blk_lt K1.out
      clear hb1 HT HQ HS K L HB
      go_wp2_with fail
      with_reducible refine (HWQ.out _ HQ1.out HT1.out).mono ?_
      rintro e w2 ⟨rfl, hb2⟩
      have HT2 := Lib.hid (HT1.out.under hb2)
      have HB2 := Lib.hid (HB1.out.trans (hb2.mono HB1.out.size))
      have HQ2 := Lib.hid (HQ1.out.under hb2)
      have HS2 := Lib.hid (HS1.out.under hb2)
      have K2 := Lib.hid (blk_under K1.out hb2)
      have L2 := Lib.hid (blk_under L1.out hb2)
      clear hb2 HT1 HQ1 HS1 K1 L1 HB1 a0 a1 a2 a3 la
      obtain ⟨d0, d1, d2⟩ := box3 L2.out
      have ld := blk_lt L2.out
      go_wp2_with fail
      with_reducible refine (HWS.out _ HS2.out HT2.out).mono ?_
      rintro e w5 ⟨rfl, hb5⟩
      have HT5 := Lib.hid (HT2.out.under hb5)
      have HB5 := Lib.hid (HB2.out.trans (hb5.mono HB2.out.size))
      have HS5 := Lib.hid (HS2.out.under hb5)
      have L5 := Lib.hid (blk_under L2.out hb5)
      clear hb5 HT2 HB2 HS2 L2 d0 d1 d2 ld
      go_wp2_with fail
      rw [ES.out]
      with_reducible refine (HR2.out _ HT5.out).mono ?_
      rintro e w6 ⟨hb6, ad6, k6, cap6, rfl, rfl, hd6⟩
      obtain ⟨Z, hZ⟩ : ∃ Z, Z = w6.alloc (.cells #[.int .i64 st, .slice ad6 hs.length cap6, S b] 29) := ⟨_, rfl⟩
      have hbZ : Below w6.heap.size w6 Z := by rw [hZ]; exact (Below.refl _ w6).alloc (Nat.le_refl _) _
      have hk6 : Z.heap[w6.heap.size]? = some (.cells #[.int .i64 st, .slice ad6 hs.length cap6, S b] 29 (0, 0)) := by rw [hZ]; exact blk_new w6 _
      have hbb := hb6.trans (hbZ.mono hb6.size)
      have HB6 := Lib.hid (HB5.out.trans (hbb.mono HB5.out.size))
      have L6 := Lib.hid (blk_under L5.out hbb)
      have hsm := sameRes_any Z st b hs ad6 ad2 _ _ cap6 cap2 rfl rfl Hm2.out (hd6.under hbZ) ((HS5.out.under hbb).hds)
      obtain ⟨x0, x1, x2⟩ := box3 hk6
      obtain ⟨y0, y1, y2⟩ := box3 L6.out
      have hl0 := blk_lt hk6
      have hl1 := blk_lt L6.out
      clear hb6 hbZ hbb hd6 hk6 HT5 HB5 HS5 L5 HR2
      go_upto_region 12 with (fail)
      rw [← hZ]
      clear hZ
      go_wp2_with (go_at_call 18; with_reducible refine hsm.mono ?_; rintro e w7 ⟨rfl, hb7⟩; have HB7 := Lib.hid (HB6.out.trans (hb7.mono HB6.out.size)); clear hb7)
      go_ret
      exact ⟨rfl, HB7.out⟩
  · rw [h1] at hwq
    have HWQ := Lib.hid hwq
    have Hm := Lib.hid hm1
    have EQ := Lib.hid (S_app (H.woutH (H.firstOf q.method q.target) q.hs q.body) x)
    have hr1 := fun w hT => rd_any w (H.woutH (H.firstOf q.method q.target) q.hs q.body ++ x) 65536 (by decide) (by rw [List.length_append]; omega) hT _ _ _ (hb1 x)
    obtain ⟨z1, hz1⟩ : ∃ z : Int, (((H.woutH (H.firstOf q.method q.target) q.hs q.body).length : Nat) : Int) = z := ⟨_, rfl⟩
    rw [hz1] at hr1
    have HR := Lib.hid hr1
    obtain ⟨o1, ho1⟩ : ∃ o, H.woutH (H.firstOf q.method q.target) q.hs q.body = o := ⟨_, rfl⟩
    rw [ho1] at HWQ EQ HR hz1 hl1
    clear hwq h1 hm1 hr1 ho1 hb1
    rcases H.writeRes_cases st hs b with h2 | ⟨n, rfl, h2, hm2, hl2, hb2⟩
    · rw [h2] at hws
      have HWS := Lib.hid hws
      clear hws h2
      go_enter Tryz.func5, Tryz.ntmps5
      go_upto_region 1 with (fail)
      rw [← hX]
      clear hX
      go_wp2_with fail
      refine (lives_any X HT.out).mono ?_
      rintro e w1 ⟨rfl, hb1⟩
      have HT1 := Lib.hid (HT.out.under hb1)
      have HB1 := Lib.hid (HB.out.trans (hb1.mono HB.out.size))
      have HQ1 := Lib.hid (HQ.out.under hb1)
      have HS1 := Lib.hid (HS.out.under hb1)
      have K1 := Lib.hid (blk_under K.out hb1)
      have L1 := Lib.hid (blk_under L.out hb1)
      obtain ⟨a0, a1, a2, a3⟩ := box4 K1.out
      have la := blk_lt K1.out
      clear hb1 HT HQ HS K L HB
      go_wp2_with fail
      with_reducible refine (HWQ.out _ HQ1.out HT1.out).mono ?_
      rintro e w2 ⟨rfl, hb2⟩
      have HT2 := Lib.hid (HT1.out.under hb2)
      have HB2 := Lib.hid (HB1.out.trans (hb2.mono HB1.out.size))
      have HQ2 := Lib.hid (HQ1.out.under hb2)
      have HS2 := Lib.hid (HS1.out.under hb2)
      have K2 := Lib.hid (blk_under K1.out hb2)
      have L2 := Lib.hid (blk_under L1.out hb2)
      clear hb2 HT1 HQ1 HS1 K1 L1 HB1 a0 a1 a2 a3 la
      go_wp2_with fail
      rw [EQ.out]
      with_reducible refine (HR.out _ HT2.out).mono ?_
      rintro e w3 ⟨hb3, ad3, k3, cap3, rfl, rfl, hd3⟩
      obtain ⟨Y, hY⟩ : ∃ Y, Y = w3.alloc (.cells #[S q.method, S q.target, .slice ad3 q.hs.length cap3, S q.body] 24) := ⟨_, rfl⟩
      have hbY : Below w3.heap.size w3 Y := by rw [hY]; exact (Below.refl _ w3).alloc (Nat.le_refl _) _
      have hk3 : Y.heap[w3.heap.size]? = some (.cells #[S q.method, S q.target, .slice ad3 q.hs.length cap3, S q.body] 24 (0, 0)) := by rw [hY]; exact blk_new w3 _
      have hbb := hb3.trans (hbY.mono hb3.size)
      have HT3 := Lib.hid (HT2.out.under hbb)
      have HB3 := Lib.hid (HB2.out.trans (hbb.mono HB2.out.size))
      have HS3 := Lib.hid (HS2.out.under hbb)
      have K3 := Lib.hid (blk_under K2.out hbb)
      have L3 := Lib.hid (blk_under L2.out hbb)
      have hsm := sameReq_any Y q.method q.target q.body q.hs ad3 ad _ _ cap3 cap rfl rfl Hm.out (hd3.under hbY) ((HQ2.out.under hbb).hds)
      obtain ⟨x0, x1, x2, x3⟩ := box4 hk3
      obtain ⟨y0, y1, y2, y3⟩ := box4 K3.out
      have hl0 := blk_lt hk3
      have hl1 := blk_lt K3.out
      clear hb3 hbY hbb hd3 hk3 HT2 HB2 HQ2 HS2 K2 L2 HR
      go_upto_region 6 with (fail)
      rw [← hY]
      clear hY
      obtain ⟨c0, c1, c2⟩ := box3 L3.out
      have lc := blk_lt L3.out
      go_wp2_with (go_at_call 17; with_reducible refine hsm.mono ?_; rintro e w4 ⟨rfl, hb4⟩; have HT4 := Lib.hid (HT3.out.under hb4); have HB4 := Lib.hid (HB3.out.trans (hb4.mono HB3.out.size)); have HS4 := Lib.hid (HS3.out.under hb4); have L4 := Lib.hid (blk_under L3.out hb4); obtain ⟨d0, d1, d2⟩ := box3 L4.out; have ld := blk_lt L4.out; clear hb4)
      clear hsm x0 x1 x2 x3 y0 y1 y2 y3 c0 c1 c2 lc
      with_reducible refine (HWS.out _ HS4.out HT4.out).mono ?_
      rintro e w5 ⟨rfl, hb5⟩
      have HT5 := Lib.hid (HT4.out.under hb5)
      have HB5 := Lib.hid (HB4.out.trans (hb5.mono HB4.out.size))
      have HS5 := Lib.hid (HS4.out.under hb5)
      have L5 := Lib.hid (blk_under L4.out hb5)
      clear hb5 HT4 HB4 HS4 L4 d0 d1 d2 ld
      go_wp2
      go_ret
      exact ⟨rfl, HB5.out⟩
    · rw [h2] at hws
      have HWS := Lib.hid hws
      have Hm2 := Lib.hid hm2
      have ES := Lib.hid (S_app (H.woutH (H.firstRs n) hs b) x)
      have hr2 := fun w hT => rs_any w (H.woutH (H.firstRs n) hs b ++ x) 65536 (by decide) (by rw [List.length_append]; omega) hT _ _ _ (hb2 x)
      obtain ⟨z2, hz2⟩ : ∃ z : Int, (((H.woutH (H.firstRs n) hs b).length : Nat) : Int) = z := ⟨_, rfl⟩
      rw [hz2] at hr2
      have HR2 := Lib.hid hr2
      obtain ⟨o2, ho2⟩ : ∃ o, H.woutH (H.firstRs n) hs b = o := ⟨_, rfl⟩
      rw [ho2] at HWS ES HR2 hz2 hl2
      obtain ⟨st, hst'⟩ : ∃ st : Int, (n : Int) = st := ⟨_, rfl⟩
      simp only [hst'] at hX hst L HWS HR2 ⊢
      clear hws h2 hm2 hr2 ho2 hb2
      go_enter Tryz.func5, Tryz.ntmps5
      go_upto_region 1 with (fail)
      rw [← hX]
      clear hX
      go_wp2_with fail
      refine (lives_any X HT.out).mono ?_
      rintro e w1 ⟨rfl, hb1⟩
      have HT1 := Lib.hid (HT.out.under hb1)
      have HB1 := Lib.hid (HB.out.trans (hb1.mono HB.out.size))
      have HQ1 := Lib.hid (HQ.out.under hb1)
      have HS1 := Lib.hid (HS.out.under hb1)
      have K1 := Lib.hid (blk_under K.out hb1)
      have L1 := Lib.hid (blk_under L.out hb1)
      obtain ⟨a0, a1, a2, a3⟩ := box4 K1.out
      have la := blk_lt K1.out
      clear hb1 HT HQ HS K L HB
      go_wp2_with fail
      with_reducible refine (HWQ.out _ HQ1.out HT1.out).mono ?_
      rintro e w2 ⟨rfl, hb2⟩
      have HT2 := Lib.hid (HT1.out.under hb2)
      have HB2 := Lib.hid (HB1.out.trans (hb2.mono HB1.out.size))
      have HQ2 := Lib.hid (HQ1.out.under hb2)
      have HS2 := Lib.hid (HS1.out.under hb2)
      have K2 := Lib.hid (blk_under K1.out hb2)
      have L2 := Lib.hid (blk_under L1.out hb2)
      clear hb2 HT1 HQ1 HS1 K1 L1 HB1 a0 a1 a2 a3 la
      go_wp2_with fail
      rw [EQ.out]
      with_reducible refine (HR.out _ HT2.out).mono ?_
      rintro e w3 ⟨hb3, ad3, k3, cap3, rfl, rfl, hd3⟩
      obtain ⟨Y, hY⟩ : ∃ Y, Y = w3.alloc (.cells #[S q.method, S q.target, .slice ad3 q.hs.length cap3, S q.body] 24) := ⟨_, rfl⟩
      have hbY : Below w3.heap.size w3 Y := by rw [hY]; exact (Below.refl _ w3).alloc (Nat.le_refl _) _
      have hk3 : Y.heap[w3.heap.size]? = some (.cells #[S q.method, S q.target, .slice ad3 q.hs.length cap3, S q.body] 24 (0, 0)) := by rw [hY]; exact blk_new w3 _
      have hbb := hb3.trans (hbY.mono hb3.size)
      have HT3 := Lib.hid (HT2.out.under hbb)
      have HB3 := Lib.hid (HB2.out.trans (hbb.mono HB2.out.size))
      have HS3 := Lib.hid (HS2.out.under hbb)
      have K3 := Lib.hid (blk_under K2.out hbb)
      have L3 := Lib.hid (blk_under L2.out hbb)
      have hsm := sameReq_any Y q.method q.target q.body q.hs ad3 ad _ _ cap3 cap rfl rfl Hm.out (hd3.under hbY) ((HQ2.out.under hbb).hds)
      obtain ⟨x0, x1, x2, x3⟩ := box4 hk3
      obtain ⟨y0, y1, y2, y3⟩ := box4 K3.out
      have hl0 := blk_lt hk3
      have hl1 := blk_lt K3.out
      clear hb3 hbY hbb hd3 hk3 HT2 HB2 HQ2 HS2 K2 L2 HR
      go_upto_region 6 with (fail)
      rw [← hY]
      clear hY
      obtain ⟨c0, c1, c2⟩ := box3 L3.out
      have lc := blk_lt L3.out
      go_wp2_with (go_at_call 17; with_reducible refine hsm.mono ?_; rintro e w4 ⟨rfl, hb4⟩; have HT4 := Lib.hid (HT3.out.under hb4); have HB4 := Lib.hid (HB3.out.trans (hb4.mono HB3.out.size)); have HS4 := Lib.hid (HS3.out.under hb4); have L4 := Lib.hid (blk_under L3.out hb4); obtain ⟨d0, d1, d2⟩ := box3 L4.out; have ld := blk_lt L4.out; clear hb4)
      clear hsm x0 x1 x2 x3 y0 y1 y2 y3 c0 c1 c2 lc
      with_reducible refine (HWS.out _ HS4.out HT4.out).mono ?_
      rintro e w5 ⟨rfl, hb5⟩
      have HT5 := Lib.hid (HT4.out.under hb5)
      have HB5 := Lib.hid (HB4.out.trans (hb5.mono HB4.out.size))
      have HS5 := Lib.hid (HS4.out.under hb5)
      have L5 := Lib.hid (blk_under L4.out hb5)
      clear hb5 HT4 HB4 HS4 L4 d0 d1 d2 ld
      go_wp2_with fail
      rw [ES.out]
      with_reducible refine (HR2.out _ HT5.out).mono ?_
      rintro e w6 ⟨hb6, ad6, k6, cap6, rfl, rfl, hd6⟩
      obtain ⟨Z, hZ⟩ : ∃ Z, Z = w6.alloc (.cells #[.int .i64 st, .slice ad6 hs.length cap6, S b] 29) := ⟨_, rfl⟩
      have hbZ : Below w6.heap.size w6 Z := by rw [hZ]; exact (Below.refl _ w6).alloc (Nat.le_refl _) _
      have hk6 : Z.heap[w6.heap.size]? = some (.cells #[.int .i64 st, .slice ad6 hs.length cap6, S b] 29 (0, 0)) := by rw [hZ]; exact blk_new w6 _
      have hbb := hb6.trans (hbZ.mono hb6.size)
      have HB6 := Lib.hid (HB5.out.trans (hbb.mono HB5.out.size))
      have L6 := Lib.hid (blk_under L5.out hbb)
      have hsm := sameRes_any Z st b hs ad6 ad2 _ _ cap6 cap2 rfl rfl Hm2.out (hd6.under hbZ) ((HS5.out.under hbb).hds)
      obtain ⟨x0, x1, x2⟩ := box3 hk6
      obtain ⟨y0, y1, y2⟩ := box3 L6.out
      have hl0 := blk_lt hk6
      have hl1 := blk_lt L6.out
      clear hb6 hbZ hbb hd6 hk6 HT5 HB5 HS5 L5 HR2
      go_upto_region 12 with (fail)
      rw [← hZ]
      clear hZ
      go_wp2_with (go_at_call 18; with_reducible refine hsm.mono ?_; rintro e w7 ⟨rfl, hb7⟩; have HB7 := Lib.hid (HB6.out.trans (hb7.mono HB6.out.size)); clear hb7)
      go_ret
      exact ⟨rfl, HB7.out⟩
theorem back_str (w : World) (q : H.Rq) (ad : Option Addr) (cap : Nat) (hq : RqIn w ad q) (st : Int) (hst : -9223372036854775808 ≤ st ∧ st ≤ 9223372036854775807) (hs : List H.Hd) (b : H.T) (ad2 : Option Addr) (cap2 : Nat) (hr : RsIn w ad2 hs b) (x : ByteArray) (hx : x.size ≤ 140737488355000) (hT : Tabs w) :
    Calls Tryz.prog 5 #[.agg #[S q.method, S q.target, .slice ad q.hs.length cap, S q.body], .agg #[.int .i64 st, .slice ad2 hs.length cap2, S b], .string x] w fun e w' => e = .returned (.bool true) ∧ Below w.heap.size w w' := by
  obtain ⟨l, rfl⟩ : ∃ l : H.T, x = ⟨l.toArray⟩ := ⟨x.data.toList, (S_data x).symm⟩
  rw [S_size] at hx
  exact back_any w q ad cap hq st hst hs b ad2 cap2 hr l hx hT
end Go.Proofs.YtjkinjfbjbehjaaGreatDoor
