/- THE LAW ValueAttrs, WALKED. -/
import Derived.Test.YtnnnnlcpmocnfaaDoorLaw0
import Derived.Test.YtnnnnlcpmocnfaaDoorHs
import Derived.Outline
import Derived.WalkLawsBesides
import Derived.Deep.RegionLaw
import Derived.Deep.RegionHeld3
namespace Go.Proofs.YtnnnnlcpmocnfaaDoor
open Go.RowKit
set_option linter.unusedVariables false
set_option linter.unusedSimpArgs false
attribute [local go_sem] run_store_float


set_option maxRecDepth 100000 in
set_option maxHeartbeats 16000000 in
theorem attrs_walk (l : List (ByteArray × V)) (kl : List UInt8) (key : ByteArray) (hkl : key = ⟨kl.toArray⟩) (x : V) (hl112 : l.length * 112 ≤ 140737488351232) (hk1 : key.size ≤ 140737488353000)
    (y : V) (b : Bool) (hg : getOr l key = (y, b)) (w : World) (q q1 q2 : Value) (hq : RepP Any w q l) (hx : Rep Any w q1 q2 x) :
    Calls Tryd.prog 4 #[q, .string key, .agg (cv x q1 q2)] w fun e w' => e = .returned (.bool true) ∧ Below w.heap.size w w' := by
  obtain ⟨a1, c1, rfl, _⟩ := hx.parts.2.1.form
  obtain ⟨a2, c2, rfl, _⟩ := hx.parts.2.2.form
  obtain ⟨aq, cq, rfl, _⟩ := hq.form
  obtain ⟨W0, hW0⟩ : ∃ W0, W0 = w.alloc (.cells (cv x (.slice a1 x.l.length c1) (.slice a2 x.p.length c2)) 27) := ⟨_, rfl⟩
  have hb0 : Below w.heap.size w W0 := by rw [hW0]; exact al w _
  have hh1 := fun W => hash_any kl W (by have : key.size = kl.length := by rw [hkl]; simp [ByteArray.size]
                                         omega)
  have hh2 := fun W => rhash_any kl W (by have : key.size = kl.length := by rw [hkl]; simp [ByteArray.size]
                                          omega)
  rw [← hkl] at hh1 hh2
  have Hh1 := Lib.hid hh1
  have Hh2 := Lib.hid hh2
  have Hl0 := Lib.hid (hq.under hb0)
  have Hx0 := Lib.hid (hx.under hb0)
  have Bx0 := Lib.hid (show Box W0 w.heap.size x _ _ by rw [hW0]; exact Box.new w x (.slice a1 x.l.length c1) (.slice a2 x.p.length c2))
  have HW0 := Lib.hid hW0
  have Hbel0 := Lib.hid hb0
  have H112 := Lib.hid hl112
  have Hk1 := Lib.hid hk1
  have Hg := Lib.hid hg
  obtain ⟨hs, hhs⟩ : ∃ hs, hs = hashI kl := ⟨_, rfl⟩
  rw [← hhs] at Hh1 Hh2
  clear hW0 hb0 hq hx hl112 hk1 hg hkl hh1 hh2 hhs
  go_enter Tryd.func4, Tryd.ntmps4
  go_wp2_with fail
  rw [← HW0.out]
  refine (copyp_is (rcopyPairs_any l) Hl0.out (by have := H112.out; omega)).mono ?_
  rintro e W1 ⟨ag, cg, rfl, hgv, hb1⟩
  have Hl1 := Lib.hid (Hl0.out.under hb1)
  have Hx1 := Lib.hid (Hx0.out.under hb1)
  have Bx1 := Lib.hid (Bx0.out.under hb1)
  have Hbel1 := Lib.hid (Hbel0.out.trans (hb1.mono Hbel0.out.size))
  have Hv1 := Lib.hid hgv
  clear Hl0 Hx0 Bx0 Hbel0 hgv hb1
  go_wp2_with fail
  refine (get_is get_any Hg.out Hv1.out Hk1.out).mono ?_
  rintro e W2 ⟨b1, d1, b2, d2, rfl, hr, hb2⟩
  obtain ⟨P2, hP2⟩ : ∃ P, P = W2.alloc (.cells (cv y (.slice b1 y.l.length d1) (.slice b2 y.p.length d2)) 27) := ⟨_, rfl⟩
  have hp2 : Below W2.heap.size W2 P2 := by rw [hP2]; exact al _ _
  have hbp : Below W1.heap.size W1 P2 := hb2.trans (hp2.mono hb2.size)
  have Hl2 := Lib.hid (Hl1.out.under hbp)
  have Hx2 := Lib.hid (Hx1.out.under hbp)
  have Bx2 := Lib.hid (Bx1.out.under hbp)
  have Hv2 := Lib.hid (Hv1.out.under hbp)
  have Ru2 := Lib.hid (hr.under hp2)
  have Bu2 := Lib.hid (show Box P2 W2.heap.size y _ _ by rw [hP2]; exact Box.new W2 y (.slice b1 y.l.length d1) (.slice b2 y.p.length d2))
  have Hbel2 := Lib.hid (Hbel1.out.trans (hbp.mono Hbel1.out.size))
  have HP2 := Lib.hid hP2
  clear Hl1 Hx1 Bx1 Hv1 Hbel1 hb2 hp2 hbp hr hP2
  go_wp2_with fail
  rw [← HP2.out]
  refine (get_is rget_any Hg.out Hl2.out Hk1.out).mono ?_
  rintro e W3 ⟨b3, d3, b4, d4, rfl, hr, hb3⟩
  obtain ⟨P3, hP3⟩ : ∃ P, P = W3.alloc (.cells (cv y (.slice b3 y.l.length d3) (.slice b4 y.p.length d4)) 27) := ⟨_, rfl⟩
  have hp3 : Below W3.heap.size W3 P3 := by rw [hP3]; exact al _ _
  have hbp : Below P2.heap.size P2 P3 := hb3.trans (hp3.mono hb3.size)
  have Hl3 := Lib.hid (Hl2.out.under hbp)
  have Hx3 := Lib.hid (Hx2.out.under hbp)
  have Bx3 := Lib.hid (Bx2.out.under hbp)
  have Hv3 := Lib.hid (Hv2.out.under hbp)
  have Ru3 := Lib.hid (Ru2.out.under hbp)
  have Bu3 := Lib.hid (Bu2.out.under hbp)
  have Rn3 := Lib.hid (hr.under hp3)
  have Bn3 := Lib.hid (show Box P3 W3.heap.size y _ _ by rw [hP3]; exact Box.new W3 y (.slice b3 y.l.length d3) (.slice b4 y.p.length d4))
  have Hbel3 := Lib.hid (Hbel2.out.trans (hbp.mono Hbel2.out.size))
  have HP3 := Lib.hid hP3
  clear Hl2 Hx2 Bx2 Hv2 Ru2 Bu2 Hbel2 hb3 hp3 hbp hr hP3
  obtain ⟨g1, hg1⟩ : ∃ g, g = w.heap.size := ⟨_, rfl⟩
  cases b
  all_goals
    go_wp2_with fail
    rw [← HP3.out]
    go_region_held3 (fun w' => (w'.cell? ⟨W2.heap.size, 0, none⟩ = some (.int .u8 y.k) ∧ w'.cell? ⟨W2.heap.size, 1, none⟩ = some (.string y.s) ∧ w'.cell? ⟨W2.heap.size, 2, none⟩ = some (.bool y.b) ∧ w'.cell? ⟨W2.heap.size, 3, none⟩ = some (.int .i64 y.n) ∧ w'.cell? ⟨W2.heap.size, 4, none⟩ = some (.float .f64 y.f) ∧ w'.cell? ⟨W2.heap.size, 5, none⟩ = some (.slice b1 y.l.length d1) ∧ w'.cell? ⟨W2.heap.size, 6, none⟩ = some (.slice b2 y.p.length d2)) ∧ (w'.cell? ⟨W3.heap.size, 0, none⟩ = some (.int .u8 y.k) ∧ w'.cell? ⟨W3.heap.size, 1, none⟩ = some (.string y.s) ∧ w'.cell? ⟨W3.heap.size, 2, none⟩ = some (.bool y.b) ∧ w'.cell? ⟨W3.heap.size, 3, none⟩ = some (.int .i64 y.n) ∧ w'.cell? ⟨W3.heap.size, 4, none⟩ = some (.float .f64 y.f) ∧ w'.cell? ⟨W3.heap.size, 5, none⟩ = some (.slice b3 y.l.length d3) ∧ w'.cell? ⟨W3.heap.size, 6, none⟩ = some (.slice b4 y.p.length d4)) ∧ (w'.cell? ⟨w.heap.size, 0, none⟩ = some (.int .u8 x.k) ∧ w'.cell? ⟨w.heap.size, 1, none⟩ = some (.string x.s) ∧ w'.cell? ⟨w.heap.size, 2, none⟩ = some (.bool x.b) ∧ w'.cell? ⟨w.heap.size, 3, none⟩ = some (.int .i64 x.n) ∧ w'.cell? ⟨w.heap.size, 4, none⟩ = some (.float .f64 x.f) ∧ w'.cell? ⟨w.heap.size, 5, none⟩ = some (.slice a1 x.l.length c1) ∧ w'.cell? ⟨w.heap.size, 6, none⟩ = some (.slice a2 x.p.length c2)))
      (first | exact ⟨Bu12.out.at, Bn12.out.at, Bx12.out.at⟩ | exact ⟨Bu11.out.at, Bn11.out.at, Bx11.out.at⟩ | exact ⟨Bu10.out.at, Bn10.out.at, Bx10.out.at⟩ | exact ⟨Bu9.out.at, Bn9.out.at, Bx9.out.at⟩ | exact ⟨Bu8.out.at, Bn8.out.at, Bx8.out.at⟩ | exact ⟨Bu7.out.at, Bn7.out.at, Bx7.out.at⟩ | exact ⟨Bu6.out.at, Bn6.out.at, Bx6.out.at⟩ | exact ⟨Bu5.out.at, Bn5.out.at, Bx5.out.at⟩ | exact ⟨Bu4.out.at, Bn4.out.at, Bx4.out.at⟩ | exact ⟨Bu3.out.at, Bn3.out.at, Bx3.out.at⟩)
      (first | (go_at_call 15; refine (lives_any _).mono ?_; rintro e w4 ⟨rfl, hb4'⟩; have hb4 := below_drew hb4'; have Hl4 := Lib.hid (Hl3.out.under hb4); have Hx4 := Lib.hid (Hx3.out.under hb4); have Bx4 := Lib.hid (Bx3.out.under hb4); have Hv4 := Lib.hid (Hv3.out.under hb4); have Ru4 := Lib.hid (Ru3.out.under hb4); have Bu4 := Lib.hid (Bu3.out.under hb4); have Rn4 := Lib.hid (Rn3.out.under hb4); have Bn4 := Lib.hid (Bn3.out.under hb4); have Hbel4 := Lib.hid (Hbel3.out.trans (hb4.mono Hbel3.out.size)); clear hb4 hb4') | (go_at_call 21; refine (same_is (rs_any y y) Ru4.out Rn4.out).mono ?_; rintro e w5 ⟨rfl, hb5⟩; have Hl5 := Lib.hid (Hl4.out.under hb5); have Hx5 := Lib.hid (Hx4.out.under hb5); have Bx5 := Lib.hid (Bx4.out.under hb5); have Hv5 := Lib.hid (Hv4.out.under hb5); have Ru5 := Lib.hid (Ru4.out.under hb5); have Bu5 := Lib.hid (Bu4.out.under hb5); have Rn5 := Lib.hid (Rn4.out.under hb5); have Bn5 := Lib.hid (Bn4.out.under hb5); have Hbel5 := Lib.hid (Hbel4.out.trans (hb5.mono Hbel4.out.size)); clear hb5) | (go_at_call 27; refine (put_is put_any Hv5.out (by have := H112.out; omega) Hk1.out Hx5.out).mono ?_; rintro e w6 ⟨aa, ca, rfl, hva, hb6⟩; have Hl6 := Lib.hid (Hl5.out.under hb6); have Hx6 := Lib.hid (Hx5.out.under hb6); have Bx6 := Lib.hid (Bx5.out.under hb6); have Hv6 := Lib.hid (Hv5.out.under hb6); have Ru6 := Lib.hid (Ru5.out.under hb6); have Bu6 := Lib.hid (Bu5.out.under hb6); have Rn6 := Lib.hid (Rn5.out.under hb6); have Bn6 := Lib.hid (Bn5.out.under hb6); have Hbel6 := Lib.hid (Hbel5.out.trans (hb6.mono Hbel5.out.size)); have Ha6 := Lib.hid hva; clear hva hb6) | (go_at_call 28; refine (put_is rput_any Hl6.out (by have := H112.out; omega) Hk1.out Hx6.out).mono ?_; rintro e w7 ⟨ab, cb, rfl, hvb, hb7⟩; have Hl7 := Lib.hid (Hl6.out.under hb7); have Hx7 := Lib.hid (Hx6.out.under hb7); have Bx7 := Lib.hid (Bx6.out.under hb7); have Hv7 := Lib.hid (Hv6.out.under hb7); have Ru7 := Lib.hid (Ru6.out.under hb7); have Bu7 := Lib.hid (Bu6.out.under hb7); have Rn7 := Lib.hid (Rn6.out.under hb7); have Bn7 := Lib.hid (Bn6.out.under hb7); have Ha7 := Lib.hid (Ha6.out.under hb7); have Hbel7 := Lib.hid (Hbel6.out.trans (hb7.mono Hbel6.out.size)); have Hc7 := Lib.hid hvb; clear hvb hb7) | (go_at_call 23; (with_reducible refine (samep_is (rsp_any _ _) Ha7.out Hc7.out).mono ?_); rintro e w8 ⟨rfl, hb8⟩; have Hl8 := Lib.hid (Hl7.out.under hb8); have Hx8 := Lib.hid (Hx7.out.under hb8); have Bx8 := Lib.hid (Bx7.out.under hb8); have Hv8 := Lib.hid (Hv7.out.under hb8); have Ru8 := Lib.hid (Ru7.out.under hb8); have Bu8 := Lib.hid (Bu7.out.under hb8); have Rn8 := Lib.hid (Rn7.out.under hb8); have Bn8 := Lib.hid (Bn7.out.under hb8); have Ha8 := Lib.hid (Ha7.out.under hb8); have Hc8 := Lib.hid (Hc7.out.under hb8); have Hbel8 := Lib.hid (Hbel7.out.trans (hb8.mono Hbel7.out.size)); clear hb8) | (go_at_call 29; refine (drop_is drop_any Hv8.out (by have := H112.out; omega) Hk1.out).mono ?_; rintro e w9 ⟨ad, cd, rfl, hvd, hb9⟩; have Hl9 := Lib.hid (Hl8.out.under hb9); have Hx9 := Lib.hid (Hx8.out.under hb9); have Bx9 := Lib.hid (Bx8.out.under hb9); have Hv9 := Lib.hid (Hv8.out.under hb9); have Ru9 := Lib.hid (Ru8.out.under hb9); have Bu9 := Lib.hid (Bu8.out.under hb9); have Rn9 := Lib.hid (Rn8.out.under hb9); have Bn9 := Lib.hid (Bn8.out.under hb9); have Hbel9 := Lib.hid (Hbel8.out.trans (hb9.mono Hbel8.out.size)); have Hd9 := Lib.hid hvd; clear hvd hb9) | (go_at_call 30; refine (drop_is rdrop_any Hl9.out (by have := H112.out; omega) Hk1.out).mono ?_; rintro e w10 ⟨ae, ce, rfl, hve, hb10⟩; have Hl10 := Lib.hid (Hl9.out.under hb10); have Hx10 := Lib.hid (Hx9.out.under hb10); have Bx10 := Lib.hid (Bx9.out.under hb10); have Hv10 := Lib.hid (Hv9.out.under hb10); have Ru10 := Lib.hid (Ru9.out.under hb10); have Bu10 := Lib.hid (Bu9.out.under hb10); have Rn10 := Lib.hid (Rn9.out.under hb10); have Bn10 := Lib.hid (Bn9.out.under hb10); have Hd10 := Lib.hid (Hd9.out.under hb10); have Hbel10 := Lib.hid (Hbel9.out.trans (hb10.mono Hbel9.out.size)); have He10 := Lib.hid hve; clear hve hb10) | (go_at_call 23; (with_reducible refine (samep_is (rsp_any _ _) Hd10.out He10.out).mono ?_); rintro e w11 ⟨rfl, hb11⟩; have Hl11 := Lib.hid (Hl10.out.under hb11); have Hx11 := Lib.hid (Hx10.out.under hb11); have Bx11 := Lib.hid (Bx10.out.under hb11); have Hv11 := Lib.hid (Hv10.out.under hb11); have Ru11 := Lib.hid (Ru10.out.under hb11); have Bu11 := Lib.hid (Bu10.out.under hb11); have Rn11 := Lib.hid (Rn10.out.under hb11); have Bn11 := Lib.hid (Bn10.out.under hb11); have Hd11 := Lib.hid (Hd10.out.under hb11); have He11 := Lib.hid (He10.out.under hb11); have Hbel11 := Lib.hid (Hbel10.out.trans (hb11.mono Hbel10.out.size)); clear hb11) | (go_at_call 31; refine (Hh1.out _).mono ?_; rintro e w' ⟨rfl, rfl⟩) | (go_at_call 32; refine (Hh2.out _).mono ?_; rintro e w' ⟨rfl, rfl⟩) | (go_at_call 23; (with_reducible refine (samep_is (rsp_any _ _) Hv11.out Hl11.out).mono ?_); rintro e w12 ⟨rfl, hb12⟩; have Hl12 := Lib.hid (Hl11.out.under hb12); have Hx12 := Lib.hid (Hx11.out.under hb12); have Bx12 := Lib.hid (Bx11.out.under hb12); have Hv12 := Lib.hid (Hv11.out.under hb12); have Ru12 := Lib.hid (Ru11.out.under hb12); have Bu12 := Lib.hid (Bu11.out.under hb12); have Rn12 := Lib.hid (Rn11.out.under hb12); have Bn12 := Lib.hid (Bn11.out.under hb12); have Hbel12 := Lib.hid (Hbel11.out.trans (hb12.mono Hbel11.out.size)); clear hb12))
    go_wp2
    go_ret
    exact ⟨rfl, Hbel12.out⟩
end Go.Proofs.YtnnnnlcpmocnfaaDoor
