/- MESSAGES OF VALUES, READ: a pair, WALKED. -/
import Derived.Test.YtnnnnlcpmocnfaaGreatDoorRv2
import Derived.Deep.Cut
import Derived.Outline
import Derived.WalkLawsBesides
import Derived.Deep.RegionLaw
import Derived.Deep.RegionHeld3
namespace Go.Proofs.YtnnnnlcpmocnfaaGreatDoor
open Go.RowKit
set_option linter.unusedVariables false
set_option linter.unusedSimpArgs false
attribute [local go_sem] run_store_float

theorem lastVal_str (R : Option M.Fd) : ∃ A B C t, lastVal R = .tuple #[.agg (fcells A B C (strOf R)), .bool t] := by
  cases R with
  | none => exact ⟨0, 0, 0, false, rfl⟩
  | some f => exact ⟨f.num, f.wire, f.n, true, rfl⟩
theorem Flds.mono {w : World} {B B' : Nat} {ad : Option Addr} {fs : List M.Fd} (h : Flds w B ad fs) (hb : B ≤ B') : Flds w B' ad fs :=
  ⟨h.1, fun hne => by obtain ⟨g, off, e, hg, hi⟩ := h.2 hne; exact ⟨g, off, e, Nat.lt_of_lt_of_le hg hb, hi⟩⟩
theorem Flds.under {w w' : World} {ad : Option Addr} {fs : List M.Fd} (h : Flds w w.heap.size ad fs) (hb : Below w.heap.size w w') : Flds w' w'.heap.size ad fs := (h.keep hb).mono hb.size
theorem str_short {s : List UInt8} {fs : List M.Fd} (h : M.read s = .ok fs) (a : Int) (b : Nat) : (strOf (lastOf a b fs)).length ≤ 65536 := by
  cases hl : lastOf a b fs with
  | none => simp [strOf]
  | some f =>
    have hm : f ∈ allOf a b fs := List.mem_of_getLast? hl
    exact read_s h f (List.mem_filter.1 (show f ∈ fs.filter (pick a b) from hm)).1
/-- what reading a pair answers -/
def RPairP (r : Except Int (ByteArray × V)) (w : World) (e : Ending) (w' : World) : Prop :=
  match r with
  | .error c => e = pan31 c ∧ Below w.heap.size w w'
  | .ok x => x.1.size ≤ 140737488353000 ∧ Copied1 x.1 x.2 w e w'
def ReadPC (n : Nat) : Prop := ∀ (s : List UInt8) (w : World), Tabs w → s.length ≤ 9223372036854775807 → Calls Tryz.prog 31 #[.string ⟨s.toArray⟩, .int .i64 (8 - (n : Int))] w (RPairP (rpairG (rmsg n) s) w)
theorem set8 {w W : World} {g : Nat} (h : Below g w W) (a0 a1 a2 a3 a4 a5 a6 a7 : Value) : Below g w ((((((((W.setCell ⟨g, 0, none⟩ a0).setCell ⟨g, 1, none⟩ a1).setCell ⟨g, 2, none⟩ a2).setCell ⟨g, 3, none⟩ a3).setCell ⟨g, 4, none⟩ a4).setCell ⟨g, 5, none⟩ a5).setCell ⟨g, 6, none⟩ a6).setCell ⟨g, 7, none⟩ a7) :=
  (((((((h.setCell (Nat.le_refl _) _).setCell (Nat.le_refl _) _).setCell (Nat.le_refl _) _).setCell (Nat.le_refl _) _).setCell (Nat.le_refl _) _).setCell (Nat.le_refl _) _).setCell (Nat.le_refl _) _).setCell (Nat.le_refl _) _

set_option maxRecDepth 100000 in
set_option maxHeartbeats 2000000 in
theorem rpair_of (n : Nat) (ih : ReadC n) : ReadPC n := by
  intro s w hT hs
  obtain ⟨d, hd⟩ : ∃ d : Int, d = 8 - (n : Int) := ⟨_, rfl⟩
  rw [← hd]
  have Ih := Lib.hid (show ∀ (s : List UInt8) (w : World), Tabs w → s.length ≤ 9223372036854775807 → Calls Tryz.prog 23 #[.string ⟨s.toArray⟩, .int .i64 d] w (RPost (rmsg n s) w) by rw [hd]; exact ih)
  obtain ⟨Wa, hWa⟩ : ∃ Wa, Wa = w.alloc (.cells #[.string ⟨#[]⟩, .int .u8 0, .string ⟨#[]⟩, .bool false, .int .i64 0, .float .f64 0, .slice none 0 0, .slice none 0 0] 29) := ⟨_, rfl⟩
  have hba : Below w.heap.size w Wa := by rw [hWa]; exact al w _
  have hra : Wa.heap[w.heap.size]? = some (.cells #[.string ⟨#[]⟩, .int .u8 0, .string ⟨#[]⟩, .bool false, .int .i64 0, .float .f64 0, .slice none 0 0, .slice none 0 0] 29 (0, 0)) := by rw [hWa]; exact blk_new w _
  have HFields := Lib.hid (fields_all s Wa hs)
  have HWa := Lib.hid hWa
  have Hba := Lib.hid hba
  have Hra := Lib.hid hra
  have HT := Lib.hid hT
  clear hWa hba hra hs hT hd ih
  cases hr : M.read s with
  | error c =>
    have HR := Lib.hid (show rpairG (rmsg n) s = .error (c : Int) by unfold rpairG; rw [hr])
    have Hr := Lib.hid hr
    clear hr
    go_enter Tryz.func31, Tryz.ntmps31
    go_wp2_with fail
    rw [← HWa.out]
    refine (HFields.out).mono ?_
    intro e w1 h
    unfold FieldsP at h
    rw [Hr.out] at h
    obtain ⟨rfl, hb⟩ := h
    exact ⟨rfl, by rw [HR.out]; exact ⟨rfl, Hba.out.trans (hb.mono Hba.out.size)⟩⟩
  | ok fs =>
    have Hk0 := Lib.hid (str_short hr 1 2)
    have Hv0 := Lib.hid (str_short hr 2 2)
    have HRG := Lib.hid (show rpairG (rmsg n) s = if keyErr (BA (strOf (lastOf 1 2 fs))) = 0 then (match rmsg n (strOf (lastOf 2 2 fs)) with | .error c => .error c | .ok x => .ok (BA (strOf (lastOf 1 2 fs)), x)) else .error (keyErr (BA (strOf (lastOf 1 2 fs)))) by unfold rpairG; rw [hr]; rfl)
    have Hr := Lib.hid hr
    clear hr
    obtain ⟨A1, B1, C1, t1, hl1⟩ := lastVal_str (lastOf 1 2 fs)
    obtain ⟨A2, B2, C2, t2, hl2⟩ := lastVal_str (lastOf 2 2 fs)
    obtain ⟨ks, hks⟩ : ∃ ks, ks = strOf (lastOf 1 2 fs) := ⟨_, rfl⟩
    obtain ⟨vs, hvs⟩ : ∃ vs, vs = strOf (lastOf 2 2 fs) := ⟨_, rfl⟩
    rw [← hks] at hl1 Hk0 HRG
    rw [← hvs] at hl2 Hv0 HRG
    have Hl1 := Lib.hid hl1
    have Hl2 := Lib.hid hl2
    clear hl1 hl2 hks hvs
    go_enter Tryz.func31, Tryz.ntmps31
    go_wp2_with fail
    rw [← HWa.out]
    refine (HFields.out).mono ?_
    intro e w1 h
    unfold FieldsP at h
    rw [Hr.out] at h
    obtain ⟨ad, cap, rfl, hfl, _, hb1⟩ := h
    have Hb1 := Lib.hid (Hba.out.trans (hb1.mono Hba.out.size))
    have Hr1 := Lib.hid ((hb1.block _ (lt_of_block Hra.out)).trans Hra.out)
    have Hfl1 := Lib.hid hfl
    clear hfl hb1
    go_wp2_with fail
    refine (last_any w1 ad fs.length cap 1 2 fs rfl Hfl1.out (by decide) (by decide)).mono ?_
    rintro e w2 ⟨rfl, hb2⟩
    rw [show lastVal (lastOf 1 (Int.toNat 2) fs) = _ from Hl1.out]
    have Hb2 := Lib.hid (Hb1.out.trans (hb2.mono Hb1.out.size))
    have Hr2 := Lib.hid ((hb2.block _ (lt_of_block Hr1.out)).trans Hr1.out)
    have Hfl2 := Lib.hid (Hfl1.out.under hb2)
    clear hb2
    obtain ⟨W3, hW3⟩ : ∃ W3, W3 = w2.alloc (.cells (fcells A1 B1 C1 ks) 73) := ⟨_, rfl⟩
    have HW3 := Lib.hid hW3
    have h23 : Below w2.heap.size w2 W3 := by rw [hW3]; exact al w2 _
    have Hb3 := Lib.hid (Hb2.out.trans (h23.mono Hb2.out.size))
    have Hr3 := Lib.hid ((h23.block _ (lt_of_block Hr2.out)).trans Hr2.out)
    have Hfl3 := Lib.hid (Hfl2.out.under h23)
    have Hbx3 := Lib.hid (show W3.heap[w2.heap.size]? = some (.cells (fcells A1 B1 C1 ks) 73 (0, 0)) by rw [hW3]; exact blk_new w2 _)
    have Hlt := Lib.hid (show w.heap.size < w2.heap.size from lt_of_block Hr2.out)
    have Hkey := Lib.hid (ckey_any (BA ks) W3 (by have := Hk0.out; show ks.length ≤ _; omega) (HT.out.under Hb3.out))
    clear hW3 h23
    go_wp2_with fail
    rw [← HW3.out]
    by_cases hk : keyErr (BA ks) = 0
    · rw [hk] at Hkey
      have HRG2 := Lib.hid (show rpairG (rmsg n) s = (match rmsg n vs with | .error c => .error c | .ok x => .ok (BA ks, x)) by rw [HRG.out, if_pos hk])
      clear hk
      refine (Hkey.out).mono ?_
      intro e w4 hc
      obtain ⟨rfl, hb4⟩ := hc.ok
      have Hb4 := Lib.hid (Hb3.out.trans (hb4.mono Hb3.out.size))
      have Hr4 := Lib.hid ((hb4.block _ (lt_of_block Hr3.out)).trans Hr3.out)
      have Hfl4 := Lib.hid (Hfl3.out.under hb4)
      have Hbx4 := Lib.hid ((hb4.block _ (lt_of_block Hbx3.out)).trans Hbx3.out)
      clear hb4 hc
      go_wp2_with fail
      refine (last_any w4 ad fs.length cap 2 2 fs rfl Hfl4.out (by decide) (by decide)).mono ?_
      rintro e w5 ⟨rfl, hb5⟩
      rw [show lastVal (lastOf 2 (Int.toNat 2) fs) = _ from Hl2.out]
      have Hb5 := Lib.hid (Hb4.out.trans (hb5.mono Hb4.out.size))
      have hr5 := (hb5.block _ (lt_of_block Hr4.out)).trans Hr4.out
      have hbx5 := (hb5.block _ (lt_of_block Hbx4.out)).trans Hbx4.out
      obtain ⟨W, hW⟩ : ∃ W, W = w5.alloc (.cells (fcells A2 B2 C2 vs) 73) := ⟨_, rfl⟩
      have HW := Lib.hid hW
      have h56 : Below w5.heap.size w5 W := by rw [hW]; exact al w5 _
      have Hb0 := Lib.hid (Hb5.out.trans (h56.mono Hb5.out.size))
      have Hres := Lib.hid ((h56.block _ (lt_of_block hr5)).trans hr5)
      have Hbk := Lib.hid ((h56.block _ (lt_of_block hbx5)).trans hbx5)
      have Hbv := Lib.hid (show W.heap[w5.heap.size]? = some (.cells (fcells A2 B2 C2 vs) 73 (0, 0)) by rw [hW]; exact blk_new w5 _)
      obtain ⟨a0, a1, a2, a3⟩ := box4 Hbk.out
      obtain ⟨b0, b1, b2, b3⟩ := box4 Hbv.out
      have Hltv := Lib.hid (lt_of_block Hbv.out)
      have Hltk := Lib.hid (lt_of_block Hbk.out)
      have Hltr := Lib.hid (lt_of_block Hres.out)
      have Hcall := Lib.hid (Ih.out vs W.drew ((HT.out.under Hb0.out).under (Below.refl _ _).drew) (by have := Hv0.out; omega))
      clear hW h56 hr5 hbx5 hb5
      go_wp2
      rw [← HW.out]
      cases hm : rmsg n vs with
      | error c =>
        rw [hm] at Hcall HRG2
        clear hm
        have HRc := Lib.hid (show rpairG (rmsg n) s = .error c from HRG2.out)
        refine wp_region_any (by kernel_rfl) ?_
        refine wpAny_take (i := 0) (v := ?pv0) rfl (by kernel_rfl) (by kernel_rfl) (by kernel_rfl) (fun _ _ _ h => h) (Or.inl ⟨by rfl, ?ph0⟩) ?pr0
        case ph0 => (intro w; go_simp; first | done | (with_reducible rfl))
        refine wpAny_take (i := 2) (v := ?pv2) rfl (by kernel_rfl) (by kernel_rfl) (by kernel_rfl) (fun _ _ _ h => h) (Or.inl ⟨by rfl, ?ph2⟩) ?pr2
        case ph2 => (intro w; go_simp; first | done | (with_reducible rfl))
        refine wpAny_take (i := 4) (v := ?pv4) rfl (by kernel_rfl) (by kernel_rfl) (by kernel_rfl) (fun _ _ _ h => h) (Or.inl ⟨by rfl, ?ph4⟩) ?pr4
        case ph4 => (intro w; go_simp; first | done | (with_reducible rfl))
        refine wpAny_ready (rs := [1, 3]) (by kernel_rfl) (by simp) ?_
        refine AllReady.cons rfl (fun K hK => ?_) ?_
        · skip
          go_simp
          refine hK _ _ ?_
          clear hK K
          refine wpAny_ready (rs := [3]) (by kernel_rfl) (by simp) ?_
          refine AllReady.cons rfl (fun K hK => ?_) AllReady.nil
          go_simp
          refine hK _ _ ?_
          clear hK K
          refine wpAny_ready (rs := [5]) (by kernel_rfl) (by simp) ?_
          refine AllReady.cons rfl (fun K hK => ?_) AllReady.nil
          go_simp
          refine (Hcall.out).mono ?_
          rintro e w1 ⟨rfl, hb1⟩
          exact ⟨rfl, by rw [HRc.out]; exact ⟨rfl, Hb0.out.trans ((below_drew hb1).mono Hb0.out.size)⟩⟩
        refine AllReady.cons rfl (fun K hK => ?_) AllReady.nil
        go_simp
        refine hK _ _ ?_
        clear hK K
        refine wpAny_ready (rs := [1, 5]) (by kernel_rfl) (by simp) ?_
        refine AllReady.cons rfl (fun K hK => ?_) ?_
        · skip
          go_simp
          refine hK _ _ ?_
          clear hK K
          refine wpAny_ready (rs := [5]) (by kernel_rfl) (by simp) ?_
          refine AllReady.cons rfl (fun K hK => ?_) AllReady.nil
          go_simp
          refine (Hcall.out).mono ?_
          rintro e w1 ⟨rfl, hb1⟩
          exact ⟨rfl, by rw [HRc.out]; exact ⟨rfl, Hb0.out.trans ((below_drew hb1).mono Hb0.out.size)⟩⟩
        refine AllReady.cons rfl (fun K hK => ?_) AllReady.nil
        go_simp
        refine (Hcall.out).mono ?_
        rintro e w1 ⟨rfl, hb1⟩
        exact ⟨rfl, by rw [HRc.out]; exact ⟨rfl, Hb0.out.trans ((below_drew hb1).mono Hb0.out.size)⟩⟩
      | ok x =>
        rw [hm] at Hcall HRG2
        clear hm
        go_region_law (first | (go_simp; go_at_call 23; refine (Hcall.out).mono ?_; rintro e w6 ⟨r1, r2, rfl, hr1, hb1⟩; obtain ⟨u1, v1, rfl, _⟩ := hr1.parts.2.1.form; obtain ⟨u2, v2, rfl, _⟩ := hr1.parts.2.2.form; obtain ⟨s0, s1, s2, s3⟩ := box4 (((below_drew hb1).block _ Hltk.out).trans Hbk.out); obtain ⟨⟨h0, h1, h2, h3, h4, h5, h6, h7⟩, g0, g1, g2, g3, g4, g5, g6, g7⟩ := zero_box8 (((below_drew hb1).block _ Hltr.out).trans Hres.out)))
        all_goals
          have Hbw1 := Lib.hid (Hb0.out.trans ((below_drew hb1).mono Hb0.out.size))
          have Hr1 := Lib.hid hr1
          have Hsz := Lib.hid (show w.heap.size + 1 ≤ W.heap.size from Hltr.out)
          clear hb1 hr1 s0 s1 s2 s3
          go_wp2
          refine bodyPost_ret (v := .agg (pv (BA ks) x (.slice u1 x.l.length v1) (.slice u2 x.p.length v2))) (by simp [results, Tryz.results31, go_sem, h0, h1, h2, h3, h4, h5, h6, h7]) rfl ?_
          rw [HRG2.out]
          exact ⟨by have := Hk0.out; show ks.length ≤ _; omega, _, _, rfl, Hr1.out.keep ⟨by simp [World.setCell], fun g hg _ => (far_set (far_set (far_set (far_set (far_set (far_set (far_set (far_set (fun _ _ => rfl) (by simp)) (by simp)) (by simp)) (by simp)) (by simp)) (by simp)) (by simp)) (by simp)) g (Nat.le_trans Hsz.out hg.1)⟩ (fun g hg _ => ⟨by have := Hsz.out; have hg' : W.heap.size ≤ g := hg.1; omega, hg.2.keep ((far_set (far_set (far_set (far_set (far_set (far_set (far_set (far_set (fun _ _ => rfl) (by simp)) (by simp)) (by simp)) (by simp)) (by simp)) (by simp)) (by simp)) (by simp)) g (Nat.le_trans Hsz.out hg.1))⟩), set8 Hbw1.out _ _ _ _ _ _ _ _⟩
    · have Hne := Lib.hid hk
      have HRc := Lib.hid (show rpairG (rmsg n) s = .error (keyErr (BA ks)) by rw [HRG.out, if_neg hk])
      refine (Hkey.out).mono ?_
      intro e w4 hc
      obtain ⟨rfl, hb4⟩ := hc.no Hne.out
      exact ⟨rfl, by rw [HRc.out]; exact ⟨rfl, Hb3.out.trans (hb4.mono Hb3.out.size)⟩⟩
end Go.Proofs.YtnnnnlcpmocnfaaGreatDoor
