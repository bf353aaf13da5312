/- THE WALK OVER the document's done. -/
import Derived.Test.YtcefhcailhediaaDdm
import Derived.Test.YtcefhcailhediaaCpy2
import Derived.Test.YtcefhcailhediaaDcr
namespace Go.Proofs.Ytcefhcailhediaa
open Go.RowKit
set_option linter.unusedVariables false
set_option linter.unusedSimpArgs false


theorem drefq1 {fs : List F} {nm dt : ByteArray} {z : Int} {f : F} (hR : Right fs) (h : ref fs ⟨1, nm, dt, z⟩ = 0) (hm : f ∈ fs) : f.name ≠ nm := by
  intro e
  have hx := (found_iff hR (b := nm) (f := f)).2 ⟨hm, e⟩
  unfold ref at h
  simp only [if_true, hx] at h
  split at h <;> simp at h
theorem drefq2 {fs : List F} {nm dt : ByteArray} {z : Int} (h : ref fs ⟨2, nm, dt, z⟩ = 0) : dt.size ≤ 262144 := by
  unfold ref at h
  simp only at h
  cases hf : found fs nm with
  | none => rw [hf] at h; simp at h
  | some f => rw [hf] at h; simp at h; omega
theorem drefq4 {fs : List F} {nm dt : ByteArray} {z : Int} {f : F} (hR : Right fs) (h : ref fs ⟨4, nm, dt, z⟩ = 0) (hm : f ∈ fs) (hn : f.name = nm) : 0 ≤ z ∧ z ≤ (f.data.size : Int) := by
  have hx := (found_iff hR (b := nm) (f := f)).2 ⟨hm, hn⟩
  unfold ref at h
  simp [hx] at h
  omega

set_option maxHeartbeats 8000000 in
set_option maxRecDepth 10000 in
theorem ddone_1 (w : World) (ad : Option Addr) (n cap : Nat) (down : Bool) (fuse fault : Int) (fs : List F) (nm dt : ByteArray) (z : Int) (h : Inp w w.heap.size ad n cap fs) (hR : Right fs) (hn : nm.size ≤ 9223372036854775807) (hd : dt.size ≤ 9223372036854775807) (hz0 : -9223372036854775808 ≤ z) (hz1 : z ≤ 9223372036854775807)
    (h0 : ref fs ⟨1, nm, dt, z⟩ = 0) :
    Calls Try.prog 31 #[.agg (dcells (.slice ad n cap) down fuse fault), .agg (scells 1 nm dt z)] w fun e w' => ∃ ad3 n3 cap3, e = .returned (.agg (dcells (.slice ad3 n3 cap3) down fuse fault)) ∧ Inp w' w'.heap.size ad3 n3 cap3 (eff fs ⟨1, nm, dt, z⟩) ∧ Below w.heap.size w w' ∧ ∀ b, (Value.slice ad3 n3 cap3).ownBlock = some b → w.heap.size ≤ b := by
  have hb0 : Below w.heap.size w (((w.alloc (.cells (dcells (.slice ad n cap) down fuse fault) 24)).alloc (.cells (scells 1 nm dt z) 27)).alloc (.cells #[.slice none 0 0, .bool false, .int .i64 0, .int .i64 0] 24)) := (((Below.refl _ w).alloc (Nat.le_refl _) _).alloc (by simp) _).alloc (by simp; omega) _
  have hx : (((w.alloc (.cells (dcells (.slice ad n cap) down fuse fault) 24)).alloc (.cells (scells 1 nm dt z) 27)).alloc (.cells #[.slice none 0 0, .bool false, .int .i64 0, .int .i64 0] 24)).heap[w.heap.size]? = some (.cells (dcells (.slice ad n cap) down fuse fault) 24) := blk_alloc (blk_alloc (blk_new w _) _) _
  have hy : (((w.alloc (.cells (dcells (.slice ad n cap) down fuse fault) 24)).alloc (.cells (scells 1 nm dt z) 27)).alloc (.cells #[.slice none 0 0, .bool false, .int .i64 0, .int .i64 0] 24)).heap[w.heap.size + 1]? = some (.cells (scells 1 nm dt z) 27) := by
    have := blk_new (w.alloc (.cells (dcells (.slice ad n cap) down fuse fault) 24)) (.cells (scells 1 nm dt z) 27)
    exact blk_alloc (by simpa using this) _
  have hq : (((w.alloc (.cells (dcells (.slice ad n cap) down fuse fault) 24)).alloc (.cells (scells 1 nm dt z) 27)).alloc (.cells #[.slice none 0 0, .bool false, .int .i64 0, .int .i64 0] 24)).heap[w.heap.size + 2]? = some (.cells #[.slice none 0 0, .bool false, .int .i64 0, .int .i64 0] 24) := by
    have := blk_new ((w.alloc (.cells (dcells (.slice ad n cap) down fuse fault) 24)).alloc (.cells (scells 1 nm dt z) 27)) (.cells #[.slice none 0 0, .bool false, .int .i64 0, .int .i64 0] 24)
    simpa using this
  obtain ⟨i0, hi0, hz0', hz1', hz2'⟩ := info_parts Try.info46
  have h64 : n ≤ 64 := by have := h.1; have := hR.1; omega
  have Hnl := Lib.hid (show n = fs.length from h.1)
  have Heff := Lib.hid (dnL_eff (s := ⟨1, nm, dt, z⟩) hR (by simp) h0)
  have Hlen := Lib.hid (dnL_len (s := ⟨1, nm, dt, z⟩) false fs)
  have Hcp := Lib.hid (copyW_any _ ad n cap down fuse fault fs (h.under hb0) (by omega))
  have Hb0 := Lib.hid hb0
  have Hx := Lib.hid hx
  have Hy := Lib.hid hy
  have Hq := Lib.hid hq
  have HR := Lib.hid hR
  have H0 := Lib.hid h0
  clear h hb0 hx hy hq hR h0
  go_enter Try.func31, Try.ntmps31
  go_wp2_with fail
  refine (Hcp.out).mono ?_
  rintro e w1 ⟨ad2, cap2, rfl, hi, hb1, hf⟩
  have hX1 : Dk w1 w.heap.size 24 (.slice ad n cap) down fuse fault := (hb1.block _ (Array.getElem?_eq_some_iff.1 Hx.out).1).trans Hx.out
  have hY1 := (hb1.block _ (Array.getElem?_eq_some_iff.1 Hy.out).1).trans Hy.out
  have hQ1 : Dk w1 (w.heap.size + 2) 24 (.slice none 0 0) false 0 0 := (hb1.block _ (Array.getElem?_eq_some_iff.1 Hq.out).1).trans Hq.out
  have hlQ : w.heap.size + 2 < w1.heap.size := hQ1.lt
  have hV := Var.put (down := down) (fuse := fuse) (fault := fault) hX1 hi (fun e => by have := hf _ e; simp at this; omega)
  have hb2 := below_put (Hb0.out.trans (hb1.mono Hb0.out.size)) (q := w.heap.size) (Nat.le_refl _) (.slice ad2 n cap2) (.bool down) (.int .i64 fuse) (.int .i64 fault)
  have far : ∀ k, k ≠ w.heap.size → ((((w1.setCell ⟨w.heap.size, 0, none⟩ (.slice ad2 n cap2)).setCell ⟨w.heap.size, 1, none⟩ (.bool down)).setCell ⟨w.heap.size, 2, none⟩ (.int .i64 fuse)).setCell ⟨w.heap.size, 3, none⟩ (.int .i64 fault)).heap[k]? = w1.heap[k]? := fun k hk => by
    rw [Below.heap_setCell _ _ _ k hk, Below.heap_setCell _ _ _ k hk, Below.heap_setCell _ _ _ k hk, Below.heap_setCell _ _ _ k hk]
  have hY2 := (far (w.heap.size + 1) (by omega)).trans hY1
  have hQ2 : Dk _ (w.heap.size + 2) 24 (.slice none 0 0) false 0 0 := (far (w.heap.size + 2) (by omega)).trans hQ1
  obtain ⟨⟨d0, d1, d2, d3⟩, m0, m1, m2, m3⟩ := hX1.facts
  have hlX := hX1.lt
  obtain ⟨W1, hW⟩ : ∃ W, ((((w1.setCell ⟨w.heap.size, 0, none⟩ (.slice ad2 n cap2)).setCell ⟨w.heap.size, 1, none⟩ (.bool down)).setCell ⟨w.heap.size, 2, none⟩ (.int .i64 fuse)).setCell ⟨w.heap.size, 3, none⟩ (.int .i64 fault)) = W := ⟨_, rfl⟩
  have hWs : W1.heap.size = w1.heap.size := by rw [← hW]; simp [World.setCell]
  rw [hW] at hV hb2 hY2 hQ2
  have HV := Lib.hid hV
  have HB2 := Lib.hid hb2
  have HY2 := Lib.hid hY2
  have HQ2 := Lib.hid hQ2
  have HW := Lib.hid hW
  have HWs := Lib.hid hWs
  have HS := Lib.hid (box4 hY1)
  obtain ⟨y0, y1, y2, y3⟩ := box4 hY1
  clear hX1 hY1 hQ1 hV hb2 far hY2 hQ2 hi hb1 hf hW hWs Hx Hy Hq Hb0 Hcp
  go_wp2
  clear d0 d1 d2 d3 m0 m1 m2 m3 y0 y1 y2 y3
  go_loopw [5, 6, 17] (fun v p i wr => ∃ (j : Nat) (put : Bool) (out : List F), i = .int .i64 (j : Int) ∧ j ≤ n ∧ p = .bool put ∧ Below w1.heap.size W1 wr ∧ FRow wr w1.heap.size v out ∧ out ++ dnL ⟨1, nm, dt, z⟩ put (fs.drop j) = dnL ⟨1, nm, dt, z⟩ false fs) (fun _ _ i _ => n - (intOf i).toNat)
  case atStart => exact ⟨0, false, [], rfl, by omega, rfl, by rw [← HW.out]; exact Below.refl _ _, World.ownsRow_nil _ _ _ _, rfl⟩
  case round =>
    obtain ⟨j, put, out, rfl, hj, rfl, hbel, hrow, heq⟩ := hrel
    have Hbel := Lib.hid hbel
    have Hrow := Lib.hid hrow
    have hout : out.length ≤ 65 := by have h1 := congrArg List.length heq; rw [List.length_append] at h1; have h2 := Hlen.out; have h3 := Hnl.out; omega
    have hbelW : Below W1.heap.size W1 wr := by rw [HWs.out]; exact hbel
    have hVr := HV.out.under hbelW
    have hYr := (hbelW.block _ (Array.getElem?_eq_some_iff.1 HY2.out).1).trans HY2.out
    have hQr := HQ2.out.keep hbelW HQ2.out.lt
    obtain ⟨y0, y1, y2, y3⟩ := box4 hYr
    obtain ⟨⟨d0, d1, d2, d3⟩, m0, m1, m2, m3⟩ := hVr.d.facts
    have hlY : w.heap.size + 1 < wr.heap.size := (Array.getElem?_eq_some_iff.1 hYr).1
    have hlX := hVr.d.lt
    have hlQ2 := hQr.lt
    have hsz : w1.heap.size ≤ wr.heap.size := by have h1 := hbelW.size; rw [HWs.out] at h1; exact h1
    by_cases hlt : j < n
    · have hfl : j < fs.length := by have := Hnl.out; omega
      have hne : fs ≠ [] := by rintro rfl; simp at hfl
      obtain ⟨g, off, rfl, hg, hi⟩ := hVr.i.2.2.2 hne
      obtain ⟨f, hf⟩ : ∃ f, fs[j]? = some f := ⟨fs[j], by simp⟩
      obtain ⟨q0, q1, q2⟩ := hi j f hf
      have hmem := List.mem_of_getElem? hf
      have hok := HR.out.ok f hmem
      have hs1 := hok.2.1
      have hs2 := hok.2.2.1
      have hs3 := hok.2.2.2
      have hjn : (j : Int) < (n : Int) := by omega
      have hj0 : (0 : Int) ≤ (j : Int) := by omega
      have hdrop : fs.drop j = f :: fs.drop (j + 1) := by
        rw [List.drop_eq_getElem_cons hfl]
        congr 1
        have := List.getElem?_eq_getElem hfl
        rw [hf] at this
        injection this with this
        exact this.symm
      rw [hdrop] at heq
      have hnm : f.name ≠ nm := fun e => drefq1 HR.out H0.out hmem e
      have e1 := str_not hnm
      cases put with
      | true =>
        have Heq2 := Lib.hid (show (out ++ [f]) ++ dnL ⟨1, nm, dt, z⟩ true (fs.drop (j + 1)) = dnL ⟨1, nm, dt, z⟩ false fs from by rw [← heq]; simp [dnL, one, hnm])
        have hal := ((Below.refl wr.heap.size wr).alloc (Nat.le_refl _) (.cells (fcells f.name f.data f.syn) 46)).alloc (by simp) (.cells (fcells f.name f.data f.syn) 46)
        have Hal := Lib.hid hal
        have hnews := news3 (wr.alloc (.cells (fcells f.name f.data f.syn) 46)) f
        rw [show (wr.alloc (.cells (fcells f.name f.data f.syn) 46)).heap.size = wr.heap.size + 1 by simp] at hnews
        have Hnews := Lib.hid hnews
        have Hown := Lib.hid (World.ownsRow.alloc (World.ownsRow.alloc Hrow.out (.cells (fcells f.name f.data f.syn) 46)) (.cells (fcells f.name f.data f.syn) 46))
        clear hnm  hi hf hdrop hne hal hnews hbelW hVr hYr hQr heq hok hmem hg hbel hrow
        go_wp2_with (at_builtin; refine wpList_append_own_at _ rfl _ _ 22 rfl w1.heap.size 46 i0 _ 3 40 Try.underlying22 hi0 hz0' hz1' hz2' rfl (by decide) _ out.length _ rfl Hown.out ⟨wr.heap.size + 1, 0, none⟩ 1 1 (fc f) rfl rfl Hnews.out (fc1 _) (by simp [maxLen]; omega) (by omega) (by simp; omega) ?_)
        intro v' w' h1 h2 _ _
        have hb3 := (Hal.out.mono hsz).grown h2 (by simp; omega) (fun k hk => (World.ownsRow.lt Hown.out k hk).1)
        have Hb3 := Lib.hid (Hbel.out.trans hb3)
        have Hr3 := Lib.hid (show FRow w' w1.heap.size v' (out ++ [f]) by unfold FRow; rw [List.length_append, List.flatMap_append]; simpa using h1)
        clear h1 h2 hb3
        go_wp2
        go_roundw
        case rel => exact ⟨j + 1, true, out ++ [f], by go_num, by omega, rfl, Hb3.out, Hr3.out, Heq2.out⟩
        case measure => simp [intOf]; omega
      | false =>
        cases hrise : Op.bytesLess nm.toList f.name.toList with
        | true =>
          have hl2 : lt nm f.name = true := hrise
          have hr2 : Op.bytesLess f.name.toList nm.toList = false := Bool.eq_false_iff.2 (lt_asym hl2)
          have Heq2 := Lib.hid (show (out ++ [⟨nm, ⟨#[]⟩, 0⟩] ++ [f]) ++ dnL ⟨1, nm, dt, z⟩ true (fs.drop (j + 1)) = dnL ⟨1, nm, dt, z⟩ false fs from by rw [← heq]; simp [dnL, one, hnm, hl2])
          have hal := ((Below.refl wr.heap.size wr).alloc (Nat.le_refl _) (.cells (fcells f.name f.data f.syn) 46)).alloc (by simp) (.cells (fcells nm ⟨#[]⟩ 0) 46)
          have Hal := Lib.hid hal
          have hnews := news3 (wr.alloc (.cells (fcells f.name f.data f.syn) 46)) ⟨nm, ⟨#[]⟩, 0⟩
          rw [show (wr.alloc (.cells (fcells f.name f.data f.syn) 46)).heap.size = wr.heap.size + 1 by simp] at hnews
          have Hnews := Lib.hid hnews
          have Hown := Lib.hid (World.ownsRow.alloc (World.ownsRow.alloc Hrow.out (.cells (fcells f.name f.data f.syn) 46)) (.cells (fcells nm ⟨#[]⟩ 0) 46))
          have Hbx := Lib.hid (show ((wr.alloc (.cells (fcells f.name f.data f.syn) 46)).alloc (.cells (fcells nm ⟨#[]⟩ 0) 46)).heap[wr.heap.size]? = some (.cells (fcells f.name f.data f.syn) 46) from blk_alloc (blk_new wr _) _)
          clear hnm hl2 hi hf hdrop hne hal hnews hbelW hVr hYr hQr heq hok hmem hg hbel hrow
          go_wp2_with (at_builtin; refine wpList_append_own_at _ rfl _ _ 22 rfl w1.heap.size 46 i0 _ 3 40 Try.underlying22 hi0 hz0' hz1' hz2' rfl (by decide) _ out.length _ rfl Hown.out ⟨wr.heap.size + 1, 0, none⟩ 1 1 (fc ⟨nm, ⟨#[]⟩, 0⟩) rfl rfl Hnews.out (fc1 _) (by simp [maxLen]; omega) (by omega) (by simp; omega) ?_)
          intro v1 w4 h1 h2 _ _
          have hb3 := (Hal.out.mono hsz).grown h2 (by simp; omega) (fun k hk => (World.ownsRow.lt Hown.out k hk).1)
          have hbx := (h2.block wr.heap.size (by simp; omega) (fun e => by have h5 := (World.ownsRow.lt Hrow.out wr.heap.size (by first | exact e | exact e.symm)).2; omega)).trans Hbx.out
          have hy4 := (hb3.cell (p := ⟨w.heap.size + 1, 1, none⟩) (by show w.heap.size + 1 < w1.heap.size; omega)).trans y1
          have hr4 : FRow w4 w1.heap.size v1 (out ++ [⟨nm, ⟨#[]⟩, 0⟩]) := by unfold FRow; rw [List.length_append, List.flatMap_append]; simpa using h1
          obtain ⟨O, hO⟩ : ∃ O, out ++ [(⟨nm, ⟨#[]⟩, 0⟩ : F)] = O := ⟨_, rfl⟩
          have hOl : O.length = out.length + 1 := by rw [← hO]; simp
          rw [hO] at hr4 Heq2
          have hlt4 : wr.heap.size < w4.heap.size := (Array.getElem?_eq_some_iff.1 hbx).1
          have hal4 := (Below.refl w4.heap.size w4).alloc (Nat.le_refl _) (.cells (fcells f.name f.data f.syn) 46)
          have Hb4 := Lib.hid (Hbel.out.trans (hb3.trans (hal4.mono (by omega))))
          have Hown4 := Lib.hid (World.ownsRow.alloc hr4 (.cells (fcells f.name f.data f.syn) 46))
          have Hnews4 := Lib.hid (news3 w4 f)
          have HOl := Lib.hid hOl
          obtain ⟨x0, x1, x2⟩ := box3 hbx
          clear y0 y1 y2 y3 d0 d1 d2 d3 m0 m1 m2 m3 q0 q1 q2 h1 h2 hb3 hbx hO hr4 hal4 hOl
          go_wp2_with (at_builtin; refine wpList_append_own_at _ rfl _ _ 22 rfl w1.heap.size 46 i0 _ 3 40 Try.underlying22 hi0 hz0' hz1' hz2' rfl (by decide) _ O.length _ rfl Hown4.out ⟨w4.heap.size, 0, none⟩ 1 1 (fc f) rfl rfl Hnews4.out (fc1 _) (by have := HOl.out; simp [maxLen]; omega) (by have := HOl.out; omega) (by simp; omega) ?_)
          intro v' w' h1 h2 _ _
          have Hb5 := Lib.hid (Hb4.out.grown h2 (by simp; omega) (fun k hk => (World.ownsRow.lt Hown4.out k hk).1))
          have Hr5 := Lib.hid (show FRow w' w1.heap.size v' (O ++ [f]) by unfold FRow; rw [List.length_append, List.flatMap_append]; simpa using h1)
          clear h1 h2
          go_wp2
          go_roundw
          case rel => exact ⟨j + 1, true, O ++ [f], by go_num, by omega, rfl, Hb5.out, Hr5.out, Heq2.out⟩
          case measure => simp [intOf]; omega
        | false =>
          have hlf : lt nm f.name = false := hrise
          have hr2 : Op.bytesLess f.name.toList nm.toList = true := lt_tri (a := nm) (b := f.name) (by rw [hlf]; decide) (fun e => hnm e.symm)
          have Heq2 := Lib.hid (show (out ++ [f]) ++ dnL ⟨1, nm, dt, z⟩ false (fs.drop (j + 1)) = dnL ⟨1, nm, dt, z⟩ false fs from by rw [← heq]; simp [dnL, one, hnm, hlf])
          have hal := ((Below.refl wr.heap.size wr).alloc (Nat.le_refl _) (.cells (fcells f.name f.data f.syn) 46)).alloc (by simp) (.cells (fcells f.name f.data f.syn) 46)
          have Hal := Lib.hid hal
          have hnews := news3 (wr.alloc (.cells (fcells f.name f.data f.syn) 46)) f
          rw [show (wr.alloc (.cells (fcells f.name f.data f.syn) 46)).heap.size = wr.heap.size + 1 by simp] at hnews
          have Hnews := Lib.hid hnews
          have Hown := Lib.hid (World.ownsRow.alloc (World.ownsRow.alloc Hrow.out (.cells (fcells f.name f.data f.syn) 46)) (.cells (fcells f.name f.data f.syn) 46))
          clear hnm hlf hi hf hdrop hne hal hnews hbelW hVr hYr hQr heq hok hmem hg hbel hrow
          go_wp2_with (at_builtin; refine wpList_append_own_at _ rfl _ _ 22 rfl w1.heap.size 46 i0 _ 3 40 Try.underlying22 hi0 hz0' hz1' hz2' rfl (by decide) _ out.length _ rfl Hown.out ⟨wr.heap.size + 1, 0, none⟩ 1 1 (fc f) rfl rfl Hnews.out (fc1 _) (by simp [maxLen]; omega) (by omega) (by simp; omega) ?_)
          intro v' w' h1 h2 _ _
          have hb3 := (Hal.out.mono hsz).grown h2 (by simp; omega) (fun k hk => (World.ownsRow.lt Hown.out k hk).1)
          have Hb3 := Lib.hid (Hbel.out.trans hb3)
          have Hr3 := Lib.hid (show FRow w' w1.heap.size v' (out ++ [f]) by unfold FRow; rw [List.length_append, List.flatMap_append]; simpa using h1)
          clear h1 h2 hb3
          go_wp2
          go_roundw
          case rel => exact ⟨j + 1, false, out ++ [f], by go_num, by omega, rfl, Hb3.out, Hr3.out, Heq2.out⟩
          case measure => simp [intOf]; omega
    · rw [List.drop_of_length_le (by have := Hnl.out; omega)] at heq
      cases put with
      | true =>
        have HEff := Lib.hid (show out = eff fs ⟨1, nm, dt, z⟩ by rw [← Heff.out]; simpa [dnL] using heq)
        obtain ⟨ad3, cap3, hv3, hc1, hc2, hf2⟩ := hrow.fls
        subst hv3
        have hI : Inp wr wr.heap.size ad3 out.length cap3 out := ⟨rfl, hc1, hc2, hf2⟩
        have hneX : (Value.slice ad3 out.length cap3).ownBlock ≠ some w.heap.size := fun e => by have := (hrow.lt _ e).1; omega
        have hneY : (Value.slice ad3 out.length cap3).ownBlock ≠ some (w.heap.size + 2) := fun e => by have := (hrow.lt _ e).1; omega
        have hE2 : Dk (wr.setCell ⟨w.heap.size, 0, none⟩ (.slice ad3 out.length cap3)) (w.heap.size + 2) 24 (.slice none 0 0) false 0 0 := (Below.heap_setCell wr ⟨w.heap.size, 0, none⟩ _ (w.heap.size + 2) (by simp)).trans hQr
        have hF := Var.put (down := down) (fuse := fuse) (fault := fault) hE2 (Inp.set (o := 0) (u := .slice ad3 out.length cap3) hI hneX |>.mono (by simp [World.setCell])) hneY
        obtain ⟨⟨r0, r1, r2, r3⟩, _⟩ := hF.d.facts
        obtain ⟨⟨k0, k1, k2, k3⟩, l0, l1, l2, l3⟩ := hQr.facts
        have HF := Lib.hid hF.i
        have Hown9 := Lib.hid (show ∀ b, (Value.slice ad3 out.length cap3).ownBlock = some b → w.heap.size ≤ b from fun b e => by have := (hrow.lt _ e).1; omega)
        have Hb9 := Lib.hid (below_put ((HB2.out.trans (hbelW.mono HB2.out.size)).setCell (p := ⟨w.heap.size, 0, none⟩) (Nat.le_refl _) (.slice ad3 out.length cap3)) (q := w.heap.size + 2) (by omega) (.slice ad3 out.length cap3) (.bool down) (.int .i64 fuse) (.int .i64 fault))
        clear hrow hVr hYr hQr hbelW hI hneX hneY hE2 hF hf2 hc1 hc2 heq hbel
        go_wp2
        refine bodyPost_ret (v := .agg (dcells (.slice ad3 out.length cap3) down fuse fault)) (by simp [results, Try.results31, go_sem, r0, r1, r2, r3]) rfl ⟨ad3, out.length, cap3, rfl, ?_, Hb9.out, Hown9.out⟩
        rw [← HEff.out]
        exact HF.out
      | false =>
        have HEff := Lib.hid (show out ++ [⟨nm, ⟨#[]⟩, 0⟩] = eff fs ⟨1, nm, dt, z⟩ by rw [← Heff.out]; simpa [dnL] using heq)
        have Hnews := Lib.hid (news3 wr ⟨nm, ⟨#[]⟩, 0⟩)
        have hal := (Below.refl wr.heap.size wr).alloc (Nat.le_refl _) (.cells (fcells nm ⟨#[]⟩ 0) 46)
        have Hal := Lib.hid (hal.mono hsz)
        have Hown := Lib.hid (World.ownsRow.alloc Hrow.out (.cells (fcells nm ⟨#[]⟩ 0) 46))
        have HbW := Lib.hid hbelW
        have HVr := Lib.hid hVr
        have HQr := Lib.hid hQr
        clear hal hbelW hVr hYr hQr heq hbel hrow
        go_wp2_with (at_builtin; refine wpList_append_own_at _ rfl _ _ 22 rfl w1.heap.size 46 i0 _ 3 40 Try.underlying22 hi0 hz0' hz1' hz2' rfl (by decide) _ out.length _ rfl Hown.out ⟨wr.heap.size, 0, none⟩ 1 1 (fc ⟨nm, ⟨#[]⟩, 0⟩) rfl rfl Hnews.out (fc1 _) (by simp [maxLen]; omega) (by omega) (by simp; omega) ?_)
        intro v1 w4 h1 h2 _ _
        have hb3 := Hal.out.grown h2 (by simp; omega) (fun k hk => (World.ownsRow.lt Hown.out k hk).1)
        have hr4 : FRow w4 w1.heap.size v1 (out ++ [⟨nm, ⟨#[]⟩, 0⟩]) := by unfold FRow; rw [List.length_append, List.flatMap_append]; simpa using h1
        obtain ⟨O, hO⟩ : ∃ O, out ++ [(⟨nm, ⟨#[]⟩, 0⟩ : F)] = O := ⟨_, rfl⟩
        rw [hO] at hr4 HEff
        have hQ4 := HQr.out.keep hb3 (by omega)
        have hD4 := HVr.out.d.keep hb3 (by omega)
        have hb4 : Below w.heap.size w w4 := HB2.out.trans ((Hbel.out.trans hb3).mono (by omega))
        clear d0 d1 d2 d3 m0 m1 m2 m3 y0 y1 y2 y3 h1 h2 hO
        obtain ⟨⟨d0, d1, d2, d3⟩, m0, m1, m2, m3⟩ := hD4.facts
        have hlX4 := hD4.lt
        have hlQ4 := hQ4.lt
        obtain ⟨ad3, cap3, hv3, hc1, hc2, hf2⟩ := hr4.fls
        subst hv3
        have hI : Inp w4 w4.heap.size ad3 O.length cap3 O := ⟨rfl, hc1, hc2, hf2⟩
        have hneX : (Value.slice ad3 O.length cap3).ownBlock ≠ some w.heap.size := fun e => by have := (hr4.lt _ e).1; omega
        have hneY : (Value.slice ad3 O.length cap3).ownBlock ≠ some (w.heap.size + 2) := fun e => by have := (hr4.lt _ e).1; omega
        have hE2 : Dk (w4.setCell ⟨w.heap.size, 0, none⟩ (.slice ad3 O.length cap3)) (w.heap.size + 2) 24 (.slice none 0 0) false 0 0 := (Below.heap_setCell w4 ⟨w.heap.size, 0, none⟩ _ (w.heap.size + 2) (by simp)).trans hQ4
        have hF := Var.put (down := down) (fuse := fuse) (fault := fault) hE2 (Inp.set (o := 0) (u := .slice ad3 O.length cap3) hI hneX |>.mono (by simp [World.setCell])) hneY
        obtain ⟨⟨r0, r1, r2, r3⟩, _⟩ := hF.d.facts
        obtain ⟨⟨k0, k1, k2, k3⟩, l0, l1, l2, l3⟩ := hQ4.facts
        have HF := Lib.hid hF.i
        have Hown9 := Lib.hid (show ∀ b, (Value.slice ad3 O.length cap3).ownBlock = some b → w.heap.size ≤ b from fun b e => by have := (hr4.lt _ e).1; omega)
        have Hb9 := Lib.hid (below_put ((hb4).setCell (p := ⟨w.heap.size, 0, none⟩) (Nat.le_refl _) (.slice ad3 O.length cap3)) (q := w.heap.size + 2) (by omega) (.slice ad3 O.length cap3) (.bool down) (.int .i64 fuse) (.int .i64 fault))
        clear hr4 hI hneX hneY hE2 hF hf2 hc1 hc2 hb3 hD4 hb4
        go_wp2
        refine bodyPost_ret (v := .agg (dcells (.slice ad3 O.length cap3) down fuse fault)) (by simp [results, Try.results31, go_sem, r0, r1, r2, r3]) rfl ⟨ad3, O.length, cap3, rfl, ?_, Hb9.out, Hown9.out⟩
        rw [← HEff.out]
        exact HF.out
end Go.Proofs.Ytcefhcailhediaa
