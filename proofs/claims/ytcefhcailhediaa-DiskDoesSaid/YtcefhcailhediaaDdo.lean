/- THE WALK OVER the document's Do. -/
import Derived.Test.YtcefhcailhediaaDdn
import Derived.Test.YtcefhcailhediaaDdq
import Derived.Test.YtcefhcailhediaaDoo
import Derived.Deep.Cut
import Derived.IntWalk
namespace Go.Proofs.Ytcefhcailhediaa
open Go.RowKit
set_option linter.unusedVariables false
set_option linter.unusedSimpArgs false

theorem ddone_any (w : World) (ad : Option Addr) (n cap : Nat) (down : Bool) (fuse fault : Int) (fs : List F) (k : Int) (nm dt : ByteArray) (z : Int) (h : Inp w w.heap.size ad n cap fs) (hR : Right fs) (hk : 1 ≤ k ∧ k ≤ 5) (h0 : ref fs ⟨k, nm, dt, z⟩ = 0) (hn : nm.size ≤ 9223372036854775807) (hd : dt.size ≤ 9223372036854775807) (hz0 : -9223372036854775808 ≤ z) (hz1 : z ≤ 9223372036854775807) :
    Calls Try.prog 31 #[.agg (dcells (.slice ad n cap) down fuse fault), .agg (scells k nm dt z)] w fun e w' => ∃ ad3 n3 cap3, e = .returned (.agg (dcells (.slice ad3 n3 cap3) down fuse fault)) ∧ Inp w' w'.heap.size ad3 n3 cap3 (eff fs ⟨k, nm, dt, z⟩) ∧ Below w.heap.size w w' ∧ ∀ b, (Value.slice ad3 n3 cap3).ownBlock = some b → w.heap.size ≤ b := by
  have : k = 1 ∨ k = 2 ∨ k = 3 ∨ k = 4 ∨ k = 5 := by omega
  rcases this with rfl | rfl | rfl | rfl | rfl
  · exact ddone_1 w ad n cap down fuse fault fs nm dt z h hR hn hd hz0 hz1 h0
  · exact ddone_2 w ad n cap down fuse fault fs nm dt z h hR hn hd hz0 hz1 h0
  · exact ddone_3 w ad n cap down fuse fault fs nm dt z h hR hn hd hz0 hz1 h0
  · exact ddone_4 w ad n cap down fuse fault fs nm dt z h hR hn hd hz0 hz1 h0
  · exact ddone_5 w ad n cap down fuse fault fs nm dt z h hR hn hd hz0 hz1 h0

set_option maxHeartbeats 1000000 in
theorem ddo_bad (w : World) (ad : Option Addr) (n cap : Nat) (down : Bool) (fuse fault : Int) (fs : List F) (k : Int) (nm dt : ByteArray) (z : Int) (h : DIn w ad n cap fuse fault fs) (hn : nm.size ≤ 9223372036854775807) (hd : dt.size ≤ 9223372036854775807) (hz0 : -9223372036854775808 ≤ z) (hz1 : z ≤ 9223372036854775807) (hR : ¬ Right fs) :
    Calls Try.prog 11 #[.agg (dcells (.slice ad n cap) down fuse fault), .agg (scells k nm dt z)] w fun e w' => DQ w (zero, 6) e w' := by
  have hb0 : Below w.heap.size w (((w.alloc (.cells (dcells (.slice ad n cap) down fuse fault) 24)).alloc (.cells (scells k nm dt z) 27)).alloc (.cells #[.slice none 0 0, .bool false, .int .i64 0, .int .i64 0] 24)) := (((Below.refl _ w).alloc (Nat.le_refl _) _).alloc (by simp) _).alloc (by simp; omega) _
  have h3 : Three w (.cells (dcells (.slice ad n cap) down fuse fault) 24) (.cells (scells k nm dt z) 27) (.cells #[.slice none 0 0, .bool false, .int .i64 0, .int .i64 0] 24) (((w.alloc (.cells (dcells (.slice ad n cap) down fuse fault) 24)).alloc (.cells (scells k nm dt z) 27)).alloc (.cells #[.slice none 0 0, .bool false, .int .i64 0, .int .i64 0] 24)) := by
    refine ⟨blk_alloc (blk_alloc (blk_new w _) _) _, ?_, ?_⟩
    · have := blk_new (w.alloc (.cells (dcells (.slice ad n cap) down fuse fault) 24)) (.cells (scells k nm dt z) 27)
      exact blk_alloc (by simpa using this) _
    · have := blk_new ((w.alloc (.cells (dcells (.slice ad n cap) down fuse fault) 24)).alloc (.cells (scells k nm dt z) 27)) (.cells #[.slice none 0 0, .bool false, .int .i64 0, .int .i64 0] 24)
      simpa using this
  have Hb0 := Lib.hid hb0
  have H3 := Lib.hid h3
  have H := Lib.hid h
  have Hfit := Lib.hid h.fit
  clear h hb0 h3
  have Hc := Lib.hid (dcheck_no _ ad cap n down fuse fault fs (H.out.i.under Hb0.out) Hfit.out hR)
  clear hR
  go_enter Try.func11, Try.ntmps11
  go_wp2_with fail
  refine (Hc.out).mono ?_
  rintro e w1 ⟨rfl, hb⟩
  have hD : Dk w1 (w.heap.size + 2) 24 (.slice none 0 0) false 0 0 := (H3.out.below hb).q
  obtain ⟨⟨d0, d1, d2, d3⟩, f0, f1, f2, f3⟩ := hD.facts
  have Hb := Lib.hid (Hb0.out.trans (hb.mono Hb0.out.size))
  clear hb hD
  go_wp2
  refine bodyPost_ret (v := .tuple #[.agg (dcells (.slice none 0 0) false 0 0), .int .i64 6]) (by simp [results, Try.results11, go_sem, d0, d1, d2, d3]) rfl ?_
  refine ⟨none, 0, 0, rfl, Inp.nil _ _, ?_⟩
  exact (((Hb.out.setCell (p := ⟨w.heap.size + 2, 0, none⟩) (by simp) _).setCell (p := ⟨w.heap.size + 2, 1, none⟩) (by simp) _).setCell (p := ⟨w.heap.size + 2, 2, none⟩) (by simp) _).setCell (p := ⟨w.heap.size + 2, 3, none⟩) (by simp) _

set_option maxHeartbeats 1000000 in
theorem ddo_kind (w : World) (ad : Option Addr) (n cap : Nat) (down : Bool) (fuse fault : Int) (fs : List F) (k : Int) (nm dt : ByteArray) (z : Int) (h : DIn w ad n cap fuse fault fs) (hn : nm.size ≤ 9223372036854775807) (hd : dt.size ≤ 9223372036854775807) (hz0 : -9223372036854775808 ≤ z) (hz1 : z ≤ 9223372036854775807) (hR : Right fs) (hk : ¬ (1 ≤ k ∧ k ≤ 5)) :
    Calls Try.prog 11 #[.agg (dcells (.slice ad n cap) down fuse fault), .agg (scells k nm dt z)] w fun e w' => DQ w (⟨fs, down, fuse, fault⟩, 5) e w' := by
  have hb0 : Below w.heap.size w (((w.alloc (.cells (dcells (.slice ad n cap) down fuse fault) 24)).alloc (.cells (scells k nm dt z) 27)).alloc (.cells #[.slice none 0 0, .bool false, .int .i64 0, .int .i64 0] 24)) := (((Below.refl _ w).alloc (Nat.le_refl _) _).alloc (by simp) _).alloc (by simp; omega) _
  have h3 : Three w (.cells (dcells (.slice ad n cap) down fuse fault) 24) (.cells (scells k nm dt z) 27) (.cells #[.slice none 0 0, .bool false, .int .i64 0, .int .i64 0] 24) (((w.alloc (.cells (dcells (.slice ad n cap) down fuse fault) 24)).alloc (.cells (scells k nm dt z) 27)).alloc (.cells #[.slice none 0 0, .bool false, .int .i64 0, .int .i64 0] 24)) := by
    refine ⟨blk_alloc (blk_alloc (blk_new w _) _) _, ?_, ?_⟩
    · have := blk_new (w.alloc (.cells (dcells (.slice ad n cap) down fuse fault) 24)) (.cells (scells k nm dt z) 27)
      exact blk_alloc (by simpa using this) _
    · have := blk_new ((w.alloc (.cells (dcells (.slice ad n cap) down fuse fault) 24)).alloc (.cells (scells k nm dt z) 27)) (.cells #[.slice none 0 0, .bool false, .int .i64 0, .int .i64 0] 24)
      simpa using this
  have Hb0 := Lib.hid hb0
  have H3 := Lib.hid h3
  have H := Lib.hid h
  have Hfit := Lib.hid h.fit
  clear h hb0 h3
  have Hc := Lib.hid (dcheck_ok _ ad cap n down fuse fault fs (H.out.i.under Hb0.out) hR)
  have h64 : n ≤ 64 := by have := H.out.i.1; have := hR.1; omega
  have HR := Lib.hid hR
  clear hR
  go_enter Try.func11, Try.ntmps11
  go_wp2_with fail
  refine (Hc.out).mono ?_
  rintro e w1 ⟨rfl, hb⟩
  have ht1 := H3.out.below hb
  have hb1 := Hb0.out.trans (hb.mono Hb0.out.size)
  have HT1 := Lib.hid ht1
  have Hb1 := Lib.hid hb1
  obtain ⟨x0, x1, x2, x3⟩ := box4 ht1.x
  obtain ⟨y0, y1, y2, y3⟩ := box4 ht1.y
  clear hb ht1 hb1
  have Hcp := Lib.hid (copyW_any _ ad n cap down fuse fault fs (H.out.under Hb1.out).i (by omega))
  by_cases hk1 : k < 1
  · have hkd : decide (k < 1) = true := decide_eq_true hk1
    clear hk
    go_wp2_with fail
    refine (Hcp.out).mono ?_
    rintro e w2 ⟨ad2, cap2, rfl, hi, hb, hf⟩
    have ht := HT1.out.below hb
    have hbb := Hb1.out.trans (hb.mono Hb1.out.size)
    have hlt1 : w.heap.size + 2 < w1.heap.size := HT1.out.lt
    clear x0 x1 x2 x3 y0 y1 y2 y3
    have hV := Var.put (down := down) (fuse := fuse) (fault := fault) (show Dk w2 (w.heap.size + 2) 24 (.slice none 0 0) false 0 0 from ht.q) hi (fun e => by have := hf _ e; omega)
    obtain ⟨⟨r0, r1, r2, r3⟩, _⟩ := hV.d.facts
    obtain ⟨⟨q0, q1, q2, q3⟩, g0, g1, g2, g3⟩ := ((show Dk w2 (w.heap.size + 2) 24 (.slice none 0 0) false 0 0 from ht.q)).facts
    have hlq := ((show Dk w2 (w.heap.size + 2) 24 (.slice none 0 0) false 0 0 from ht.q)).lt
    have HV := Lib.hid hV.i
    have HB := Lib.hid (below_put hbb (q := w.heap.size + 2) (by omega) (.slice ad2 n cap2) (.bool down) (.int .i64 fuse) (.int .i64 fault))
    clear hV ht hbb hi hb hf
    go_wp2
    exact bodyPost_ret (v := .tuple #[.agg (dcells (.slice ad2 n cap2) down fuse fault), .int .i64 5]) (by simp [results, Try.results11, go_sem, r0, r1, r2, r3]) rfl ⟨_, _, _, rfl, HV.out, HB.out⟩
  · have hk6 : 6 ≤ k := by omega
    have hkd : decide (k < 1) = false := decide_eq_false hk1
    have hke : decide (6 ≤ k) = true := decide_eq_true hk6
    clear hk
    go_wp2_with fail
    refine (Hcp.out).mono ?_
    rintro e w2 ⟨ad2, cap2, rfl, hi, hb, hf⟩
    have ht := HT1.out.below hb
    have hbb := Hb1.out.trans (hb.mono Hb1.out.size)
    have hlt1 : w.heap.size + 2 < w1.heap.size := HT1.out.lt
    clear x0 x1 x2 x3 y0 y1 y2 y3
    have hV := Var.put (down := down) (fuse := fuse) (fault := fault) (show Dk w2 (w.heap.size + 2) 24 (.slice none 0 0) false 0 0 from ht.q) hi (fun e => by have := hf _ e; omega)
    obtain ⟨⟨r0, r1, r2, r3⟩, _⟩ := hV.d.facts
    obtain ⟨⟨q0, q1, q2, q3⟩, g0, g1, g2, g3⟩ := ((show Dk w2 (w.heap.size + 2) 24 (.slice none 0 0) false 0 0 from ht.q)).facts
    have hlq := ((show Dk w2 (w.heap.size + 2) 24 (.slice none 0 0) false 0 0 from ht.q)).lt
    have HV := Lib.hid hV.i
    have HB := Lib.hid (below_put hbb (q := w.heap.size + 2) (by omega) (.slice ad2 n cap2) (.bool down) (.int .i64 fuse) (.int .i64 fault))
    clear hV ht hbb hi hb hf
    go_wp2
    exact bodyPost_ret (v := .tuple #[.agg (dcells (.slice ad2 n cap2) down fuse fault), .int .i64 5]) (by simp [results, Try.results11, go_sem, r0, r1, r2, r3]) rfl ⟨_, _, _, rfl, HV.out, HB.out⟩

set_option maxHeartbeats 1000000 in
theorem ddo_down (w : World) (ad : Option Addr) (n cap : Nat) (down : Bool) (fuse fault : Int) (fs : List F) (k : Int) (nm dt : ByteArray) (z : Int) (h : DIn w ad n cap fuse fault fs) (hn : nm.size ≤ 9223372036854775807) (hd : dt.size ≤ 9223372036854775807) (hz0 : -9223372036854775808 ≤ z) (hz1 : z ≤ 9223372036854775807) (hR : Right fs) (hk : 1 ≤ k ∧ k ≤ 5) (hdn : down = true) :
    Calls Try.prog 11 #[.agg (dcells (.slice ad n cap) down fuse fault), .agg (scells k nm dt z)] w fun e w' => DQ w (⟨fs, down, fuse, fault⟩, 17) e w' := by
  subst hdn
  have hb0 : Below w.heap.size w (((w.alloc (.cells (dcells (.slice ad n cap) true fuse fault) 24)).alloc (.cells (scells k nm dt z) 27)).alloc (.cells #[.slice none 0 0, .bool false, .int .i64 0, .int .i64 0] 24)) := (((Below.refl _ w).alloc (Nat.le_refl _) _).alloc (by simp) _).alloc (by simp; omega) _
  have h3 : Three w (.cells (dcells (.slice ad n cap) true fuse fault) 24) (.cells (scells k nm dt z) 27) (.cells #[.slice none 0 0, .bool false, .int .i64 0, .int .i64 0] 24) (((w.alloc (.cells (dcells (.slice ad n cap) true fuse fault) 24)).alloc (.cells (scells k nm dt z) 27)).alloc (.cells #[.slice none 0 0, .bool false, .int .i64 0, .int .i64 0] 24)) := by
    refine ⟨blk_alloc (blk_alloc (blk_new w _) _) _, ?_, ?_⟩
    · have := blk_new (w.alloc (.cells (dcells (.slice ad n cap) true fuse fault) 24)) (.cells (scells k nm dt z) 27)
      exact blk_alloc (by simpa using this) _
    · have := blk_new ((w.alloc (.cells (dcells (.slice ad n cap) true fuse fault) 24)).alloc (.cells (scells k nm dt z) 27)) (.cells #[.slice none 0 0, .bool false, .int .i64 0, .int .i64 0] 24)
      simpa using this
  have Hb0 := Lib.hid hb0
  have H3 := Lib.hid h3
  have H := Lib.hid h
  have Hfit := Lib.hid h.fit
  clear h hb0 h3
  have Hc := Lib.hid (dcheck_ok _ ad cap n true fuse fault fs (H.out.i.under Hb0.out) hR)
  have h64 : n ≤ 64 := by have := H.out.i.1; have := hR.1; omega
  have HR := Lib.hid hR
  clear hR
  have hk1 : ¬ k < 1 := by omega
  have hk6 : ¬ 6 ≤ k := by omega
  have hkd : decide (k < 1) = false := decide_eq_false hk1
  have hke : decide (6 ≤ k) = false := decide_eq_false hk6
  have Hk := Lib.hid hk
  clear hk
  go_enter Try.func11, Try.ntmps11
  go_wp2_with fail
  refine (Hc.out).mono ?_
  rintro e w1 ⟨rfl, hb⟩
  have ht1 := H3.out.below hb
  have hb1 := Hb0.out.trans (hb.mono Hb0.out.size)
  have HT1 := Lib.hid ht1
  have Hb1 := Lib.hid hb1
  obtain ⟨x0, x1, x2, x3⟩ := box4 ht1.x
  obtain ⟨y0, y1, y2, y3⟩ := box4 ht1.y
  clear hb ht1 hb1
  have Hcp := Lib.hid (copyW_any _ ad n cap true fuse fault fs (H.out.under Hb1.out).i (by omega))
  go_wp2_with fail
  refine (Hcp.out).mono ?_
  rintro e w2 ⟨ad2, cap2, rfl, hi, hb, hf⟩
  have ht := HT1.out.below hb
  have hbb := Hb1.out.trans (hb.mono Hb1.out.size)
  have hlt1 : w.heap.size + 2 < w1.heap.size := HT1.out.lt
  clear x0 x1 x2 x3 y0 y1 y2 y3
  have hV := Var.put (down := true) (fuse := fuse) (fault := fault) (show Dk w2 (w.heap.size + 2) 24 (.slice none 0 0) false 0 0 from ht.q) hi (fun e => by have := hf _ e; omega)
  obtain ⟨⟨r0, r1, r2, r3⟩, _⟩ := hV.d.facts
  obtain ⟨⟨q0, q1, q2, q3⟩, g0, g1, g2, g3⟩ := ((show Dk w2 (w.heap.size + 2) 24 (.slice none 0 0) false 0 0 from ht.q)).facts
  have hlq := ((show Dk w2 (w.heap.size + 2) 24 (.slice none 0 0) false 0 0 from ht.q)).lt
  have HV := Lib.hid hV.i
  have HB := Lib.hid (below_put hbb (q := w.heap.size + 2) (by omega) (.slice ad2 n cap2) (.bool true) (.int .i64 fuse) (.int .i64 fault))
  clear hV ht hbb hi hb hf
  go_wp2
  exact bodyPost_ret (v := .tuple #[.agg (dcells (.slice ad2 n cap2) true fuse fault), .int .i64 17]) (by simp [results, Try.results11, go_sem, r0, r1, r2, r3]) rfl ⟨_, _, _, rfl, HV.out, HB.out⟩

set_option maxHeartbeats 1000000 in
theorem ddo_ref (w : World) (ad : Option Addr) (n cap : Nat) (down : Bool) (fuse fault : Int) (fs : List F) (k : Int) (nm dt : ByteArray) (z : Int) (h : DIn w ad n cap fuse fault fs) (hn : nm.size ≤ 9223372036854775807) (hd : dt.size ≤ 9223372036854775807) (hz0 : -9223372036854775808 ≤ z) (hz1 : z ≤ 9223372036854775807) (hR : Right fs) (hk : 1 ≤ k ∧ k ≤ 5) (hdn : down = false) (r : Int) (hr : ref fs ⟨k, nm, dt, z⟩ = r) (h0 : ¬ r = 0) :
    Calls Try.prog 11 #[.agg (dcells (.slice ad n cap) down fuse fault), .agg (scells k nm dt z)] w fun e w' => DQ w (⟨fs, down, fuse, fault⟩, r) e w' := by
  subst hdn
  have hb0 : Below w.heap.size w (((w.alloc (.cells (dcells (.slice ad n cap) false fuse fault) 24)).alloc (.cells (scells k nm dt z) 27)).alloc (.cells #[.slice none 0 0, .bool false, .int .i64 0, .int .i64 0] 24)) := (((Below.refl _ w).alloc (Nat.le_refl _) _).alloc (by simp) _).alloc (by simp; omega) _
  have h3 : Three w (.cells (dcells (.slice ad n cap) false fuse fault) 24) (.cells (scells k nm dt z) 27) (.cells #[.slice none 0 0, .bool false, .int .i64 0, .int .i64 0] 24) (((w.alloc (.cells (dcells (.slice ad n cap) false fuse fault) 24)).alloc (.cells (scells k nm dt z) 27)).alloc (.cells #[.slice none 0 0, .bool false, .int .i64 0, .int .i64 0] 24)) := by
    refine ⟨blk_alloc (blk_alloc (blk_new w _) _) _, ?_, ?_⟩
    · have := blk_new (w.alloc (.cells (dcells (.slice ad n cap) false fuse fault) 24)) (.cells (scells k nm dt z) 27)
      exact blk_alloc (by simpa using this) _
    · have := blk_new ((w.alloc (.cells (dcells (.slice ad n cap) false fuse fault) 24)).alloc (.cells (scells k nm dt z) 27)) (.cells #[.slice none 0 0, .bool false, .int .i64 0, .int .i64 0] 24)
      simpa using this
  have Hb0 := Lib.hid hb0
  have H3 := Lib.hid h3
  have H := Lib.hid h
  have Hfit := Lib.hid h.fit
  clear h hb0 h3
  have Hc := Lib.hid (dcheck_ok _ ad cap n false fuse fault fs (H.out.i.under Hb0.out) hR)
  have h64 : n ≤ 64 := by have := H.out.i.1; have := hR.1; omega
  have HR := Lib.hid hR
  clear hR
  have hk1 : ¬ k < 1 := by omega
  have hk6 : ¬ 6 ≤ k := by omega
  have hkd : decide (k < 1) = false := decide_eq_false hk1
  have hke : decide (6 ≤ k) = false := decide_eq_false hk6
  have Hk := Lib.hid hk
  clear hk
  go_enter Try.func11, Try.ntmps11
  go_wp2_with fail
  refine (Hc.out).mono ?_
  rintro e w1 ⟨rfl, hb⟩
  have ht1 := H3.out.below hb
  have hb1 := Hb0.out.trans (hb.mono Hb0.out.size)
  have HT1 := Lib.hid ht1
  have Hb1 := Lib.hid hb1
  obtain ⟨x0, x1, x2, x3⟩ := box4 ht1.x
  obtain ⟨y0, y1, y2, y3⟩ := box4 ht1.y
  clear hb ht1 hb1
  have Hrf := Lib.hid (drefuses_any _ ad n cap false fuse fault fs k nm dt z (H.out.under Hb1.out).i HR.out hn hd hz0 hz1)
  rw [hr] at Hrf
  go_wp2_with fail
  refine (Hrf.out).mono ?_
  rintro e w2 ⟨rfl, hb⟩
  have ht2 := HT1.out.below hb
  have hb2 := Hb1.out.trans (hb.mono Hb1.out.size)
  have HT2 := Lib.hid ht2
  have Hb2 := Lib.hid hb2
  clear x0 x1 x2 x3 y0 y1 y2 y3
  obtain ⟨x0, x1, x2, x3⟩ := box4 ht2.x
  obtain ⟨y0, y1, y2, y3⟩ := box4 ht2.y
  clear hb ht2 hb2
  clear hr
  have h0e : (r == 0) = false := by simp [h0]
  have Hcp := Lib.hid (copyW_any _ ad n cap false fuse fault fs (H.out.under Hb2.out).i (by omega))
  go_wp2_with fail
  refine (Hcp.out).mono ?_
  rintro e w3 ⟨ad2, cap2, rfl, hi, hb, hf⟩
  have ht := HT2.out.below hb
  have hbb := Hb2.out.trans (hb.mono Hb2.out.size)
  have hlt2 : w.heap.size + 2 < w2.heap.size := HT2.out.lt
  clear x0 x1 x2 x3 y0 y1 y2 y3
  have hV := Var.put (down := false) (fuse := fuse) (fault := fault) (show Dk w3 (w.heap.size + 2) 24 (.slice none 0 0) false 0 0 from ht.q) hi (fun e => by have := hf _ e; omega)
  obtain ⟨⟨r0, r1, r2, r3⟩, _⟩ := hV.d.facts
  obtain ⟨⟨q0, q1, q2, q3⟩, g0, g1, g2, g3⟩ := ((show Dk w3 (w.heap.size + 2) 24 (.slice none 0 0) false 0 0 from ht.q)).facts
  have hlq := ((show Dk w3 (w.heap.size + 2) 24 (.slice none 0 0) false 0 0 from ht.q)).lt
  have HV := Lib.hid hV.i
  have HB := Lib.hid (below_put hbb (q := w.heap.size + 2) (by omega) (.slice ad2 n cap2) (.bool false) (.int .i64 fuse) (.int .i64 fault))
  clear hV ht hbb hi hb hf
  go_wp2
  exact bodyPost_ret (v := .tuple #[.agg (dcells (.slice ad2 n cap2) false fuse fault), .int .i64 r]) (by simp [results, Try.results11, go_sem, r0, r1, r2, r3]) rfl ⟨_, _, _, rfl, HV.out, HB.out⟩

set_option maxHeartbeats 2000000 in
theorem ddo_fault (w : World) (ad : Option Addr) (n cap : Nat) (down : Bool) (fuse fault : Int) (fs : List F) (k : Int) (nm dt : ByteArray) (z : Int) (h : DIn w ad n cap fuse fault fs) (hn : nm.size ≤ 9223372036854775807) (hd : dt.size ≤ 9223372036854775807) (hz0 : -9223372036854775808 ≤ z) (hz1 : z ≤ 9223372036854775807) (hR : Right fs) (hk : 1 ≤ k ∧ k ≤ 5) (hdn : down = false) (hr : ref fs ⟨k, nm, dt, z⟩ = 0) (hf0 : fault = 0) :
    Calls Try.prog 11 #[.agg (dcells (.slice ad n cap) down fuse fault), .agg (scells k nm dt z)] w fun e w' => DQ w (⟨fs, false, fuse, -1⟩, 18) e w' := by
  subst hdn
  subst hf0
  have hb0 : Below w.heap.size w (((w.alloc (.cells (dcells (.slice ad n cap) false fuse 0) 24)).alloc (.cells (scells k nm dt z) 27)).alloc (.cells #[.slice none 0 0, .bool false, .int .i64 0, .int .i64 0] 24)) := (((Below.refl _ w).alloc (Nat.le_refl _) _).alloc (by simp) _).alloc (by simp; omega) _
  have h3 : Three w (.cells (dcells (.slice ad n cap) false fuse 0) 24) (.cells (scells k nm dt z) 27) (.cells #[.slice none 0 0, .bool false, .int .i64 0, .int .i64 0] 24) (((w.alloc (.cells (dcells (.slice ad n cap) false fuse 0) 24)).alloc (.cells (scells k nm dt z) 27)).alloc (.cells #[.slice none 0 0, .bool false, .int .i64 0, .int .i64 0] 24)) := by
    refine ⟨blk_alloc (blk_alloc (blk_new w _) _) _, ?_, ?_⟩
    · have := blk_new (w.alloc (.cells (dcells (.slice ad n cap) false fuse 0) 24)) (.cells (scells k nm dt z) 27)
      exact blk_alloc (by simpa using this) _
    · have := blk_new ((w.alloc (.cells (dcells (.slice ad n cap) false fuse 0) 24)).alloc (.cells (scells k nm dt z) 27)) (.cells #[.slice none 0 0, .bool false, .int .i64 0, .int .i64 0] 24)
      simpa using this
  have Hb0 := Lib.hid hb0
  have H3 := Lib.hid h3
  have H := Lib.hid h
  have Hfit := Lib.hid h.fit
  clear h hb0 h3
  have Hc := Lib.hid (dcheck_ok _ ad cap n false fuse 0 fs (H.out.i.under Hb0.out) hR)
  have h64 : n ≤ 64 := by have := H.out.i.1; have := hR.1; omega
  have HR := Lib.hid hR
  clear hR
  have hk1 : ¬ k < 1 := by omega
  have hk6 : ¬ 6 ≤ k := by omega
  have hkd : decide (k < 1) = false := decide_eq_false hk1
  have hke : decide (6 ≤ k) = false := decide_eq_false hk6
  have Hk := Lib.hid hk
  clear hk
  go_enter Try.func11, Try.ntmps11
  go_wp2_with fail
  refine (Hc.out).mono ?_
  rintro e w1 ⟨rfl, hb⟩
  have ht1 := H3.out.below hb
  have hb1 := Hb0.out.trans (hb.mono Hb0.out.size)
  have HT1 := Lib.hid ht1
  have Hb1 := Lib.hid hb1
  obtain ⟨x0, x1, x2, x3⟩ := box4 ht1.x
  obtain ⟨y0, y1, y2, y3⟩ := box4 ht1.y
  clear hb ht1 hb1
  have Hrf := Lib.hid (drefuses_any _ ad n cap false fuse 0 fs k nm dt z (H.out.under Hb1.out).i HR.out hn hd hz0 hz1)
  rw [hr] at Hrf
  go_wp2_with fail
  refine (Hrf.out).mono ?_
  rintro e w2 ⟨rfl, hb⟩
  have ht2 := HT1.out.below hb
  have hb2 := Hb1.out.trans (hb.mono Hb1.out.size)
  have HT2 := Lib.hid ht2
  have Hb2 := Lib.hid hb2
  clear x0 x1 x2 x3 y0 y1 y2 y3
  obtain ⟨x0, x1, x2, x3⟩ := box4 ht2.x
  obtain ⟨y0, y1, y2, y3⟩ := box4 ht2.y
  clear hb ht2 hb2
  clear hr
  have Hcp := Lib.hid (copyW_any _ ad n cap false fuse 0 fs (H.out.under Hb2.out).i (by omega))
  go_wp2_with fail
  refine (Hcp.out).mono ?_
  rintro e w3 ⟨ad2, cap2, rfl, hi, hb, hf⟩
  have ht := HT2.out.below hb
  have hbb := Hb2.out.trans (hb.mono Hb2.out.size)
  have hlt2 : w.heap.size + 2 < w2.heap.size := HT2.out.lt
  clear x0 x1 x2 x3 y0 y1 y2 y3
  have hX3 : Dk w3 w.heap.size 24 (.slice ad n cap) false fuse 0 := ht.x
  have hVx := Var.put (down := false) (fuse := fuse) (fault := 0) hX3 hi (fun e => by have := hf _ e; omega)
  have far : ∀ k, k ≠ w.heap.size → ((((w3.setCell ⟨w.heap.size, 0, none⟩ (.slice ad2 n cap2)).setCell ⟨w.heap.size, 1, none⟩ (.bool false)).setCell ⟨w.heap.size, 2, none⟩ (.int .i64 fuse)).setCell ⟨w.heap.size, 3, none⟩ (.int .i64 0)).heap[k]? = w3.heap[k]? := fun k hk => by
    rw [Below.heap_setCell _ _ _ k hk, Below.heap_setCell _ _ _ k hk, Below.heap_setCell _ _ _ k hk, Below.heap_setCell _ _ _ k hk]
  have hY3 := (far (w.heap.size + 1) (by omega)).trans ht.y
  have hQ3 : Dk ((((w3.setCell ⟨w.heap.size, 0, none⟩ (.slice ad2 n cap2)).setCell ⟨w.heap.size, 1, none⟩ (.bool false)).setCell ⟨w.heap.size, 2, none⟩ (.int .i64 fuse)).setCell ⟨w.heap.size, 3, none⟩ (.int .i64 0)) (w.heap.size + 2) 24 (.slice none 0 0) false 0 0 := (far (w.heap.size + 2) (by omega)).trans ht.q
  have hB3 := below_put hbb (q := w.heap.size) (Nat.le_refl _) (.slice ad2 n cap2) (.bool false) (.int .i64 fuse) (.int .i64 0)
  obtain ⟨⟨x0, x1, x2, x3⟩, m0, m1, m2, m3⟩ := hX3.facts
  have hlX3 := hX3.lt
  have hneX : (Value.slice ad2 n cap2).ownBlock ≠ some w.heap.size := fun e => by have := hf _ e; omega
  have hneQ : (Value.slice ad2 n cap2).ownBlock ≠ some (w.heap.size + 2) := fun e => by have := hf _ e; omega
  obtain ⟨W3, hW3⟩ : ∃ W, W = ((((w3.setCell ⟨w.heap.size, 0, none⟩ (.slice ad2 n cap2)).setCell ⟨w.heap.size, 1, none⟩ (.bool false)).setCell ⟨w.heap.size, 2, none⟩ (.int .i64 fuse)).setCell ⟨w.heap.size, 3, none⟩ (.int .i64 0)) := ⟨_, rfl⟩
  rw [← hW3] at hVx hY3 hQ3 hB3
  go_upto_region 12 with (fail)
  rw [← hW3]
  clear hW3 x0 x1 x2 x3 m0 m1 m2 m3 far hX3 hbb hb ht hf hi hlX3
  have hVW3 := hVx
  have hYW3 := hY3
  have hQW3 := hQ3
  have hBW3 := hB3
  clear hVx hY3 hQ3 hB3
  obtain ⟨⟨x0, x1, x2, x3⟩, m0, m1, m2, m3⟩ := hVW3.d.facts
  obtain ⟨y0, y1, y2, y3⟩ := box4 hYW3
  have hlXW3 := hVW3.d.lt
  obtain ⟨W4, hWW4⟩ : ∃ W, W = W3.setCell ⟨w.heap.size, 3, none⟩ (.int .i64 (-1)) := ⟨_, rfl⟩
  have hVW4 : Var W4 w.heap.size ad2 n cap2 false fuse (-1) fs := by rw [hWW4]; exact ⟨hVW3.d.set3 _, (Inp.set hVW3.i hneX).mono (by simp [World.setCell])⟩
  have hYW4 : W4.heap[w.heap.size + 1]? = some (.cells (scells k nm dt z) 27) := by rw [hWW4]; exact (Below.heap_setCell _ _ _ (w.heap.size + 1) (by simp)).trans hYW3
  have hQW4 : Dk W4 (w.heap.size + 2) 24 (.slice none 0 0) false 0 0 := by rw [hWW4]; exact (Below.heap_setCell _ _ _ (w.heap.size + 2) (by simp)).trans hQW3
  have hBW4 : Below w.heap.size w W4 := by rw [hWW4]; exact hBW3.setCell (p := ⟨w.heap.size, 3, none⟩) (Nat.le_refl _) _
  go_upto_region 14 with (fail)
  rw [← hWW4]
  clear hWW4
  clear x0 x1 x2 x3 m0 m1 m2 m3 y0 y1 y2 y3
  obtain ⟨⟨x0, x1, x2, x3⟩, m0, m1, m2, m3⟩ := hVW4.d.facts
  obtain ⟨y0, y1, y2, y3⟩ := box4 hYW4
  have hlXW4 := hVW4.d.lt
  have hlt4 := hQW4.lt
  have hV := Var.put (down := false) (fuse := fuse) (fault := (-1)) hQW4 hVW4.i hneQ
  obtain ⟨⟨r0, r1, r2, r3⟩, _⟩ := hV.d.facts
  obtain ⟨⟨q0, q1, q2, q3⟩, g0, g1, g2, g3⟩ := (hQW4).facts
  have hlq := (hQW4).lt
  have HV := Lib.hid hV.i
  have HB := Lib.hid (below_put hBW4 (q := w.heap.size + 2) (by omega) (.slice ad2 n cap2) (.bool false) (.int .i64 fuse) (.int .i64 (-1)))
  clear hV 
  go_wp2
  exact bodyPost_ret (v := .tuple #[.agg (dcells (.slice ad2 n cap2) false fuse (-1)), .int .i64 18]) (by simp [results, Try.results11, go_sem, r0, r1, r2, r3]) rfl ⟨_, _, _, rfl, HV.out, HB.out⟩

set_option maxHeartbeats 4000000 in
theorem ddo_fuseo_p (w : World) (ad : Option Addr) (n cap : Nat) (down : Bool) (fuse fault : Int) (fs : List F) (k : Int) (nm dt : ByteArray) (z : Int) (h : DIn w ad n cap fuse fault fs) (hn : nm.size ≤ 9223372036854775807) (hd : dt.size ≤ 9223372036854775807) (hz0 : -9223372036854775808 ≤ z) (hz1 : z ≤ 9223372036854775807) (hR : Right fs) (hk : 1 ≤ k ∧ k ≤ 5) (hdn : down = false) (hr : ref fs ⟨k, nm, dt, z⟩ = 0) (hfe : (fault == 0) = false) (hfp : 0 < fault) (hu : fuse = 0) (h2 : ¬ k = 2) :
    Calls Try.prog 11 #[.agg (dcells (.slice ad n cap) down fuse fault), .agg (scells k nm dt z)] w fun e w' => DQ w (⟨fs, true, fuse, (fault - 1)⟩, 17) e w' := by
  subst hdn
  have Hu := Lib.hid hu
  clear hu
  have hb0 : Below w.heap.size w (((w.alloc (.cells (dcells (.slice ad n cap) false fuse fault) 24)).alloc (.cells (scells k nm dt z) 27)).alloc (.cells #[.slice none 0 0, .bool false, .int .i64 0, .int .i64 0] 24)) := (((Below.refl _ w).alloc (Nat.le_refl _) _).alloc (by simp) _).alloc (by simp; omega) _
  have h3 : Three w (.cells (dcells (.slice ad n cap) false fuse fault) 24) (.cells (scells k nm dt z) 27) (.cells #[.slice none 0 0, .bool false, .int .i64 0, .int .i64 0] 24) (((w.alloc (.cells (dcells (.slice ad n cap) false fuse fault) 24)).alloc (.cells (scells k nm dt z) 27)).alloc (.cells #[.slice none 0 0, .bool false, .int .i64 0, .int .i64 0] 24)) := by
    refine ⟨blk_alloc (blk_alloc (blk_new w _) _) _, ?_, ?_⟩
    · have := blk_new (w.alloc (.cells (dcells (.slice ad n cap) false fuse fault) 24)) (.cells (scells k nm dt z) 27)
      exact blk_alloc (by simpa using this) _
    · have := blk_new ((w.alloc (.cells (dcells (.slice ad n cap) false fuse fault) 24)).alloc (.cells (scells k nm dt z) 27)) (.cells #[.slice none 0 0, .bool false, .int .i64 0, .int .i64 0] 24)
      simpa using this
  have Hb0 := Lib.hid hb0
  have H3 := Lib.hid h3
  have H := Lib.hid h
  have Hfit := Lib.hid h.fit
  clear h hb0 h3
  have Hc := Lib.hid (dcheck_ok _ ad cap n false fuse fault fs (H.out.i.under Hb0.out) hR)
  have h64 : n ≤ 64 := by have := H.out.i.1; have := hR.1; omega
  have HR := Lib.hid hR
  clear hR
  have hk1 : ¬ k < 1 := by omega
  have hk6 : ¬ 6 ≤ k := by omega
  have hkd : decide (k < 1) = false := decide_eq_false hk1
  have hke : decide (6 ≤ k) = false := decide_eq_false hk6
  have Hk := Lib.hid hk
  clear hk
  go_enter Try.func11, Try.ntmps11
  go_wp2_with fail
  refine (Hc.out).mono ?_
  rintro e w1 ⟨rfl, hb⟩
  have ht1 := H3.out.below hb
  have hb1 := Hb0.out.trans (hb.mono Hb0.out.size)
  have HT1 := Lib.hid ht1
  have Hb1 := Lib.hid hb1
  obtain ⟨x0, x1, x2, x3⟩ := box4 ht1.x
  obtain ⟨y0, y1, y2, y3⟩ := box4 ht1.y
  clear hb ht1 hb1
  have Href := Lib.hid hr
  have Hrf := Lib.hid (drefuses_any _ ad n cap false fuse fault fs k nm dt z (H.out.under Hb1.out).i HR.out hn hd hz0 hz1)
  rw [hr] at Hrf
  go_wp2_with fail
  refine (Hrf.out).mono ?_
  rintro e w2 ⟨rfl, hb⟩
  have ht2 := HT1.out.below hb
  have hb2 := Hb1.out.trans (hb.mono Hb1.out.size)
  have HT2 := Lib.hid ht2
  have Hb2 := Lib.hid hb2
  clear x0 x1 x2 x3 y0 y1 y2 y3
  obtain ⟨x0, x1, x2, x3⟩ := box4 ht2.x
  obtain ⟨y0, y1, y2, y3⟩ := box4 ht2.y
  clear hb ht2 hb2
  clear hr
  have bu0 := H.out.u0
  have bu1 := H.out.u1
  have bf0 := H.out.f0
  have bf1 := H.out.f1
  have Hcp := Lib.hid (copyW_any _ ad n cap false fuse fault fs (H.out.under Hb2.out).i (by omega))
  go_wp2_with fail
  refine (Hcp.out).mono ?_
  rintro e w3 ⟨ad2, cap2, rfl, hi, hb, hf⟩
  have ht := HT2.out.below hb
  have hbb := Hb2.out.trans (hb.mono Hb2.out.size)
  have hlt2 : w.heap.size + 2 < w2.heap.size := HT2.out.lt
  clear x0 x1 x2 x3 y0 y1 y2 y3
  have hX3 : Dk w3 w.heap.size 24 (.slice ad n cap) false fuse fault := ht.x
  have hVx := Var.put (down := false) (fuse := fuse) (fault := fault) hX3 hi (fun e => by have := hf _ e; omega)
  have far : ∀ k, k ≠ w.heap.size → ((((w3.setCell ⟨w.heap.size, 0, none⟩ (.slice ad2 n cap2)).setCell ⟨w.heap.size, 1, none⟩ (.bool false)).setCell ⟨w.heap.size, 2, none⟩ (.int .i64 fuse)).setCell ⟨w.heap.size, 3, none⟩ (.int .i64 fault)).heap[k]? = w3.heap[k]? := fun k hk => by
    rw [Below.heap_setCell _ _ _ k hk, Below.heap_setCell _ _ _ k hk, Below.heap_setCell _ _ _ k hk, Below.heap_setCell _ _ _ k hk]
  have hY3 := (far (w.heap.size + 1) (by omega)).trans ht.y
  have hQ3 : Dk ((((w3.setCell ⟨w.heap.size, 0, none⟩ (.slice ad2 n cap2)).setCell ⟨w.heap.size, 1, none⟩ (.bool false)).setCell ⟨w.heap.size, 2, none⟩ (.int .i64 fuse)).setCell ⟨w.heap.size, 3, none⟩ (.int .i64 fault)) (w.heap.size + 2) 24 (.slice none 0 0) false 0 0 := (far (w.heap.size + 2) (by omega)).trans ht.q
  have hB3 := below_put hbb (q := w.heap.size) (Nat.le_refl _) (.slice ad2 n cap2) (.bool false) (.int .i64 fuse) (.int .i64 fault)
  obtain ⟨⟨x0, x1, x2, x3⟩, m0, m1, m2, m3⟩ := hX3.facts
  have hlX3 := hX3.lt
  have hneX : (Value.slice ad2 n cap2).ownBlock ≠ some w.heap.size := fun e => by have := hf _ e; omega
  have hneQ : (Value.slice ad2 n cap2).ownBlock ≠ some (w.heap.size + 2) := fun e => by have := hf _ e; omega
  obtain ⟨W3, hW3⟩ : ∃ W, W = ((((w3.setCell ⟨w.heap.size, 0, none⟩ (.slice ad2 n cap2)).setCell ⟨w.heap.size, 1, none⟩ (.bool false)).setCell ⟨w.heap.size, 2, none⟩ (.int .i64 fuse)).setCell ⟨w.heap.size, 3, none⟩ (.int .i64 fault)) := ⟨_, rfl⟩
  rw [← hW3] at hVx hY3 hQ3 hB3
  go_upto_region 12 with (fail)
  rw [← hW3]
  clear hW3 x0 x1 x2 x3 m0 m1 m2 m3 far hX3 hbb hb ht hf hi hlX3
  have hVW3 := hVx
  have hYW3 := hY3
  have hQW3 := hQ3
  have hBW3 := hB3
  clear hVx hY3 hQ3 hB3
  obtain ⟨⟨x0, x1, x2, x3⟩, m0, m1, m2, m3⟩ := hVW3.d.facts
  obtain ⟨y0, y1, y2, y3⟩ := box4 hYW3
  have hlXW3 := hVW3.d.lt
  have hfd : decide (0 < fault) = true := decide_eq_true hfp
  have hfw : IntKind.i64.wrap (fault - 1) = fault - 1 := IntWalk.i64_in _ (by omega)
  obtain ⟨W4, hWW4⟩ : ∃ W, W = W3.setCell ⟨w.heap.size, 3, none⟩ (.int .i64 (fault - 1)) := ⟨_, rfl⟩
  have hVW4 : Var W4 w.heap.size ad2 n cap2 false fuse (fault - 1) fs := by rw [hWW4]; exact ⟨hVW3.d.set3 _, (Inp.set hVW3.i hneX).mono (by simp [World.setCell])⟩
  have hYW4 : W4.heap[w.heap.size + 1]? = some (.cells (scells k nm dt z) 27) := by rw [hWW4]; exact (Below.heap_setCell _ _ _ (w.heap.size + 1) (by simp)).trans hYW3
  have hQW4 : Dk W4 (w.heap.size + 2) 24 (.slice none 0 0) false 0 0 := by rw [hWW4]; exact (Below.heap_setCell _ _ _ (w.heap.size + 2) (by simp)).trans hQW3
  have hBW4 : Below w.heap.size w W4 := by rw [hWW4]; exact hBW3.setCell (p := ⟨w.heap.size, 3, none⟩) (Nat.le_refl _) _
  go_upto_region 17 with (fail)
  rw [← hWW4]
  clear hWW4
  clear x0 x1 x2 x3 m0 m1 m2 m3 y0 y1 y2 y3
  obtain ⟨⟨x0, x1, x2, x3⟩, m0, m1, m2, m3⟩ := hVW4.d.facts
  obtain ⟨y0, y1, y2, y3⟩ := box4 hYW4
  have hlXW4 := hVW4.d.lt
  have hue : (fuse == 0) = true := by have := Hu.out; simp [this]
  obtain ⟨W5, hWW5⟩ : ∃ W, W = W4.setCell ⟨w.heap.size, 1, none⟩ (.bool true) := ⟨_, rfl⟩
  have hVW5 : Var W5 w.heap.size ad2 n cap2 true fuse (fault - 1) fs := by rw [hWW5]; exact ⟨hVW4.d.set1 _, (Inp.set hVW4.i hneX).mono (by simp [World.setCell])⟩
  have hYW5 : W5.heap[w.heap.size + 1]? = some (.cells (scells k nm dt z) 27) := by rw [hWW5]; exact (Below.heap_setCell _ _ _ (w.heap.size + 1) (by simp)).trans hYW4
  have hQW5 : Dk W5 (w.heap.size + 2) 24 (.slice none 0 0) false 0 0 := by rw [hWW5]; exact (Below.heap_setCell _ _ _ (w.heap.size + 2) (by simp)).trans hQW4
  have hBW5 : Below w.heap.size w W5 := by rw [hWW5]; exact hBW4.setCell (p := ⟨w.heap.size, 1, none⟩) (Nat.le_refl _) _
  go_upto_region 19 with (fail)
  rw [← hWW5]
  clear hWW5
  clear x0 x1 x2 x3 m0 m1 m2 m3 y0 y1 y2 y3
  obtain ⟨⟨x0, x1, x2, x3⟩, m0, m1, m2, m3⟩ := hVW5.d.facts
  obtain ⟨y0, y1, y2, y3⟩ := box4 hYW5
  have hlXW5 := hVW5.d.lt
  have hlt5 := hQW5.lt
  have h2e : (k == 2) = false := by simp [h2]
  have hV := Var.put (down := true) (fuse := fuse) (fault := (fault - 1)) hQW5 hVW5.i hneQ
  obtain ⟨⟨r0, r1, r2, r3⟩, _⟩ := hV.d.facts
  obtain ⟨⟨q0, q1, q2, q3⟩, g0, g1, g2, g3⟩ := (hQW5).facts
  have hlq := (hQW5).lt
  have HV := Lib.hid hV.i
  have HB := Lib.hid (below_put hBW5 (q := w.heap.size + 2) (by omega) (.slice ad2 n cap2) (.bool true) (.int .i64 fuse) (.int .i64 (fault - 1)))
  clear hV 
  go_wp2
  exact bodyPost_ret (v := .tuple #[.agg (dcells (.slice ad2 n cap2) true fuse (fault - 1)), .int .i64 17]) (by simp [results, Try.results11, go_sem, r0, r1, r2, r3]) rfl ⟨_, _, _, rfl, HV.out, HB.out⟩

set_option maxHeartbeats 4000000 in
theorem ddo_fuse2_p (w : World) (ad : Option Addr) (n cap : Nat) (down : Bool) (fuse fault : Int) (fs : List F) (k : Int) (nm dt : ByteArray) (z : Int) (h : DIn w ad n cap fuse fault fs) (hn : nm.size ≤ 9223372036854775807) (hd : dt.size ≤ 9223372036854775807) (hz0 : -9223372036854775808 ≤ z) (hz1 : z ≤ 9223372036854775807) (hR : Right fs) (hk : 1 ≤ k ∧ k ≤ 5) (hdn : down = false) (hr : ref fs ⟨k, nm, dt, z⟩ = 0) (hfe : (fault == 0) = false) (hfp : 0 < fault) (hu : fuse = 0) (h2 : k = 2) :
    Calls Try.prog 11 #[.agg (dcells (.slice ad n cap) down fuse fault), .agg (scells k nm dt z)] w fun e w' => DQ w (⟨eff fs ⟨k, nm, dt, z⟩, true, fuse, (fault - 1)⟩, 17) e w' := by
  subst hdn
  have Hu := Lib.hid hu
  clear hu
  have h2e : (k == 2) = true := by simp [h2]
  clear h2
  have hb0 : Below w.heap.size w (((w.alloc (.cells (dcells (.slice ad n cap) false fuse fault) 24)).alloc (.cells (scells k nm dt z) 27)).alloc (.cells #[.slice none 0 0, .bool false, .int .i64 0, .int .i64 0] 24)) := (((Below.refl _ w).alloc (Nat.le_refl _) _).alloc (by simp) _).alloc (by simp; omega) _
  have h3 : Three w (.cells (dcells (.slice ad n cap) false fuse fault) 24) (.cells (scells k nm dt z) 27) (.cells #[.slice none 0 0, .bool false, .int .i64 0, .int .i64 0] 24) (((w.alloc (.cells (dcells (.slice ad n cap) false fuse fault) 24)).alloc (.cells (scells k nm dt z) 27)).alloc (.cells #[.slice none 0 0, .bool false, .int .i64 0, .int .i64 0] 24)) := by
    refine ⟨blk_alloc (blk_alloc (blk_new w _) _) _, ?_, ?_⟩
    · have := blk_new (w.alloc (.cells (dcells (.slice ad n cap) false fuse fault) 24)) (.cells (scells k nm dt z) 27)
      exact blk_alloc (by simpa using this) _
    · have := blk_new ((w.alloc (.cells (dcells (.slice ad n cap) false fuse fault) 24)).alloc (.cells (scells k nm dt z) 27)) (.cells #[.slice none 0 0, .bool false, .int .i64 0, .int .i64 0] 24)
      simpa using this
  have Hb0 := Lib.hid hb0
  have H3 := Lib.hid h3
  have H := Lib.hid h
  have Hfit := Lib.hid h.fit
  clear h hb0 h3
  have Hc := Lib.hid (dcheck_ok _ ad cap n false fuse fault fs (H.out.i.under Hb0.out) hR)
  have h64 : n ≤ 64 := by have := H.out.i.1; have := hR.1; omega
  have HR := Lib.hid hR
  clear hR
  have hk1 : ¬ k < 1 := by omega
  have hk6 : ¬ 6 ≤ k := by omega
  have hkd : decide (k < 1) = false := decide_eq_false hk1
  have hke : decide (6 ≤ k) = false := decide_eq_false hk6
  have Hk := Lib.hid hk
  clear hk
  go_enter Try.func11, Try.ntmps11
  go_wp2_with fail
  refine (Hc.out).mono ?_
  rintro e w1 ⟨rfl, hb⟩
  have ht1 := H3.out.below hb
  have hb1 := Hb0.out.trans (hb.mono Hb0.out.size)
  have HT1 := Lib.hid ht1
  have Hb1 := Lib.hid hb1
  obtain ⟨x0, x1, x2, x3⟩ := box4 ht1.x
  obtain ⟨y0, y1, y2, y3⟩ := box4 ht1.y
  clear hb ht1 hb1
  have Href := Lib.hid hr
  have Hrf := Lib.hid (drefuses_any _ ad n cap false fuse fault fs k nm dt z (H.out.under Hb1.out).i HR.out hn hd hz0 hz1)
  rw [hr] at Hrf
  go_wp2_with fail
  refine (Hrf.out).mono ?_
  rintro e w2 ⟨rfl, hb⟩
  have ht2 := HT1.out.below hb
  have hb2 := Hb1.out.trans (hb.mono Hb1.out.size)
  have HT2 := Lib.hid ht2
  have Hb2 := Lib.hid hb2
  clear x0 x1 x2 x3 y0 y1 y2 y3
  obtain ⟨x0, x1, x2, x3⟩ := box4 ht2.x
  obtain ⟨y0, y1, y2, y3⟩ := box4 ht2.y
  clear hb ht2 hb2
  clear hr
  have bu0 := H.out.u0
  have bu1 := H.out.u1
  have bf0 := H.out.f0
  have bf1 := H.out.f1
  have Hcp := Lib.hid (copyW_any _ ad n cap false fuse fault fs (H.out.under Hb2.out).i (by omega))
  go_wp2_with fail
  refine (Hcp.out).mono ?_
  rintro e w3 ⟨ad2, cap2, rfl, hi, hb, hf⟩
  have ht := HT2.out.below hb
  have hbb := Hb2.out.trans (hb.mono Hb2.out.size)
  have hlt2 : w.heap.size + 2 < w2.heap.size := HT2.out.lt
  clear x0 x1 x2 x3 y0 y1 y2 y3
  have hX3 : Dk w3 w.heap.size 24 (.slice ad n cap) false fuse fault := ht.x
  have hVx := Var.put (down := false) (fuse := fuse) (fault := fault) hX3 hi (fun e => by have := hf _ e; omega)
  have far : ∀ k, k ≠ w.heap.size → ((((w3.setCell ⟨w.heap.size, 0, none⟩ (.slice ad2 n cap2)).setCell ⟨w.heap.size, 1, none⟩ (.bool false)).setCell ⟨w.heap.size, 2, none⟩ (.int .i64 fuse)).setCell ⟨w.heap.size, 3, none⟩ (.int .i64 fault)).heap[k]? = w3.heap[k]? := fun k hk => by
    rw [Below.heap_setCell _ _ _ k hk, Below.heap_setCell _ _ _ k hk, Below.heap_setCell _ _ _ k hk, Below.heap_setCell _ _ _ k hk]
  have hY3 := (far (w.heap.size + 1) (by omega)).trans ht.y
  have hQ3 : Dk ((((w3.setCell ⟨w.heap.size, 0, none⟩ (.slice ad2 n cap2)).setCell ⟨w.heap.size, 1, none⟩ (.bool false)).setCell ⟨w.heap.size, 2, none⟩ (.int .i64 fuse)).setCell ⟨w.heap.size, 3, none⟩ (.int .i64 fault)) (w.heap.size + 2) 24 (.slice none 0 0) false 0 0 := (far (w.heap.size + 2) (by omega)).trans ht.q
  have hB3 := below_put hbb (q := w.heap.size) (Nat.le_refl _) (.slice ad2 n cap2) (.bool false) (.int .i64 fuse) (.int .i64 fault)
  obtain ⟨⟨x0, x1, x2, x3⟩, m0, m1, m2, m3⟩ := hX3.facts
  have hlX3 := hX3.lt
  have hneX : (Value.slice ad2 n cap2).ownBlock ≠ some w.heap.size := fun e => by have := hf _ e; omega
  have hneQ : (Value.slice ad2 n cap2).ownBlock ≠ some (w.heap.size + 2) := fun e => by have := hf _ e; omega
  obtain ⟨W3, hW3⟩ : ∃ W, W = ((((w3.setCell ⟨w.heap.size, 0, none⟩ (.slice ad2 n cap2)).setCell ⟨w.heap.size, 1, none⟩ (.bool false)).setCell ⟨w.heap.size, 2, none⟩ (.int .i64 fuse)).setCell ⟨w.heap.size, 3, none⟩ (.int .i64 fault)) := ⟨_, rfl⟩
  rw [← hW3] at hVx hY3 hQ3 hB3
  go_upto_region 12 with (fail)
  rw [← hW3]
  clear hW3 x0 x1 x2 x3 m0 m1 m2 m3 far hX3 hbb hb ht hf hi hlX3
  have hVW3 := hVx
  have hYW3 := hY3
  have hQW3 := hQ3
  have hBW3 := hB3
  clear hVx hY3 hQ3 hB3
  obtain ⟨⟨x0, x1, x2, x3⟩, m0, m1, m2, m3⟩ := hVW3.d.facts
  obtain ⟨y0, y1, y2, y3⟩ := box4 hYW3
  have hlXW3 := hVW3.d.lt
  have hfd : decide (0 < fault) = true := decide_eq_true hfp
  have hfw : IntKind.i64.wrap (fault - 1) = fault - 1 := IntWalk.i64_in _ (by omega)
  obtain ⟨W4, hWW4⟩ : ∃ W, W = W3.setCell ⟨w.heap.size, 3, none⟩ (.int .i64 (fault - 1)) := ⟨_, rfl⟩
  have hVW4 : Var W4 w.heap.size ad2 n cap2 false fuse (fault - 1) fs := by rw [hWW4]; exact ⟨hVW3.d.set3 _, (Inp.set hVW3.i hneX).mono (by simp [World.setCell])⟩
  have hYW4 : W4.heap[w.heap.size + 1]? = some (.cells (scells k nm dt z) 27) := by rw [hWW4]; exact (Below.heap_setCell _ _ _ (w.heap.size + 1) (by simp)).trans hYW3
  have hQW4 : Dk W4 (w.heap.size + 2) 24 (.slice none 0 0) false 0 0 := by rw [hWW4]; exact (Below.heap_setCell _ _ _ (w.heap.size + 2) (by simp)).trans hQW3
  have hBW4 : Below w.heap.size w W4 := by rw [hWW4]; exact hBW3.setCell (p := ⟨w.heap.size, 3, none⟩) (Nat.le_refl _) _
  go_upto_region 17 with (fail)
  rw [← hWW4]
  clear hWW4
  clear x0 x1 x2 x3 m0 m1 m2 m3 y0 y1 y2 y3
  obtain ⟨⟨x0, x1, x2, x3⟩, m0, m1, m2, m3⟩ := hVW4.d.facts
  obtain ⟨y0, y1, y2, y3⟩ := box4 hYW4
  have hlXW4 := hVW4.d.lt
  have hue : (fuse == 0) = true := by have := Hu.out; simp [this]
  obtain ⟨W5, hWW5⟩ : ∃ W, W = W4.setCell ⟨w.heap.size, 1, none⟩ (.bool true) := ⟨_, rfl⟩
  have hVW5 : Var W5 w.heap.size ad2 n cap2 true fuse (fault - 1) fs := by rw [hWW5]; exact ⟨hVW4.d.set1 _, (Inp.set hVW4.i hneX).mono (by simp [World.setCell])⟩
  have hYW5 : W5.heap[w.heap.size + 1]? = some (.cells (scells k nm dt z) 27) := by rw [hWW5]; exact (Below.heap_setCell _ _ _ (w.heap.size + 1) (by simp)).trans hYW4
  have hQW5 : Dk W5 (w.heap.size + 2) 24 (.slice none 0 0) false 0 0 := by rw [hWW5]; exact (Below.heap_setCell _ _ _ (w.heap.size + 2) (by simp)).trans hQW4
  have hBW5 : Below w.heap.size w W5 := by rw [hWW5]; exact hBW4.setCell (p := ⟨w.heap.size, 1, none⟩) (Nat.le_refl _) _
  go_upto_region 19 with (fail)
  rw [← hWW5]
  clear hWW5
  clear x0 x1 x2 x3 m0 m1 m2 m3 y0 y1 y2 y3
  obtain ⟨⟨x0, x1, x2, x3⟩, m0, m1, m2, m3⟩ := hVW5.d.facts
  obtain ⟨y0, y1, y2, y3⟩ := box4 hYW5
  have hlXW5 := hVW5.d.lt
  have hlt5 := hQW5.lt
  have Hdn := Lib.hid (ddone_any _ ad2 n cap2 true fuse (fault - 1) fs k nm dt z hVW5.i HR.out Hk.out Href.out hn hd hz0 hz1)
  go_wp2_with fail
  refine (Hdn.out).mono ?_
  rintro e w6 ⟨ad3, n3, cap3, rfl, hi6, hb6, hf6⟩
  have hQ6 := hQW5.keep hb6 hQW5.lt
  have hX6 := hVW5.d.keep hb6 hVW5.d.lt
  have hB6 := hBW5.trans (hb6.mono hBW5.size)
  have hlQW5 := hQW5.lt
  have hlX6 := hX6.lt
  have hneX3 : (Value.slice ad3 n3 cap3).ownBlock ≠ some w.heap.size := fun e => by have := hf6 _ e; omega
  have hneQ3 : (Value.slice ad3 n3 cap3).ownBlock ≠ some (w.heap.size + 2) := fun e => by have := hf6 _ e; omega
  have hV7 := Var.put (down := true) (fuse := fuse) (fault := (fault - 1)) hX6 hi6 hneX3
  have hQ7 : Dk ((((w6.setCell ⟨w.heap.size, 0, none⟩ (.slice ad3 n3 cap3)).setCell ⟨w.heap.size, 1, none⟩ (.bool true)).setCell ⟨w.heap.size, 2, none⟩ (.int .i64 fuse)).setCell ⟨w.heap.size, 3, none⟩ (.int .i64 (fault - 1))) (w.heap.size + 2) 24 (.slice none 0 0) false 0 0 := by
    show ((((w6.setCell ⟨w.heap.size, 0, none⟩ (.slice ad3 n3 cap3)).setCell ⟨w.heap.size, 1, none⟩ (.bool true)).setCell ⟨w.heap.size, 2, none⟩ (.int .i64 fuse)).setCell ⟨w.heap.size, 3, none⟩ (.int .i64 (fault - 1))).heap[w.heap.size + 2]? = _
    rw [Below.heap_setCell _ _ _ _ (by simp), Below.heap_setCell _ _ _ _ (by simp), Below.heap_setCell _ _ _ _ (by simp), Below.heap_setCell _ _ _ _ (by simp)]
    exact hQ6
  have hB7 := below_put hB6 (q := w.heap.size) (Nat.le_refl _) (.slice ad3 n3 cap3) (.bool true) (.int .i64 fuse) (.int .i64 (fault - 1))
  clear x0 x1 x2 x3 m0 m1 m2 m3 y0 y1 y2 y3
  obtain ⟨⟨x0, x1, x2, x3⟩, m0, m1, m2, m3⟩ := hX6.facts
  obtain ⟨W7, hW7⟩ : ∃ W, W = ((((w6.setCell ⟨w.heap.size, 0, none⟩ (.slice ad3 n3 cap3)).setCell ⟨w.heap.size, 1, none⟩ (.bool true)).setCell ⟨w.heap.size, 2, none⟩ (.int .i64 fuse)).setCell ⟨w.heap.size, 3, none⟩ (.int .i64 (fault - 1))) := ⟨_, rfl⟩
  rw [← hW7] at hV7 hQ7 hB7
  go_upto_region 21 with (fail)
  rw [← hW7]
  clear hW7 x0 x1 x2 x3 m0 m1 m2 m3
  obtain ⟨⟨x0, x1, x2, x3⟩, m0, m1, m2, m3⟩ := hV7.d.facts
  have hlX7 := hV7.d.lt
  have hV := Var.put (down := true) (fuse := fuse) (fault := (fault - 1)) hQ7 hV7.i hneQ3
  obtain ⟨⟨r0, r1, r2, r3⟩, _⟩ := hV.d.facts
  obtain ⟨⟨q0, q1, q2, q3⟩, g0, g1, g2, g3⟩ := (hQ7).facts
  have hlq := (hQ7).lt
  have HV := Lib.hid hV.i
  have HB := Lib.hid (below_put hB7 (q := w.heap.size + 2) (by omega) (.slice ad3 n3 cap3) (.bool true) (.int .i64 fuse) (.int .i64 (fault - 1)))
  clear hV 
  go_wp2
  exact bodyPost_ret (v := .tuple #[.agg (dcells (.slice ad3 n3 cap3) true fuse (fault - 1)), .int .i64 17]) (by simp [results, Try.results11, go_sem, r0, r1, r2, r3]) rfl ⟨_, _, _, rfl, HV.out, HB.out⟩

set_option maxHeartbeats 4000000 in
theorem ddo_donep_p (w : World) (ad : Option Addr) (n cap : Nat) (down : Bool) (fuse fault : Int) (fs : List F) (k : Int) (nm dt : ByteArray) (z : Int) (h : DIn w ad n cap fuse fault fs) (hn : nm.size ≤ 9223372036854775807) (hd : dt.size ≤ 9223372036854775807) (hz0 : -9223372036854775808 ≤ z) (hz1 : z ≤ 9223372036854775807) (hR : Right fs) (hk : 1 ≤ k ∧ k ≤ 5) (hdn : down = false) (hr : ref fs ⟨k, nm, dt, z⟩ = 0) (hfe : (fault == 0) = false) (hfp : 0 < fault) (hu : ¬ fuse = 0) (hup : 0 < fuse) :
    Calls Try.prog 11 #[.agg (dcells (.slice ad n cap) down fuse fault), .agg (scells k nm dt z)] w fun e w' => DQ w (⟨eff fs ⟨k, nm, dt, z⟩, false, (fuse - 1), (fault - 1)⟩, 0) e w' := by
  subst hdn
  have hb0 : Below w.heap.size w (((w.alloc (.cells (dcells (.slice ad n cap) false fuse fault) 24)).alloc (.cells (scells k nm dt z) 27)).alloc (.cells #[.slice none 0 0, .bool false, .int .i64 0, .int .i64 0] 24)) := (((Below.refl _ w).alloc (Nat.le_refl _) _).alloc (by simp) _).alloc (by simp; omega) _
  have h3 : Three w (.cells (dcells (.slice ad n cap) false fuse fault) 24) (.cells (scells k nm dt z) 27) (.cells #[.slice none 0 0, .bool false, .int .i64 0, .int .i64 0] 24) (((w.alloc (.cells (dcells (.slice ad n cap) false fuse fault) 24)).alloc (.cells (scells k nm dt z) 27)).alloc (.cells #[.slice none 0 0, .bool false, .int .i64 0, .int .i64 0] 24)) := by
    refine ⟨blk_alloc (blk_alloc (blk_new w _) _) _, ?_, ?_⟩
    · have := blk_new (w.alloc (.cells (dcells (.slice ad n cap) false fuse fault) 24)) (.cells (scells k nm dt z) 27)
      exact blk_alloc (by simpa using this) _
    · have := blk_new ((w.alloc (.cells (dcells (.slice ad n cap) false fuse fault) 24)).alloc (.cells (scells k nm dt z) 27)) (.cells #[.slice none 0 0, .bool false, .int .i64 0, .int .i64 0] 24)
      simpa using this
  have Hb0 := Lib.hid hb0
  have H3 := Lib.hid h3
  have H := Lib.hid h
  have Hfit := Lib.hid h.fit
  clear h hb0 h3
  have Hc := Lib.hid (dcheck_ok _ ad cap n false fuse fault fs (H.out.i.under Hb0.out) hR)
  have h64 : n ≤ 64 := by have := H.out.i.1; have := hR.1; omega
  have HR := Lib.hid hR
  clear hR
  have hk1 : ¬ k < 1 := by omega
  have hk6 : ¬ 6 ≤ k := by omega
  have hkd : decide (k < 1) = false := decide_eq_false hk1
  have hke : decide (6 ≤ k) = false := decide_eq_false hk6
  have Hk := Lib.hid hk
  clear hk
  go_enter Try.func11, Try.ntmps11
  go_wp2_with fail
  refine (Hc.out).mono ?_
  rintro e w1 ⟨rfl, hb⟩
  have ht1 := H3.out.below hb
  have hb1 := Hb0.out.trans (hb.mono Hb0.out.size)
  have HT1 := Lib.hid ht1
  have Hb1 := Lib.hid hb1
  obtain ⟨x0, x1, x2, x3⟩ := box4 ht1.x
  obtain ⟨y0, y1, y2, y3⟩ := box4 ht1.y
  clear hb ht1 hb1
  have Href := Lib.hid hr
  have Hrf := Lib.hid (drefuses_any _ ad n cap false fuse fault fs k nm dt z (H.out.under Hb1.out).i HR.out hn hd hz0 hz1)
  rw [hr] at Hrf
  go_wp2_with fail
  refine (Hrf.out).mono ?_
  rintro e w2 ⟨rfl, hb⟩
  have ht2 := HT1.out.below hb
  have hb2 := Hb1.out.trans (hb.mono Hb1.out.size)
  have HT2 := Lib.hid ht2
  have Hb2 := Lib.hid hb2
  clear x0 x1 x2 x3 y0 y1 y2 y3
  obtain ⟨x0, x1, x2, x3⟩ := box4 ht2.x
  obtain ⟨y0, y1, y2, y3⟩ := box4 ht2.y
  clear hb ht2 hb2
  clear hr
  have bu0 := H.out.u0
  have bu1 := H.out.u1
  have bf0 := H.out.f0
  have bf1 := H.out.f1
  have Hcp := Lib.hid (copyW_any _ ad n cap false fuse fault fs (H.out.under Hb2.out).i (by omega))
  go_wp2_with fail
  refine (Hcp.out).mono ?_
  rintro e w3 ⟨ad2, cap2, rfl, hi, hb, hf⟩
  have ht := HT2.out.below hb
  have hbb := Hb2.out.trans (hb.mono Hb2.out.size)
  have hlt2 : w.heap.size + 2 < w2.heap.size := HT2.out.lt
  clear x0 x1 x2 x3 y0 y1 y2 y3
  have hX3 : Dk w3 w.heap.size 24 (.slice ad n cap) false fuse fault := ht.x
  have hVx := Var.put (down := false) (fuse := fuse) (fault := fault) hX3 hi (fun e => by have := hf _ e; omega)
  have far : ∀ k, k ≠ w.heap.size → ((((w3.setCell ⟨w.heap.size, 0, none⟩ (.slice ad2 n cap2)).setCell ⟨w.heap.size, 1, none⟩ (.bool false)).setCell ⟨w.heap.size, 2, none⟩ (.int .i64 fuse)).setCell ⟨w.heap.size, 3, none⟩ (.int .i64 fault)).heap[k]? = w3.heap[k]? := fun k hk => by
    rw [Below.heap_setCell _ _ _ k hk, Below.heap_setCell _ _ _ k hk, Below.heap_setCell _ _ _ k hk, Below.heap_setCell _ _ _ k hk]
  have hY3 := (far (w.heap.size + 1) (by omega)).trans ht.y
  have hQ3 : Dk ((((w3.setCell ⟨w.heap.size, 0, none⟩ (.slice ad2 n cap2)).setCell ⟨w.heap.size, 1, none⟩ (.bool false)).setCell ⟨w.heap.size, 2, none⟩ (.int .i64 fuse)).setCell ⟨w.heap.size, 3, none⟩ (.int .i64 fault)) (w.heap.size + 2) 24 (.slice none 0 0) false 0 0 := (far (w.heap.size + 2) (by omega)).trans ht.q
  have hB3 := below_put hbb (q := w.heap.size) (Nat.le_refl _) (.slice ad2 n cap2) (.bool false) (.int .i64 fuse) (.int .i64 fault)
  obtain ⟨⟨x0, x1, x2, x3⟩, m0, m1, m2, m3⟩ := hX3.facts
  have hlX3 := hX3.lt
  have hneX : (Value.slice ad2 n cap2).ownBlock ≠ some w.heap.size := fun e => by have := hf _ e; omega
  have hneQ : (Value.slice ad2 n cap2).ownBlock ≠ some (w.heap.size + 2) := fun e => by have := hf _ e; omega
  obtain ⟨W3, hW3⟩ : ∃ W, W = ((((w3.setCell ⟨w.heap.size, 0, none⟩ (.slice ad2 n cap2)).setCell ⟨w.heap.size, 1, none⟩ (.bool false)).setCell ⟨w.heap.size, 2, none⟩ (.int .i64 fuse)).setCell ⟨w.heap.size, 3, none⟩ (.int .i64 fault)) := ⟨_, rfl⟩
  rw [← hW3] at hVx hY3 hQ3 hB3
  go_upto_region 12 with (fail)
  rw [← hW3]
  clear hW3 x0 x1 x2 x3 m0 m1 m2 m3 far hX3 hbb hb ht hf hi hlX3
  have hVW3 := hVx
  have hYW3 := hY3
  have hQW3 := hQ3
  have hBW3 := hB3
  clear hVx hY3 hQ3 hB3
  obtain ⟨⟨x0, x1, x2, x3⟩, m0, m1, m2, m3⟩ := hVW3.d.facts
  obtain ⟨y0, y1, y2, y3⟩ := box4 hYW3
  have hlXW3 := hVW3.d.lt
  have hfd : decide (0 < fault) = true := decide_eq_true hfp
  have hfw : IntKind.i64.wrap (fault - 1) = fault - 1 := IntWalk.i64_in _ (by omega)
  obtain ⟨W4, hWW4⟩ : ∃ W, W = W3.setCell ⟨w.heap.size, 3, none⟩ (.int .i64 (fault - 1)) := ⟨_, rfl⟩
  have hVW4 : Var W4 w.heap.size ad2 n cap2 false fuse (fault - 1) fs := by rw [hWW4]; exact ⟨hVW3.d.set3 _, (Inp.set hVW3.i hneX).mono (by simp [World.setCell])⟩
  have hYW4 : W4.heap[w.heap.size + 1]? = some (.cells (scells k nm dt z) 27) := by rw [hWW4]; exact (Below.heap_setCell _ _ _ (w.heap.size + 1) (by simp)).trans hYW3
  have hQW4 : Dk W4 (w.heap.size + 2) 24 (.slice none 0 0) false 0 0 := by rw [hWW4]; exact (Below.heap_setCell _ _ _ (w.heap.size + 2) (by simp)).trans hQW3
  have hBW4 : Below w.heap.size w W4 := by rw [hWW4]; exact hBW3.setCell (p := ⟨w.heap.size, 3, none⟩) (Nat.le_refl _) _
  go_upto_region 17 with (fail)
  rw [← hWW4]
  clear hWW4
  clear x0 x1 x2 x3 m0 m1 m2 m3 y0 y1 y2 y3
  obtain ⟨⟨x0, x1, x2, x3⟩, m0, m1, m2, m3⟩ := hVW4.d.facts
  obtain ⟨y0, y1, y2, y3⟩ := box4 hYW4
  have hlXW4 := hVW4.d.lt
  have hue : (fuse == 0) = false := by simp [hu]
  have hud : decide (0 < fuse) = true := decide_eq_true hup
  have huw : IntKind.i64.wrap (fuse - 1) = fuse - 1 := IntWalk.i64_in _ (by omega)
  obtain ⟨W5, hWW5⟩ : ∃ W, W = W4.setCell ⟨w.heap.size, 2, none⟩ (.int .i64 (fuse - 1)) := ⟨_, rfl⟩
  have hVW5 : Var W5 w.heap.size ad2 n cap2 false (fuse - 1) (fault - 1) fs := by rw [hWW5]; exact ⟨hVW4.d.set2 _, (Inp.set hVW4.i hneX).mono (by simp [World.setCell])⟩
  have hYW5 : W5.heap[w.heap.size + 1]? = some (.cells (scells k nm dt z) 27) := by rw [hWW5]; exact (Below.heap_setCell _ _ _ (w.heap.size + 1) (by simp)).trans hYW4
  have hQW5 : Dk W5 (w.heap.size + 2) 24 (.slice none 0 0) false 0 0 := by rw [hWW5]; exact (Below.heap_setCell _ _ _ (w.heap.size + 2) (by simp)).trans hQW4
  have hBW5 : Below w.heap.size w W5 := by rw [hWW5]; exact hBW4.setCell (p := ⟨w.heap.size, 2, none⟩) (Nat.le_refl _) _
  go_upto_region 24 with (fail)
  rw [← hWW5]
  clear hWW5
  clear x0 x1 x2 x3 m0 m1 m2 m3 y0 y1 y2 y3
  obtain ⟨⟨x0, x1, x2, x3⟩, m0, m1, m2, m3⟩ := hVW5.d.facts
  obtain ⟨y0, y1, y2, y3⟩ := box4 hYW5
  have hlXW5 := hVW5.d.lt
  have Hdn := Lib.hid (ddone_any _ ad2 n cap2 false (fuse - 1) (fault - 1) fs k nm dt z hVW5.i HR.out Hk.out Href.out hn hd hz0 hz1)
  go_wp2_with fail
  refine (Hdn.out).mono ?_
  rintro e w6 ⟨ad3, n3, cap3, rfl, hi6, hb6, hf6⟩
  have hQ6 := hQW5.keep hb6 hQW5.lt
  have hX6 := hVW5.d.keep hb6 hVW5.d.lt
  have hB6 := hBW5.trans (hb6.mono hBW5.size)
  have hlQW5 := hQW5.lt
  have hlX6 := hX6.lt
  have hneX3 : (Value.slice ad3 n3 cap3).ownBlock ≠ some w.heap.size := fun e => by have := hf6 _ e; omega
  have hneQ3 : (Value.slice ad3 n3 cap3).ownBlock ≠ some (w.heap.size + 2) := fun e => by have := hf6 _ e; omega
  have hV := Var.put (down := false) (fuse := (fuse - 1)) (fault := (fault - 1)) hQ6 hi6 hneQ3
  obtain ⟨⟨r0, r1, r2, r3⟩, _⟩ := hV.d.facts
  obtain ⟨⟨q0, q1, q2, q3⟩, g0, g1, g2, g3⟩ := (hQ6).facts
  have hlq := (hQ6).lt
  have HV := Lib.hid hV.i
  have HB := Lib.hid (below_put hB6 (q := w.heap.size + 2) (by omega) (.slice ad3 n3 cap3) (.bool false) (.int .i64 (fuse - 1)) (.int .i64 (fault - 1)))
  clear hV 
  go_wp2
  exact bodyPost_ret (v := .tuple #[.agg (dcells (.slice ad3 n3 cap3) false (fuse - 1) (fault - 1)), .int .i64 0]) (by simp [results, Try.results11, go_sem, r0, r1, r2, r3]) rfl ⟨_, _, _, rfl, HV.out, HB.out⟩

set_option maxHeartbeats 4000000 in
theorem ddo_donen_p (w : World) (ad : Option Addr) (n cap : Nat) (down : Bool) (fuse fault : Int) (fs : List F) (k : Int) (nm dt : ByteArray) (z : Int) (h : DIn w ad n cap fuse fault fs) (hn : nm.size ≤ 9223372036854775807) (hd : dt.size ≤ 9223372036854775807) (hz0 : -9223372036854775808 ≤ z) (hz1 : z ≤ 9223372036854775807) (hR : Right fs) (hk : 1 ≤ k ∧ k ≤ 5) (hdn : down = false) (hr : ref fs ⟨k, nm, dt, z⟩ = 0) (hfe : (fault == 0) = false) (hfp : 0 < fault) (hu : ¬ fuse = 0) (hup : ¬ 0 < fuse) :
    Calls Try.prog 11 #[.agg (dcells (.slice ad n cap) down fuse fault), .agg (scells k nm dt z)] w fun e w' => DQ w (⟨eff fs ⟨k, nm, dt, z⟩, false, fuse, (fault - 1)⟩, 0) e w' := by
  subst hdn
  have hb0 : Below w.heap.size w (((w.alloc (.cells (dcells (.slice ad n cap) false fuse fault) 24)).alloc (.cells (scells k nm dt z) 27)).alloc (.cells #[.slice none 0 0, .bool false, .int .i64 0, .int .i64 0] 24)) := (((Below.refl _ w).alloc (Nat.le_refl _) _).alloc (by simp) _).alloc (by simp; omega) _
  have h3 : Three w (.cells (dcells (.slice ad n cap) false fuse fault) 24) (.cells (scells k nm dt z) 27) (.cells #[.slice none 0 0, .bool false, .int .i64 0, .int .i64 0] 24) (((w.alloc (.cells (dcells (.slice ad n cap) false fuse fault) 24)).alloc (.cells (scells k nm dt z) 27)).alloc (.cells #[.slice none 0 0, .bool false, .int .i64 0, .int .i64 0] 24)) := by
    refine ⟨blk_alloc (blk_alloc (blk_new w _) _) _, ?_, ?_⟩
    · have := blk_new (w.alloc (.cells (dcells (.slice ad n cap) false fuse fault) 24)) (.cells (scells k nm dt z) 27)
      exact blk_alloc (by simpa using this) _
    · have := blk_new ((w.alloc (.cells (dcells (.slice ad n cap) false fuse fault) 24)).alloc (.cells (scells k nm dt z) 27)) (.cells #[.slice none 0 0, .bool false, .int .i64 0, .int .i64 0] 24)
      simpa using this
  have Hb0 := Lib.hid hb0
  have H3 := Lib.hid h3
  have H := Lib.hid h
  have Hfit := Lib.hid h.fit
  clear h hb0 h3
  have Hc := Lib.hid (dcheck_ok _ ad cap n false fuse fault fs (H.out.i.under Hb0.out) hR)
  have h64 : n ≤ 64 := by have := H.out.i.1; have := hR.1; omega
  have HR := Lib.hid hR
  clear hR
  have hk1 : ¬ k < 1 := by omega
  have hk6 : ¬ 6 ≤ k := by omega
  have hkd : decide (k < 1) = false := decide_eq_false hk1
  have hke : decide (6 ≤ k) = false := decide_eq_false hk6
  have Hk := Lib.hid hk
  clear hk
  go_enter Try.func11, Try.ntmps11
  go_wp2_with fail
  refine (Hc.out).mono ?_
  rintro e w1 ⟨rfl, hb⟩
  have ht1 := H3.out.below hb
  have hb1 := Hb0.out.trans (hb.mono Hb0.out.size)
  have HT1 := Lib.hid ht1
  have Hb1 := Lib.hid hb1
  obtain ⟨x0, x1, x2, x3⟩ := box4 ht1.x
  obtain ⟨y0, y1, y2, y3⟩ := box4 ht1.y
  clear hb ht1 hb1
  have Href := Lib.hid hr
  have Hrf := Lib.hid (drefuses_any _ ad n cap false fuse fault fs k nm dt z (H.out.under Hb1.out).i HR.out hn hd hz0 hz1)
  rw [hr] at Hrf
  go_wp2_with fail
  refine (Hrf.out).mono ?_
  rintro e w2 ⟨rfl, hb⟩
  have ht2 := HT1.out.below hb
  have hb2 := Hb1.out.trans (hb.mono Hb1.out.size)
  have HT2 := Lib.hid ht2
  have Hb2 := Lib.hid hb2
  clear x0 x1 x2 x3 y0 y1 y2 y3
  obtain ⟨x0, x1, x2, x3⟩ := box4 ht2.x
  obtain ⟨y0, y1, y2, y3⟩ := box4 ht2.y
  clear hb ht2 hb2
  clear hr
  have bu0 := H.out.u0
  have bu1 := H.out.u1
  have bf0 := H.out.f0
  have bf1 := H.out.f1
  have Hcp := Lib.hid (copyW_any _ ad n cap false fuse fault fs (H.out.under Hb2.out).i (by omega))
  go_wp2_with fail
  refine (Hcp.out).mono ?_
  rintro e w3 ⟨ad2, cap2, rfl, hi, hb, hf⟩
  have ht := HT2.out.below hb
  have hbb := Hb2.out.trans (hb.mono Hb2.out.size)
  have hlt2 : w.heap.size + 2 < w2.heap.size := HT2.out.lt
  clear x0 x1 x2 x3 y0 y1 y2 y3
  have hX3 : Dk w3 w.heap.size 24 (.slice ad n cap) false fuse fault := ht.x
  have hVx := Var.put (down := false) (fuse := fuse) (fault := fault) hX3 hi (fun e => by have := hf _ e; omega)
  have far : ∀ k, k ≠ w.heap.size → ((((w3.setCell ⟨w.heap.size, 0, none⟩ (.slice ad2 n cap2)).setCell ⟨w.heap.size, 1, none⟩ (.bool false)).setCell ⟨w.heap.size, 2, none⟩ (.int .i64 fuse)).setCell ⟨w.heap.size, 3, none⟩ (.int .i64 fault)).heap[k]? = w3.heap[k]? := fun k hk => by
    rw [Below.heap_setCell _ _ _ k hk, Below.heap_setCell _ _ _ k hk, Below.heap_setCell _ _ _ k hk, Below.heap_setCell _ _ _ k hk]
  have hY3 := (far (w.heap.size + 1) (by omega)).trans ht.y
  have hQ3 : Dk ((((w3.setCell ⟨w.heap.size, 0, none⟩ (.slice ad2 n cap2)).setCell ⟨w.heap.size, 1, none⟩ (.bool false)).setCell ⟨w.heap.size, 2, none⟩ (.int .i64 fuse)).setCell ⟨w.heap.size, 3, none⟩ (.int .i64 fault)) (w.heap.size + 2) 24 (.slice none 0 0) false 0 0 := (far (w.heap.size + 2) (by omega)).trans ht.q
  have hB3 := below_put hbb (q := w.heap.size) (Nat.le_refl _) (.slice ad2 n cap2) (.bool false) (.int .i64 fuse) (.int .i64 fault)
  obtain ⟨⟨x0, x1, x2, x3⟩, m0, m1, m2, m3⟩ := hX3.facts
  have hlX3 := hX3.lt
  have hneX : (Value.slice ad2 n cap2).ownBlock ≠ some w.heap.size := fun e => by have := hf _ e; omega
  have hneQ : (Value.slice ad2 n cap2).ownBlock ≠ some (w.heap.size + 2) := fun e => by have := hf _ e; omega
  obtain ⟨W3, hW3⟩ : ∃ W, W = ((((w3.setCell ⟨w.heap.size, 0, none⟩ (.slice ad2 n cap2)).setCell ⟨w.heap.size, 1, none⟩ (.bool false)).setCell ⟨w.heap.size, 2, none⟩ (.int .i64 fuse)).setCell ⟨w.heap.size, 3, none⟩ (.int .i64 fault)) := ⟨_, rfl⟩
  rw [← hW3] at hVx hY3 hQ3 hB3
  go_upto_region 12 with (fail)
  rw [← hW3]
  clear hW3 x0 x1 x2 x3 m0 m1 m2 m3 far hX3 hbb hb ht hf hi hlX3
  have hVW3 := hVx
  have hYW3 := hY3
  have hQW3 := hQ3
  have hBW3 := hB3
  clear hVx hY3 hQ3 hB3
  obtain ⟨⟨x0, x1, x2, x3⟩, m0, m1, m2, m3⟩ := hVW3.d.facts
  obtain ⟨y0, y1, y2, y3⟩ := box4 hYW3
  have hlXW3 := hVW3.d.lt
  have hfd : decide (0 < fault) = true := decide_eq_true hfp
  have hfw : IntKind.i64.wrap (fault - 1) = fault - 1 := IntWalk.i64_in _ (by omega)
  obtain ⟨W4, hWW4⟩ : ∃ W, W = W3.setCell ⟨w.heap.size, 3, none⟩ (.int .i64 (fault - 1)) := ⟨_, rfl⟩
  have hVW4 : Var W4 w.heap.size ad2 n cap2 false fuse (fault - 1) fs := by rw [hWW4]; exact ⟨hVW3.d.set3 _, (Inp.set hVW3.i hneX).mono (by simp [World.setCell])⟩
  have hYW4 : W4.heap[w.heap.size + 1]? = some (.cells (scells k nm dt z) 27) := by rw [hWW4]; exact (Below.heap_setCell _ _ _ (w.heap.size + 1) (by simp)).trans hYW3
  have hQW4 : Dk W4 (w.heap.size + 2) 24 (.slice none 0 0) false 0 0 := by rw [hWW4]; exact (Below.heap_setCell _ _ _ (w.heap.size + 2) (by simp)).trans hQW3
  have hBW4 : Below w.heap.size w W4 := by rw [hWW4]; exact hBW3.setCell (p := ⟨w.heap.size, 3, none⟩) (Nat.le_refl _) _
  go_upto_region 17 with (fail)
  rw [← hWW4]
  clear hWW4
  clear x0 x1 x2 x3 m0 m1 m2 m3 y0 y1 y2 y3
  obtain ⟨⟨x0, x1, x2, x3⟩, m0, m1, m2, m3⟩ := hVW4.d.facts
  obtain ⟨y0, y1, y2, y3⟩ := box4 hYW4
  have hlXW4 := hVW4.d.lt
  have hue : (fuse == 0) = false := by simp [hu]
  have hud : decide (0 < fuse) = false := decide_eq_false (by omega)
  go_upto_region 24 with (fail)
  have Hdn := Lib.hid (ddone_any _ ad2 n cap2 false fuse (fault - 1) fs k nm dt z hVW4.i HR.out Hk.out Href.out hn hd hz0 hz1)
  go_wp2_with fail
  refine (Hdn.out).mono ?_
  rintro e w6 ⟨ad3, n3, cap3, rfl, hi6, hb6, hf6⟩
  have hQ6 := hQW4.keep hb6 hQW4.lt
  have hX6 := hVW4.d.keep hb6 hVW4.d.lt
  have hB6 := hBW4.trans (hb6.mono hBW4.size)
  have hlQW4 := hQW4.lt
  have hlX6 := hX6.lt
  have hneX3 : (Value.slice ad3 n3 cap3).ownBlock ≠ some w.heap.size := fun e => by have := hf6 _ e; omega
  have hneQ3 : (Value.slice ad3 n3 cap3).ownBlock ≠ some (w.heap.size + 2) := fun e => by have := hf6 _ e; omega
  have hV := Var.put (down := false) (fuse := fuse) (fault := (fault - 1)) hQ6 hi6 hneQ3
  obtain ⟨⟨r0, r1, r2, r3⟩, _⟩ := hV.d.facts
  obtain ⟨⟨q0, q1, q2, q3⟩, g0, g1, g2, g3⟩ := (hQ6).facts
  have hlq := (hQ6).lt
  have HV := Lib.hid hV.i
  have HB := Lib.hid (below_put hB6 (q := w.heap.size + 2) (by omega) (.slice ad3 n3 cap3) (.bool false) (.int .i64 fuse) (.int .i64 (fault - 1)))
  clear hV 
  go_wp2
  exact bodyPost_ret (v := .tuple #[.agg (dcells (.slice ad3 n3 cap3) false fuse (fault - 1)), .int .i64 0]) (by simp [results, Try.results11, go_sem, r0, r1, r2, r3]) rfl ⟨_, _, _, rfl, HV.out, HB.out⟩

set_option maxHeartbeats 4000000 in
theorem ddo_fuseo_n (w : World) (ad : Option Addr) (n cap : Nat) (down : Bool) (fuse fault : Int) (fs : List F) (k : Int) (nm dt : ByteArray) (z : Int) (h : DIn w ad n cap fuse fault fs) (hn : nm.size ≤ 9223372036854775807) (hd : dt.size ≤ 9223372036854775807) (hz0 : -9223372036854775808 ≤ z) (hz1 : z ≤ 9223372036854775807) (hR : Right fs) (hk : 1 ≤ k ∧ k ≤ 5) (hdn : down = false) (hr : ref fs ⟨k, nm, dt, z⟩ = 0) (hfe : (fault == 0) = false) (hfp : ¬ 0 < fault) (hu : fuse = 0) (h2 : ¬ k = 2) :
    Calls Try.prog 11 #[.agg (dcells (.slice ad n cap) down fuse fault), .agg (scells k nm dt z)] w fun e w' => DQ w (⟨fs, true, fuse, fault⟩, 17) e w' := by
  subst hdn
  have Hu := Lib.hid hu
  clear hu
  have hb0 : Below w.heap.size w (((w.alloc (.cells (dcells (.slice ad n cap) false fuse fault) 24)).alloc (.cells (scells k nm dt z) 27)).alloc (.cells #[.slice none 0 0, .bool false, .int .i64 0, .int .i64 0] 24)) := (((Below.refl _ w).alloc (Nat.le_refl _) _).alloc (by simp) _).alloc (by simp; omega) _
  have h3 : Three w (.cells (dcells (.slice ad n cap) false fuse fault) 24) (.cells (scells k nm dt z) 27) (.cells #[.slice none 0 0, .bool false, .int .i64 0, .int .i64 0] 24) (((w.alloc (.cells (dcells (.slice ad n cap) false fuse fault) 24)).alloc (.cells (scells k nm dt z) 27)).alloc (.cells #[.slice none 0 0, .bool false, .int .i64 0, .int .i64 0] 24)) := by
    refine ⟨blk_alloc (blk_alloc (blk_new w _) _) _, ?_, ?_⟩
    · have := blk_new (w.alloc (.cells (dcells (.slice ad n cap) false fuse fault) 24)) (.cells (scells k nm dt z) 27)
      exact blk_alloc (by simpa using this) _
    · have := blk_new ((w.alloc (.cells (dcells (.slice ad n cap) false fuse fault) 24)).alloc (.cells (scells k nm dt z) 27)) (.cells #[.slice none 0 0, .bool false, .int .i64 0, .int .i64 0] 24)
      simpa using this
  have Hb0 := Lib.hid hb0
  have H3 := Lib.hid h3
  have H := Lib.hid h
  have Hfit := Lib.hid h.fit
  clear h hb0 h3
  have Hc := Lib.hid (dcheck_ok _ ad cap n false fuse fault fs (H.out.i.under Hb0.out) hR)
  have h64 : n ≤ 64 := by have := H.out.i.1; have := hR.1; omega
  have HR := Lib.hid hR
  clear hR
  have hk1 : ¬ k < 1 := by omega
  have hk6 : ¬ 6 ≤ k := by omega
  have hkd : decide (k < 1) = false := decide_eq_false hk1
  have hke : decide (6 ≤ k) = false := decide_eq_false hk6
  have Hk := Lib.hid hk
  clear hk
  go_enter Try.func11, Try.ntmps11
  go_wp2_with fail
  refine (Hc.out).mono ?_
  rintro e w1 ⟨rfl, hb⟩
  have ht1 := H3.out.below hb
  have hb1 := Hb0.out.trans (hb.mono Hb0.out.size)
  have HT1 := Lib.hid ht1
  have Hb1 := Lib.hid hb1
  obtain ⟨x0, x1, x2, x3⟩ := box4 ht1.x
  obtain ⟨y0, y1, y2, y3⟩ := box4 ht1.y
  clear hb ht1 hb1
  have Href := Lib.hid hr
  have Hrf := Lib.hid (drefuses_any _ ad n cap false fuse fault fs k nm dt z (H.out.under Hb1.out).i HR.out hn hd hz0 hz1)
  rw [hr] at Hrf
  go_wp2_with fail
  refine (Hrf.out).mono ?_
  rintro e w2 ⟨rfl, hb⟩
  have ht2 := HT1.out.below hb
  have hb2 := Hb1.out.trans (hb.mono Hb1.out.size)
  have HT2 := Lib.hid ht2
  have Hb2 := Lib.hid hb2
  clear x0 x1 x2 x3 y0 y1 y2 y3
  obtain ⟨x0, x1, x2, x3⟩ := box4 ht2.x
  obtain ⟨y0, y1, y2, y3⟩ := box4 ht2.y
  clear hb ht2 hb2
  clear hr
  have bu0 := H.out.u0
  have bu1 := H.out.u1
  have bf0 := H.out.f0
  have bf1 := H.out.f1
  have Hcp := Lib.hid (copyW_any _ ad n cap false fuse fault fs (H.out.under Hb2.out).i (by omega))
  go_wp2_with fail
  refine (Hcp.out).mono ?_
  rintro e w3 ⟨ad2, cap2, rfl, hi, hb, hf⟩
  have ht := HT2.out.below hb
  have hbb := Hb2.out.trans (hb.mono Hb2.out.size)
  have hlt2 : w.heap.size + 2 < w2.heap.size := HT2.out.lt
  clear x0 x1 x2 x3 y0 y1 y2 y3
  have hX3 : Dk w3 w.heap.size 24 (.slice ad n cap) false fuse fault := ht.x
  have hVx := Var.put (down := false) (fuse := fuse) (fault := fault) hX3 hi (fun e => by have := hf _ e; omega)
  have far : ∀ k, k ≠ w.heap.size → ((((w3.setCell ⟨w.heap.size, 0, none⟩ (.slice ad2 n cap2)).setCell ⟨w.heap.size, 1, none⟩ (.bool false)).setCell ⟨w.heap.size, 2, none⟩ (.int .i64 fuse)).setCell ⟨w.heap.size, 3, none⟩ (.int .i64 fault)).heap[k]? = w3.heap[k]? := fun k hk => by
    rw [Below.heap_setCell _ _ _ k hk, Below.heap_setCell _ _ _ k hk, Below.heap_setCell _ _ _ k hk, Below.heap_setCell _ _ _ k hk]
  have hY3 := (far (w.heap.size + 1) (by omega)).trans ht.y
  have hQ3 : Dk ((((w3.setCell ⟨w.heap.size, 0, none⟩ (.slice ad2 n cap2)).setCell ⟨w.heap.size, 1, none⟩ (.bool false)).setCell ⟨w.heap.size, 2, none⟩ (.int .i64 fuse)).setCell ⟨w.heap.size, 3, none⟩ (.int .i64 fault)) (w.heap.size + 2) 24 (.slice none 0 0) false 0 0 := (far (w.heap.size + 2) (by omega)).trans ht.q
  have hB3 := below_put hbb (q := w.heap.size) (Nat.le_refl _) (.slice ad2 n cap2) (.bool false) (.int .i64 fuse) (.int .i64 fault)
  obtain ⟨⟨x0, x1, x2, x3⟩, m0, m1, m2, m3⟩ := hX3.facts
  have hlX3 := hX3.lt
  have hneX : (Value.slice ad2 n cap2).ownBlock ≠ some w.heap.size := fun e => by have := hf _ e; omega
  have hneQ : (Value.slice ad2 n cap2).ownBlock ≠ some (w.heap.size + 2) := fun e => by have := hf _ e; omega
  obtain ⟨W3, hW3⟩ : ∃ W, W = ((((w3.setCell ⟨w.heap.size, 0, none⟩ (.slice ad2 n cap2)).setCell ⟨w.heap.size, 1, none⟩ (.bool false)).setCell ⟨w.heap.size, 2, none⟩ (.int .i64 fuse)).setCell ⟨w.heap.size, 3, none⟩ (.int .i64 fault)) := ⟨_, rfl⟩
  rw [← hW3] at hVx hY3 hQ3 hB3
  go_upto_region 12 with (fail)
  rw [← hW3]
  clear hW3 x0 x1 x2 x3 m0 m1 m2 m3 far hX3 hbb hb ht hf hi hlX3
  have hVW3 := hVx
  have hYW3 := hY3
  have hQW3 := hQ3
  have hBW3 := hB3
  clear hVx hY3 hQ3 hB3
  obtain ⟨⟨x0, x1, x2, x3⟩, m0, m1, m2, m3⟩ := hVW3.d.facts
  obtain ⟨y0, y1, y2, y3⟩ := box4 hYW3
  have hlXW3 := hVW3.d.lt
  have hfd : decide (0 < fault) = false := decide_eq_false (by omega)
  go_upto_region 17 with (fail)
  have hue : (fuse == 0) = true := by have := Hu.out; simp [this]
  obtain ⟨W5, hWW5⟩ : ∃ W, W = W3.setCell ⟨w.heap.size, 1, none⟩ (.bool true) := ⟨_, rfl⟩
  have hVW5 : Var W5 w.heap.size ad2 n cap2 true fuse fault fs := by rw [hWW5]; exact ⟨hVW3.d.set1 _, (Inp.set hVW3.i hneX).mono (by simp [World.setCell])⟩
  have hYW5 : W5.heap[w.heap.size + 1]? = some (.cells (scells k nm dt z) 27) := by rw [hWW5]; exact (Below.heap_setCell _ _ _ (w.heap.size + 1) (by simp)).trans hYW3
  have hQW5 : Dk W5 (w.heap.size + 2) 24 (.slice none 0 0) false 0 0 := by rw [hWW5]; exact (Below.heap_setCell _ _ _ (w.heap.size + 2) (by simp)).trans hQW3
  have hBW5 : Below w.heap.size w W5 := by rw [hWW5]; exact hBW3.setCell (p := ⟨w.heap.size, 1, none⟩) (Nat.le_refl _) _
  go_upto_region 19 with (fail)
  rw [← hWW5]
  clear hWW5
  clear x0 x1 x2 x3 m0 m1 m2 m3 y0 y1 y2 y3
  obtain ⟨⟨x0, x1, x2, x3⟩, m0, m1, m2, m3⟩ := hVW5.d.facts
  obtain ⟨y0, y1, y2, y3⟩ := box4 hYW5
  have hlXW5 := hVW5.d.lt
  have hlt5 := hQW5.lt
  have h2e : (k == 2) = false := by simp [h2]
  have hV := Var.put (down := true) (fuse := fuse) (fault := fault) hQW5 hVW5.i hneQ
  obtain ⟨⟨r0, r1, r2, r3⟩, _⟩ := hV.d.facts
  obtain ⟨⟨q0, q1, q2, q3⟩, g0, g1, g2, g3⟩ := (hQW5).facts
  have hlq := (hQW5).lt
  have HV := Lib.hid hV.i
  have HB := Lib.hid (below_put hBW5 (q := w.heap.size + 2) (by omega) (.slice ad2 n cap2) (.bool true) (.int .i64 fuse) (.int .i64 fault))
  clear hV 
  go_wp2
  exact bodyPost_ret (v := .tuple #[.agg (dcells (.slice ad2 n cap2) true fuse fault), .int .i64 17]) (by simp [results, Try.results11, go_sem, r0, r1, r2, r3]) rfl ⟨_, _, _, rfl, HV.out, HB.out⟩

set_option maxHeartbeats 4000000 in
theorem ddo_fuse2_n (w : World) (ad : Option Addr) (n cap : Nat) (down : Bool) (fuse fault : Int) (fs : List F) (k : Int) (nm dt : ByteArray) (z : Int) (h : DIn w ad n cap fuse fault fs) (hn : nm.size ≤ 9223372036854775807) (hd : dt.size ≤ 9223372036854775807) (hz0 : -9223372036854775808 ≤ z) (hz1 : z ≤ 9223372036854775807) (hR : Right fs) (hk : 1 ≤ k ∧ k ≤ 5) (hdn : down = false) (hr : ref fs ⟨k, nm, dt, z⟩ = 0) (hfe : (fault == 0) = false) (hfp : ¬ 0 < fault) (hu : fuse = 0) (h2 : k = 2) :
    Calls Try.prog 11 #[.agg (dcells (.slice ad n cap) down fuse fault), .agg (scells k nm dt z)] w fun e w' => DQ w (⟨eff fs ⟨k, nm, dt, z⟩, true, fuse, fault⟩, 17) e w' := by
  subst hdn
  have Hu := Lib.hid hu
  clear hu
  have h2e : (k == 2) = true := by simp [h2]
  clear h2
  have hb0 : Below w.heap.size w (((w.alloc (.cells (dcells (.slice ad n cap) false fuse fault) 24)).alloc (.cells (scells k nm dt z) 27)).alloc (.cells #[.slice none 0 0, .bool false, .int .i64 0, .int .i64 0] 24)) := (((Below.refl _ w).alloc (Nat.le_refl _) _).alloc (by simp) _).alloc (by simp; omega) _
  have h3 : Three w (.cells (dcells (.slice ad n cap) false fuse fault) 24) (.cells (scells k nm dt z) 27) (.cells #[.slice none 0 0, .bool false, .int .i64 0, .int .i64 0] 24) (((w.alloc (.cells (dcells (.slice ad n cap) false fuse fault) 24)).alloc (.cells (scells k nm dt z) 27)).alloc (.cells #[.slice none 0 0, .bool false, .int .i64 0, .int .i64 0] 24)) := by
    refine ⟨blk_alloc (blk_alloc (blk_new w _) _) _, ?_, ?_⟩
    · have := blk_new (w.alloc (.cells (dcells (.slice ad n cap) false fuse fault) 24)) (.cells (scells k nm dt z) 27)
      exact blk_alloc (by simpa using this) _
    · have := blk_new ((w.alloc (.cells (dcells (.slice ad n cap) false fuse fault) 24)).alloc (.cells (scells k nm dt z) 27)) (.cells #[.slice none 0 0, .bool false, .int .i64 0, .int .i64 0] 24)
      simpa using this
  have Hb0 := Lib.hid hb0
  have H3 := Lib.hid h3
  have H := Lib.hid h
  have Hfit := Lib.hid h.fit
  clear h hb0 h3
  have Hc := Lib.hid (dcheck_ok _ ad cap n false fuse fault fs (H.out.i.under Hb0.out) hR)
  have h64 : n ≤ 64 := by have := H.out.i.1; have := hR.1; omega
  have HR := Lib.hid hR
  clear hR
  have hk1 : ¬ k < 1 := by omega
  have hk6 : ¬ 6 ≤ k := by omega
  have hkd : decide (k < 1) = false := decide_eq_false hk1
  have hke : decide (6 ≤ k) = false := decide_eq_false hk6
  have Hk := Lib.hid hk
  clear hk
  go_enter Try.func11, Try.ntmps11
  go_wp2_with fail
  refine (Hc.out).mono ?_
  rintro e w1 ⟨rfl, hb⟩
  have ht1 := H3.out.below hb
  have hb1 := Hb0.out.trans (hb.mono Hb0.out.size)
  have HT1 := Lib.hid ht1
  have Hb1 := Lib.hid hb1
  obtain ⟨x0, x1, x2, x3⟩ := box4 ht1.x
  obtain ⟨y0, y1, y2, y3⟩ := box4 ht1.y
  clear hb ht1 hb1
  have Href := Lib.hid hr
  have Hrf := Lib.hid (drefuses_any _ ad n cap false fuse fault fs k nm dt z (H.out.under Hb1.out).i HR.out hn hd hz0 hz1)
  rw [hr] at Hrf
  go_wp2_with fail
  refine (Hrf.out).mono ?_
  rintro e w2 ⟨rfl, hb⟩
  have ht2 := HT1.out.below hb
  have hb2 := Hb1.out.trans (hb.mono Hb1.out.size)
  have HT2 := Lib.hid ht2
  have Hb2 := Lib.hid hb2
  clear x0 x1 x2 x3 y0 y1 y2 y3
  obtain ⟨x0, x1, x2, x3⟩ := box4 ht2.x
  obtain ⟨y0, y1, y2, y3⟩ := box4 ht2.y
  clear hb ht2 hb2
  clear hr
  have bu0 := H.out.u0
  have bu1 := H.out.u1
  have bf0 := H.out.f0
  have bf1 := H.out.f1
  have Hcp := Lib.hid (copyW_any _ ad n cap false fuse fault fs (H.out.under Hb2.out).i (by omega))
  go_wp2_with fail
  refine (Hcp.out).mono ?_
  rintro e w3 ⟨ad2, cap2, rfl, hi, hb, hf⟩
  have ht := HT2.out.below hb
  have hbb := Hb2.out.trans (hb.mono Hb2.out.size)
  have hlt2 : w.heap.size + 2 < w2.heap.size := HT2.out.lt
  clear x0 x1 x2 x3 y0 y1 y2 y3
  have hX3 : Dk w3 w.heap.size 24 (.slice ad n cap) false fuse fault := ht.x
  have hVx := Var.put (down := false) (fuse := fuse) (fault := fault) hX3 hi (fun e => by have := hf _ e; omega)
  have far : ∀ k, k ≠ w.heap.size → ((((w3.setCell ⟨w.heap.size, 0, none⟩ (.slice ad2 n cap2)).setCell ⟨w.heap.size, 1, none⟩ (.bool false)).setCell ⟨w.heap.size, 2, none⟩ (.int .i64 fuse)).setCell ⟨w.heap.size, 3, none⟩ (.int .i64 fault)).heap[k]? = w3.heap[k]? := fun k hk => by
    rw [Below.heap_setCell _ _ _ k hk, Below.heap_setCell _ _ _ k hk, Below.heap_setCell _ _ _ k hk, Below.heap_setCell _ _ _ k hk]
  have hY3 := (far (w.heap.size + 1) (by omega)).trans ht.y
  have hQ3 : Dk ((((w3.setCell ⟨w.heap.size, 0, none⟩ (.slice ad2 n cap2)).setCell ⟨w.heap.size, 1, none⟩ (.bool false)).setCell ⟨w.heap.size, 2, none⟩ (.int .i64 fuse)).setCell ⟨w.heap.size, 3, none⟩ (.int .i64 fault)) (w.heap.size + 2) 24 (.slice none 0 0) false 0 0 := (far (w.heap.size + 2) (by omega)).trans ht.q
  have hB3 := below_put hbb (q := w.heap.size) (Nat.le_refl _) (.slice ad2 n cap2) (.bool false) (.int .i64 fuse) (.int .i64 fault)
  obtain ⟨⟨x0, x1, x2, x3⟩, m0, m1, m2, m3⟩ := hX3.facts
  have hlX3 := hX3.lt
  have hneX : (Value.slice ad2 n cap2).ownBlock ≠ some w.heap.size := fun e => by have := hf _ e; omega
  have hneQ : (Value.slice ad2 n cap2).ownBlock ≠ some (w.heap.size + 2) := fun e => by have := hf _ e; omega
  obtain ⟨W3, hW3⟩ : ∃ W, W = ((((w3.setCell ⟨w.heap.size, 0, none⟩ (.slice ad2 n cap2)).setCell ⟨w.heap.size, 1, none⟩ (.bool false)).setCell ⟨w.heap.size, 2, none⟩ (.int .i64 fuse)).setCell ⟨w.heap.size, 3, none⟩ (.int .i64 fault)) := ⟨_, rfl⟩
  rw [← hW3] at hVx hY3 hQ3 hB3
  go_upto_region 12 with (fail)
  rw [← hW3]
  clear hW3 x0 x1 x2 x3 m0 m1 m2 m3 far hX3 hbb hb ht hf hi hlX3
  have hVW3 := hVx
  have hYW3 := hY3
  have hQW3 := hQ3
  have hBW3 := hB3
  clear hVx hY3 hQ3 hB3
  obtain ⟨⟨x0, x1, x2, x3⟩, m0, m1, m2, m3⟩ := hVW3.d.facts
  obtain ⟨y0, y1, y2, y3⟩ := box4 hYW3
  have hlXW3 := hVW3.d.lt
  have hfd : decide (0 < fault) = false := decide_eq_false (by omega)
  go_upto_region 17 with (fail)
  have hue : (fuse == 0) = true := by have := Hu.out; simp [this]
  obtain ⟨W5, hWW5⟩ : ∃ W, W = W3.setCell ⟨w.heap.size, 1, none⟩ (.bool true) := ⟨_, rfl⟩
  have hVW5 : Var W5 w.heap.size ad2 n cap2 true fuse fault fs := by rw [hWW5]; exact ⟨hVW3.d.set1 _, (Inp.set hVW3.i hneX).mono (by simp [World.setCell])⟩
  have hYW5 : W5.heap[w.heap.size + 1]? = some (.cells (scells k nm dt z) 27) := by rw [hWW5]; exact (Below.heap_setCell _ _ _ (w.heap.size + 1) (by simp)).trans hYW3
  have hQW5 : Dk W5 (w.heap.size + 2) 24 (.slice none 0 0) false 0 0 := by rw [hWW5]; exact (Below.heap_setCell _ _ _ (w.heap.size + 2) (by simp)).trans hQW3
  have hBW5 : Below w.heap.size w W5 := by rw [hWW5]; exact hBW3.setCell (p := ⟨w.heap.size, 1, none⟩) (Nat.le_refl _) _
  go_upto_region 19 with (fail)
  rw [← hWW5]
  clear hWW5
  clear x0 x1 x2 x3 m0 m1 m2 m3 y0 y1 y2 y3
  obtain ⟨⟨x0, x1, x2, x3⟩, m0, m1, m2, m3⟩ := hVW5.d.facts
  obtain ⟨y0, y1, y2, y3⟩ := box4 hYW5
  have hlXW5 := hVW5.d.lt
  have hlt5 := hQW5.lt
  have Hdn := Lib.hid (ddone_any _ ad2 n cap2 true fuse fault fs k nm dt z hVW5.i HR.out Hk.out Href.out hn hd hz0 hz1)
  go_wp2_with fail
  refine (Hdn.out).mono ?_
  rintro e w6 ⟨ad3, n3, cap3, rfl, hi6, hb6, hf6⟩
  have hQ6 := hQW5.keep hb6 hQW5.lt
  have hX6 := hVW5.d.keep hb6 hVW5.d.lt
  have hB6 := hBW5.trans (hb6.mono hBW5.size)
  have hlQW5 := hQW5.lt
  have hlX6 := hX6.lt
  have hneX3 : (Value.slice ad3 n3 cap3).ownBlock ≠ some w.heap.size := fun e => by have := hf6 _ e; omega
  have hneQ3 : (Value.slice ad3 n3 cap3).ownBlock ≠ some (w.heap.size + 2) := fun e => by have := hf6 _ e; omega
  have hV7 := Var.put (down := true) (fuse := fuse) (fault := fault) hX6 hi6 hneX3
  have hQ7 : Dk ((((w6.setCell ⟨w.heap.size, 0, none⟩ (.slice ad3 n3 cap3)).setCell ⟨w.heap.size, 1, none⟩ (.bool true)).setCell ⟨w.heap.size, 2, none⟩ (.int .i64 fuse)).setCell ⟨w.heap.size, 3, none⟩ (.int .i64 fault)) (w.heap.size + 2) 24 (.slice none 0 0) false 0 0 := by
    show ((((w6.setCell ⟨w.heap.size, 0, none⟩ (.slice ad3 n3 cap3)).setCell ⟨w.heap.size, 1, none⟩ (.bool true)).setCell ⟨w.heap.size, 2, none⟩ (.int .i64 fuse)).setCell ⟨w.heap.size, 3, none⟩ (.int .i64 fault)).heap[w.heap.size + 2]? = _
    rw [Below.heap_setCell _ _ _ _ (by simp), Below.heap_setCell _ _ _ _ (by simp), Below.heap_setCell _ _ _ _ (by simp), Below.heap_setCell _ _ _ _ (by simp)]
    exact hQ6
  have hB7 := below_put hB6 (q := w.heap.size) (Nat.le_refl _) (.slice ad3 n3 cap3) (.bool true) (.int .i64 fuse) (.int .i64 fault)
  clear x0 x1 x2 x3 m0 m1 m2 m3 y0 y1 y2 y3
  obtain ⟨⟨x0, x1, x2, x3⟩, m0, m1, m2, m3⟩ := hX6.facts
  obtain ⟨W7, hW7⟩ : ∃ W, W = ((((w6.setCell ⟨w.heap.size, 0, none⟩ (.slice ad3 n3 cap3)).setCell ⟨w.heap.size, 1, none⟩ (.bool true)).setCell ⟨w.heap.size, 2, none⟩ (.int .i64 fuse)).setCell ⟨w.heap.size, 3, none⟩ (.int .i64 fault)) := ⟨_, rfl⟩
  rw [← hW7] at hV7 hQ7 hB7
  go_upto_region 21 with (fail)
  rw [← hW7]
  clear hW7 x0 x1 x2 x3 m0 m1 m2 m3
  obtain ⟨⟨x0, x1, x2, x3⟩, m0, m1, m2, m3⟩ := hV7.d.facts
  have hlX7 := hV7.d.lt
  have hV := Var.put (down := true) (fuse := fuse) (fault := fault) hQ7 hV7.i hneQ3
  obtain ⟨⟨r0, r1, r2, r3⟩, _⟩ := hV.d.facts
  obtain ⟨⟨q0, q1, q2, q3⟩, g0, g1, g2, g3⟩ := (hQ7).facts
  have hlq := (hQ7).lt
  have HV := Lib.hid hV.i
  have HB := Lib.hid (below_put hB7 (q := w.heap.size + 2) (by omega) (.slice ad3 n3 cap3) (.bool true) (.int .i64 fuse) (.int .i64 fault))
  clear hV 
  go_wp2
  exact bodyPost_ret (v := .tuple #[.agg (dcells (.slice ad3 n3 cap3) true fuse fault), .int .i64 17]) (by simp [results, Try.results11, go_sem, r0, r1, r2, r3]) rfl ⟨_, _, _, rfl, HV.out, HB.out⟩

set_option maxHeartbeats 4000000 in
theorem ddo_donep_n (w : World) (ad : Option Addr) (n cap : Nat) (down : Bool) (fuse fault : Int) (fs : List F) (k : Int) (nm dt : ByteArray) (z : Int) (h : DIn w ad n cap fuse fault fs) (hn : nm.size ≤ 9223372036854775807) (hd : dt.size ≤ 9223372036854775807) (hz0 : -9223372036854775808 ≤ z) (hz1 : z ≤ 9223372036854775807) (hR : Right fs) (hk : 1 ≤ k ∧ k ≤ 5) (hdn : down = false) (hr : ref fs ⟨k, nm, dt, z⟩ = 0) (hfe : (fault == 0) = false) (hfp : ¬ 0 < fault) (hu : ¬ fuse = 0) (hup : 0 < fuse) :
    Calls Try.prog 11 #[.agg (dcells (.slice ad n cap) down fuse fault), .agg (scells k nm dt z)] w fun e w' => DQ w (⟨eff fs ⟨k, nm, dt, z⟩, false, (fuse - 1), fault⟩, 0) e w' := by
  subst hdn
  have hb0 : Below w.heap.size w (((w.alloc (.cells (dcells (.slice ad n cap) false fuse fault) 24)).alloc (.cells (scells k nm dt z) 27)).alloc (.cells #[.slice none 0 0, .bool false, .int .i64 0, .int .i64 0] 24)) := (((Below.refl _ w).alloc (Nat.le_refl _) _).alloc (by simp) _).alloc (by simp; omega) _
  have h3 : Three w (.cells (dcells (.slice ad n cap) false fuse fault) 24) (.cells (scells k nm dt z) 27) (.cells #[.slice none 0 0, .bool false, .int .i64 0, .int .i64 0] 24) (((w.alloc (.cells (dcells (.slice ad n cap) false fuse fault) 24)).alloc (.cells (scells k nm dt z) 27)).alloc (.cells #[.slice none 0 0, .bool false, .int .i64 0, .int .i64 0] 24)) := by
    refine ⟨blk_alloc (blk_alloc (blk_new w _) _) _, ?_, ?_⟩
    · have := blk_new (w.alloc (.cells (dcells (.slice ad n cap) false fuse fault) 24)) (.cells (scells k nm dt z) 27)
      exact blk_alloc (by simpa using this) _
    · have := blk_new ((w.alloc (.cells (dcells (.slice ad n cap) false fuse fault) 24)).alloc (.cells (scells k nm dt z) 27)) (.cells #[.slice none 0 0, .bool false, .int .i64 0, .int .i64 0] 24)
      simpa using this
  have Hb0 := Lib.hid hb0
  have H3 := Lib.hid h3
  have H := Lib.hid h
  have Hfit := Lib.hid h.fit
  clear h hb0 h3
  have Hc := Lib.hid (dcheck_ok _ ad cap n false fuse fault fs (H.out.i.under Hb0.out) hR)
  have h64 : n ≤ 64 := by have := H.out.i.1; have := hR.1; omega
  have HR := Lib.hid hR
  clear hR
  have hk1 : ¬ k < 1 := by omega
  have hk6 : ¬ 6 ≤ k := by omega
  have hkd : decide (k < 1) = false := decide_eq_false hk1
  have hke : decide (6 ≤ k) = false := decide_eq_false hk6
  have Hk := Lib.hid hk
  clear hk
  go_enter Try.func11, Try.ntmps11
  go_wp2_with fail
  refine (Hc.out).mono ?_
  rintro e w1 ⟨rfl, hb⟩
  have ht1 := H3.out.below hb
  have hb1 := Hb0.out.trans (hb.mono Hb0.out.size)
  have HT1 := Lib.hid ht1
  have Hb1 := Lib.hid hb1
  obtain ⟨x0, x1, x2, x3⟩ := box4 ht1.x
  obtain ⟨y0, y1, y2, y3⟩ := box4 ht1.y
  clear hb ht1 hb1
  have Href := Lib.hid hr
  have Hrf := Lib.hid (drefuses_any _ ad n cap false fuse fault fs k nm dt z (H.out.under Hb1.out).i HR.out hn hd hz0 hz1)
  rw [hr] at Hrf
  go_wp2_with fail
  refine (Hrf.out).mono ?_
  rintro e w2 ⟨rfl, hb⟩
  have ht2 := HT1.out.below hb
  have hb2 := Hb1.out.trans (hb.mono Hb1.out.size)
  have HT2 := Lib.hid ht2
  have Hb2 := Lib.hid hb2
  clear x0 x1 x2 x3 y0 y1 y2 y3
  obtain ⟨x0, x1, x2, x3⟩ := box4 ht2.x
  obtain ⟨y0, y1, y2, y3⟩ := box4 ht2.y
  clear hb ht2 hb2
  clear hr
  have bu0 := H.out.u0
  have bu1 := H.out.u1
  have bf0 := H.out.f0
  have bf1 := H.out.f1
  have Hcp := Lib.hid (copyW_any _ ad n cap false fuse fault fs (H.out.under Hb2.out).i (by omega))
  go_wp2_with fail
  refine (Hcp.out).mono ?_
  rintro e w3 ⟨ad2, cap2, rfl, hi, hb, hf⟩
  have ht := HT2.out.below hb
  have hbb := Hb2.out.trans (hb.mono Hb2.out.size)
  have hlt2 : w.heap.size + 2 < w2.heap.size := HT2.out.lt
  clear x0 x1 x2 x3 y0 y1 y2 y3
  have hX3 : Dk w3 w.heap.size 24 (.slice ad n cap) false fuse fault := ht.x
  have hVx := Var.put (down := false) (fuse := fuse) (fault := fault) hX3 hi (fun e => by have := hf _ e; omega)
  have far : ∀ k, k ≠ w.heap.size → ((((w3.setCell ⟨w.heap.size, 0, none⟩ (.slice ad2 n cap2)).setCell ⟨w.heap.size, 1, none⟩ (.bool false)).setCell ⟨w.heap.size, 2, none⟩ (.int .i64 fuse)).setCell ⟨w.heap.size, 3, none⟩ (.int .i64 fault)).heap[k]? = w3.heap[k]? := fun k hk => by
    rw [Below.heap_setCell _ _ _ k hk, Below.heap_setCell _ _ _ k hk, Below.heap_setCell _ _ _ k hk, Below.heap_setCell _ _ _ k hk]
  have hY3 := (far (w.heap.size + 1) (by omega)).trans ht.y
  have hQ3 : Dk ((((w3.setCell ⟨w.heap.size, 0, none⟩ (.slice ad2 n cap2)).setCell ⟨w.heap.size, 1, none⟩ (.bool false)).setCell ⟨w.heap.size, 2, none⟩ (.int .i64 fuse)).setCell ⟨w.heap.size, 3, none⟩ (.int .i64 fault)) (w.heap.size + 2) 24 (.slice none 0 0) false 0 0 := (far (w.heap.size + 2) (by omega)).trans ht.q
  have hB3 := below_put hbb (q := w.heap.size) (Nat.le_refl _) (.slice ad2 n cap2) (.bool false) (.int .i64 fuse) (.int .i64 fault)
  obtain ⟨⟨x0, x1, x2, x3⟩, m0, m1, m2, m3⟩ := hX3.facts
  have hlX3 := hX3.lt
  have hneX : (Value.slice ad2 n cap2).ownBlock ≠ some w.heap.size := fun e => by have := hf _ e; omega
  have hneQ : (Value.slice ad2 n cap2).ownBlock ≠ some (w.heap.size + 2) := fun e => by have := hf _ e; omega
  obtain ⟨W3, hW3⟩ : ∃ W, W = ((((w3.setCell ⟨w.heap.size, 0, none⟩ (.slice ad2 n cap2)).setCell ⟨w.heap.size, 1, none⟩ (.bool false)).setCell ⟨w.heap.size, 2, none⟩ (.int .i64 fuse)).setCell ⟨w.heap.size, 3, none⟩ (.int .i64 fault)) := ⟨_, rfl⟩
  rw [← hW3] at hVx hY3 hQ3 hB3
  go_upto_region 12 with (fail)
  rw [← hW3]
  clear hW3 x0 x1 x2 x3 m0 m1 m2 m3 far hX3 hbb hb ht hf hi hlX3
  have hVW3 := hVx
  have hYW3 := hY3
  have hQW3 := hQ3
  have hBW3 := hB3
  clear hVx hY3 hQ3 hB3
  obtain ⟨⟨x0, x1, x2, x3⟩, m0, m1, m2, m3⟩ := hVW3.d.facts
  obtain ⟨y0, y1, y2, y3⟩ := box4 hYW3
  have hlXW3 := hVW3.d.lt
  have hfd : decide (0 < fault) = false := decide_eq_false (by omega)
  go_upto_region 17 with (fail)
  have hue : (fuse == 0) = false := by simp [hu]
  have hud : decide (0 < fuse) = true := decide_eq_true hup
  have huw : IntKind.i64.wrap (fuse - 1) = fuse - 1 := IntWalk.i64_in _ (by omega)
  obtain ⟨W5, hWW5⟩ : ∃ W, W = W3.setCell ⟨w.heap.size, 2, none⟩ (.int .i64 (fuse - 1)) := ⟨_, rfl⟩
  have hVW5 : Var W5 w.heap.size ad2 n cap2 false (fuse - 1) fault fs := by rw [hWW5]; exact ⟨hVW3.d.set2 _, (Inp.set hVW3.i hneX).mono (by simp [World.setCell])⟩
  have hYW5 : W5.heap[w.heap.size + 1]? = some (.cells (scells k nm dt z) 27) := by rw [hWW5]; exact (Below.heap_setCell _ _ _ (w.heap.size + 1) (by simp)).trans hYW3
  have hQW5 : Dk W5 (w.heap.size + 2) 24 (.slice none 0 0) false 0 0 := by rw [hWW5]; exact (Below.heap_setCell _ _ _ (w.heap.size + 2) (by simp)).trans hQW3
  have hBW5 : Below w.heap.size w W5 := by rw [hWW5]; exact hBW3.setCell (p := ⟨w.heap.size, 2, none⟩) (Nat.le_refl _) _
  go_upto_region 24 with (fail)
  rw [← hWW5]
  clear hWW5
  clear x0 x1 x2 x3 m0 m1 m2 m3 y0 y1 y2 y3
  obtain ⟨⟨x0, x1, x2, x3⟩, m0, m1, m2, m3⟩ := hVW5.d.facts
  obtain ⟨y0, y1, y2, y3⟩ := box4 hYW5
  have hlXW5 := hVW5.d.lt
  have Hdn := Lib.hid (ddone_any _ ad2 n cap2 false (fuse - 1) fault fs k nm dt z hVW5.i HR.out Hk.out Href.out hn hd hz0 hz1)
  go_wp2_with fail
  refine (Hdn.out).mono ?_
  rintro e w6 ⟨ad3, n3, cap3, rfl, hi6, hb6, hf6⟩
  have hQ6 := hQW5.keep hb6 hQW5.lt
  have hX6 := hVW5.d.keep hb6 hVW5.d.lt
  have hB6 := hBW5.trans (hb6.mono hBW5.size)
  have hlQW5 := hQW5.lt
  have hlX6 := hX6.lt
  have hneX3 : (Value.slice ad3 n3 cap3).ownBlock ≠ some w.heap.size := fun e => by have := hf6 _ e; omega
  have hneQ3 : (Value.slice ad3 n3 cap3).ownBlock ≠ some (w.heap.size + 2) := fun e => by have := hf6 _ e; omega
  have hV := Var.put (down := false) (fuse := (fuse - 1)) (fault := fault) hQ6 hi6 hneQ3
  obtain ⟨⟨r0, r1, r2, r3⟩, _⟩ := hV.d.facts
  obtain ⟨⟨q0, q1, q2, q3⟩, g0, g1, g2, g3⟩ := (hQ6).facts
  have hlq := (hQ6).lt
  have HV := Lib.hid hV.i
  have HB := Lib.hid (below_put hB6 (q := w.heap.size + 2) (by omega) (.slice ad3 n3 cap3) (.bool false) (.int .i64 (fuse - 1)) (.int .i64 fault))
  clear hV 
  go_wp2
  exact bodyPost_ret (v := .tuple #[.agg (dcells (.slice ad3 n3 cap3) false (fuse - 1) fault), .int .i64 0]) (by simp [results, Try.results11, go_sem, r0, r1, r2, r3]) rfl ⟨_, _, _, rfl, HV.out, HB.out⟩

set_option maxHeartbeats 4000000 in
theorem ddo_donen_n (w : World) (ad : Option Addr) (n cap : Nat) (down : Bool) (fuse fault : Int) (fs : List F) (k : Int) (nm dt : ByteArray) (z : Int) (h : DIn w ad n cap fuse fault fs) (hn : nm.size ≤ 9223372036854775807) (hd : dt.size ≤ 9223372036854775807) (hz0 : -9223372036854775808 ≤ z) (hz1 : z ≤ 9223372036854775807) (hR : Right fs) (hk : 1 ≤ k ∧ k ≤ 5) (hdn : down = false) (hr : ref fs ⟨k, nm, dt, z⟩ = 0) (hfe : (fault == 0) = false) (hfp : ¬ 0 < fault) (hu : ¬ fuse = 0) (hup : ¬ 0 < fuse) :
    Calls Try.prog 11 #[.agg (dcells (.slice ad n cap) down fuse fault), .agg (scells k nm dt z)] w fun e w' => DQ w (⟨eff fs ⟨k, nm, dt, z⟩, false, fuse, fault⟩, 0) e w' := by
  subst hdn
  have hb0 : Below w.heap.size w (((w.alloc (.cells (dcells (.slice ad n cap) false fuse fault) 24)).alloc (.cells (scells k nm dt z) 27)).alloc (.cells #[.slice none 0 0, .bool false, .int .i64 0, .int .i64 0] 24)) := (((Below.refl _ w).alloc (Nat.le_refl _) _).alloc (by simp) _).alloc (by simp; omega) _
  have h3 : Three w (.cells (dcells (.slice ad n cap) false fuse fault) 24) (.cells (scells k nm dt z) 27) (.cells #[.slice none 0 0, .bool false, .int .i64 0, .int .i64 0] 24) (((w.alloc (.cells (dcells (.slice ad n cap) false fuse fault) 24)).alloc (.cells (scells k nm dt z) 27)).alloc (.cells #[.slice none 0 0, .bool false, .int .i64 0, .int .i64 0] 24)) := by
    refine ⟨blk_alloc (blk_alloc (blk_new w _) _) _, ?_, ?_⟩
    · have := blk_new (w.alloc (.cells (dcells (.slice ad n cap) false fuse fault) 24)) (.cells (scells k nm dt z) 27)
      exact blk_alloc (by simpa using this) _
    · have := blk_new ((w.alloc (.cells (dcells (.slice ad n cap) false fuse fault) 24)).alloc (.cells (scells k nm dt z) 27)) (.cells #[.slice none 0 0, .bool false, .int .i64 0, .int .i64 0] 24)
      simpa using this
  have Hb0 := Lib.hid hb0
  have H3 := Lib.hid h3
  have H := Lib.hid h
  have Hfit := Lib.hid h.fit
  clear h hb0 h3
  have Hc := Lib.hid (dcheck_ok _ ad cap n false fuse fault fs (H.out.i.under Hb0.out) hR)
  have h64 : n ≤ 64 := by have := H.out.i.1; have := hR.1; omega
  have HR := Lib.hid hR
  clear hR
  have hk1 : ¬ k < 1 := by omega
  have hk6 : ¬ 6 ≤ k := by omega
  have hkd : decide (k < 1) = false := decide_eq_false hk1
  have hke : decide (6 ≤ k) = false := decide_eq_false hk6
  have Hk := Lib.hid hk
  clear hk
  go_enter Try.func11, Try.ntmps11
  go_wp2_with fail
  refine (Hc.out).mono ?_
  rintro e w1 ⟨rfl, hb⟩
  have ht1 := H3.out.below hb
  have hb1 := Hb0.out.trans (hb.mono Hb0.out.size)
  have HT1 := Lib.hid ht1
  have Hb1 := Lib.hid hb1
  obtain ⟨x0, x1, x2, x3⟩ := box4 ht1.x
  obtain ⟨y0, y1, y2, y3⟩ := box4 ht1.y
  clear hb ht1 hb1
  have Href := Lib.hid hr
  have Hrf := Lib.hid (drefuses_any _ ad n cap false fuse fault fs k nm dt z (H.out.under Hb1.out).i HR.out hn hd hz0 hz1)
  rw [hr] at Hrf
  go_wp2_with fail
  refine (Hrf.out).mono ?_
  rintro e w2 ⟨rfl, hb⟩
  have ht2 := HT1.out.below hb
  have hb2 := Hb1.out.trans (hb.mono Hb1.out.size)
  have HT2 := Lib.hid ht2
  have Hb2 := Lib.hid hb2
  clear x0 x1 x2 x3 y0 y1 y2 y3
  obtain ⟨x0, x1, x2, x3⟩ := box4 ht2.x
  obtain ⟨y0, y1, y2, y3⟩ := box4 ht2.y
  clear hb ht2 hb2
  clear hr
  have bu0 := H.out.u0
  have bu1 := H.out.u1
  have bf0 := H.out.f0
  have bf1 := H.out.f1
  have Hcp := Lib.hid (copyW_any _ ad n cap false fuse fault fs (H.out.under Hb2.out).i (by omega))
  go_wp2_with fail
  refine (Hcp.out).mono ?_
  rintro e w3 ⟨ad2, cap2, rfl, hi, hb, hf⟩
  have ht := HT2.out.below hb
  have hbb := Hb2.out.trans (hb.mono Hb2.out.size)
  have hlt2 : w.heap.size + 2 < w2.heap.size := HT2.out.lt
  clear x0 x1 x2 x3 y0 y1 y2 y3
  have hX3 : Dk w3 w.heap.size 24 (.slice ad n cap) false fuse fault := ht.x
  have hVx := Var.put (down := false) (fuse := fuse) (fault := fault) hX3 hi (fun e => by have := hf _ e; omega)
  have far : ∀ k, k ≠ w.heap.size → ((((w3.setCell ⟨w.heap.size, 0, none⟩ (.slice ad2 n cap2)).setCell ⟨w.heap.size, 1, none⟩ (.bool false)).setCell ⟨w.heap.size, 2, none⟩ (.int .i64 fuse)).setCell ⟨w.heap.size, 3, none⟩ (.int .i64 fault)).heap[k]? = w3.heap[k]? := fun k hk => by
    rw [Below.heap_setCell _ _ _ k hk, Below.heap_setCell _ _ _ k hk, Below.heap_setCell _ _ _ k hk, Below.heap_setCell _ _ _ k hk]
  have hY3 := (far (w.heap.size + 1) (by omega)).trans ht.y
  have hQ3 : Dk ((((w3.setCell ⟨w.heap.size, 0, none⟩ (.slice ad2 n cap2)).setCell ⟨w.heap.size, 1, none⟩ (.bool false)).setCell ⟨w.heap.size, 2, none⟩ (.int .i64 fuse)).setCell ⟨w.heap.size, 3, none⟩ (.int .i64 fault)) (w.heap.size + 2) 24 (.slice none 0 0) false 0 0 := (far (w.heap.size + 2) (by omega)).trans ht.q
  have hB3 := below_put hbb (q := w.heap.size) (Nat.le_refl _) (.slice ad2 n cap2) (.bool false) (.int .i64 fuse) (.int .i64 fault)
  obtain ⟨⟨x0, x1, x2, x3⟩, m0, m1, m2, m3⟩ := hX3.facts
  have hlX3 := hX3.lt
  have hneX : (Value.slice ad2 n cap2).ownBlock ≠ some w.heap.size := fun e => by have := hf _ e; omega
  have hneQ : (Value.slice ad2 n cap2).ownBlock ≠ some (w.heap.size + 2) := fun e => by have := hf _ e; omega
  obtain ⟨W3, hW3⟩ : ∃ W, W = ((((w3.setCell ⟨w.heap.size, 0, none⟩ (.slice ad2 n cap2)).setCell ⟨w.heap.size, 1, none⟩ (.bool false)).setCell ⟨w.heap.size, 2, none⟩ (.int .i64 fuse)).setCell ⟨w.heap.size, 3, none⟩ (.int .i64 fault)) := ⟨_, rfl⟩
  rw [← hW3] at hVx hY3 hQ3 hB3
  go_upto_region 12 with (fail)
  rw [← hW3]
  clear hW3 x0 x1 x2 x3 m0 m1 m2 m3 far hX3 hbb hb ht hf hi hlX3
  have hVW3 := hVx
  have hYW3 := hY3
  have hQW3 := hQ3
  have hBW3 := hB3
  clear hVx hY3 hQ3 hB3
  obtain ⟨⟨x0, x1, x2, x3⟩, m0, m1, m2, m3⟩ := hVW3.d.facts
  obtain ⟨y0, y1, y2, y3⟩ := box4 hYW3
  have hlXW3 := hVW3.d.lt
  have hfd : decide (0 < fault) = false := decide_eq_false (by omega)
  go_upto_region 17 with (fail)
  have hue : (fuse == 0) = false := by simp [hu]
  have hud : decide (0 < fuse) = false := decide_eq_false (by omega)
  go_upto_region 24 with (fail)
  have Hdn := Lib.hid (ddone_any _ ad2 n cap2 false fuse fault fs k nm dt z hVW3.i HR.out Hk.out Href.out hn hd hz0 hz1)
  go_wp2_with fail
  refine (Hdn.out).mono ?_
  rintro e w6 ⟨ad3, n3, cap3, rfl, hi6, hb6, hf6⟩
  have hQ6 := hQW3.keep hb6 hQW3.lt
  have hX6 := hVW3.d.keep hb6 hVW3.d.lt
  have hB6 := hBW3.trans (hb6.mono hBW3.size)
  have hlQW3 := hQW3.lt
  have hlX6 := hX6.lt
  have hneX3 : (Value.slice ad3 n3 cap3).ownBlock ≠ some w.heap.size := fun e => by have := hf6 _ e; omega
  have hneQ3 : (Value.slice ad3 n3 cap3).ownBlock ≠ some (w.heap.size + 2) := fun e => by have := hf6 _ e; omega
  have hV := Var.put (down := false) (fuse := fuse) (fault := fault) hQ6 hi6 hneQ3
  obtain ⟨⟨r0, r1, r2, r3⟩, _⟩ := hV.d.facts
  obtain ⟨⟨q0, q1, q2, q3⟩, g0, g1, g2, g3⟩ := (hQ6).facts
  have hlq := (hQ6).lt
  have HV := Lib.hid hV.i
  have HB := Lib.hid (below_put hB6 (q := w.heap.size + 2) (by omega) (.slice ad3 n3 cap3) (.bool false) (.int .i64 fuse) (.int .i64 fault))
  clear hV 
  go_wp2
  exact bodyPost_ret (v := .tuple #[.agg (dcells (.slice ad3 n3 cap3) false fuse fault), .int .i64 0]) (by simp [results, Try.results11, go_sem, r0, r1, r2, r3]) rfl ⟨_, _, _, rfl, HV.out, HB.out⟩

theorem ddo_any (w : World) (ad : Option Addr) (n cap : Nat) (down : Bool) (fuse fault : Int) (fs : List F) (k : Int) (nm dt : ByteArray) (z : Int) (h : DIn w ad n cap fuse fault fs) (hn : nm.size ≤ 9223372036854775807) (hd : dt.size ≤ 9223372036854775807) (hz0 : -9223372036854775808 ≤ z) (hz1 : z ≤ 9223372036854775807) :
    Calls Try.prog 11 #[.agg (dcells (.slice ad n cap) down fuse fault), .agg (scells k nm dt z)] w fun e w' => DQ w (doo ⟨fs, down, fuse, fault⟩ ⟨k, nm, dt, z⟩) e w' := by
  unfold doo
  by_cases hR : Right fs
  · rw [if_pos hR]
    by_cases hk : 1 ≤ k ∧ k ≤ 5
    · rw [if_pos hk]
      cases hdn : down with
      | true => rw [run_down]; have := ddo_down w ad n cap down fuse fault fs k nm dt z h hn hd hz0 hz1 hR hk hdn; rw [hdn] at this; exact this
      | false =>
        by_cases h0 : ref fs ⟨k, nm, dt, z⟩ = 0
        · by_cases hf : fault = 0
          · rw [run_fault h0 hf]; have := ddo_fault w ad n cap down fuse fault fs k nm dt z h hn hd hz0 hz1 hR hk hdn h0 hf; rw [hdn] at this; exact this
          · have hfe : (fault == 0) = false := by simp [hf]
            by_cases hu : fuse = 0
            · rw [run_fuse h0 hf hu]
              unfold half
              by_cases h2 : k = 2
              · rw [if_pos h2]
                by_cases hfp : 0 < fault
                · rw [dec_pos hfp]; have := ddo_fuse2_p w ad n cap down fuse fault fs k nm dt z h hn hd hz0 hz1 hR hk hdn h0 hfe hfp hu h2; rw [hdn] at this; rwa [hu] at this ⊢
                · rw [dec_neg hfp]; have := ddo_fuse2_n w ad n cap down fuse fault fs k nm dt z h hn hd hz0 hz1 hR hk hdn h0 hfe hfp hu h2; rw [hdn] at this; rwa [hu] at this ⊢
              · rw [if_neg h2]
                by_cases hfp : 0 < fault
                · rw [dec_pos hfp]; have := ddo_fuseo_p w ad n cap down fuse fault fs k nm dt z h hn hd hz0 hz1 hR hk hdn h0 hfe hfp hu h2; rw [hdn] at this; rwa [hu] at this ⊢
                · rw [dec_neg hfp]; have := ddo_fuseo_n w ad n cap down fuse fault fs k nm dt z h hn hd hz0 hz1 hR hk hdn h0 hfe hfp hu h2; rw [hdn] at this; rwa [hu] at this ⊢
            · rw [run_done h0 hf hu]
              by_cases hfp : 0 < fault
              · by_cases hup : 0 < fuse
                · rw [dec_pos hfp, dec_pos hup]; have := ddo_donep_p w ad n cap down fuse fault fs k nm dt z h hn hd hz0 hz1 hR hk hdn h0 hfe hfp hu hup; rwa [hdn] at this
                · rw [dec_pos hfp, dec_neg hup]; have := ddo_donen_p w ad n cap down fuse fault fs k nm dt z h hn hd hz0 hz1 hR hk hdn h0 hfe hfp hu hup; rwa [hdn] at this
              · by_cases hup : 0 < fuse
                · rw [dec_neg hfp, dec_pos hup]; have := ddo_donep_n w ad n cap down fuse fault fs k nm dt z h hn hd hz0 hz1 hR hk hdn h0 hfe hfp hu hup; rwa [hdn] at this
                · rw [dec_neg hfp, dec_neg hup]; have := ddo_donen_n w ad n cap down fuse fault fs k nm dt z h hn hd hz0 hz1 hR hk hdn h0 hfe hfp hu hup; rwa [hdn] at this
        · rw [run_ref h0]; have := ddo_ref w ad n cap down fuse fault fs k nm dt z h hn hd hz0 hz1 hR hk hdn _ rfl h0; rw [hdn] at this; exact this
    · rw [if_neg hk]; exact ddo_kind w ad n cap down fuse fault fs k nm dt z h hn hd hz0 hz1 hR hk
  · rw [if_neg hR]; exact ddo_bad w ad n cap down fuse fault fs k nm dt z h hn hd hz0 hz1 hR
end Go.Proofs.Ytcefhcailhediaa
