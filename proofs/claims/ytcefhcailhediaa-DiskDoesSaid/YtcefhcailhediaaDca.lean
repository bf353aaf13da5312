/- THE WALK OVER the law's call. -/
import Derived.Test.YtcefhcailhediaaDdo
import Derived.Test.YtcefhcailhediaaAsk
namespace Go.Proofs.Ytcefhcailhediaa
open Go.RowKit
set_option linter.unusedVariables false
set_option linter.unusedSimpArgs false
theorem doo_1 (d : D) (b dt : ByteArray) (z : Int) : doo d ⟨1, b, dt, z⟩ = doo d ⟨1, b, ⟨#[]⟩, 0⟩ := by simp [doo, run, half, ref, eff]
theorem doo_2z (d : D) (b dt : ByteArray) (z : Int) : doo d ⟨2, b, dt, z⟩ = doo d ⟨2, b, dt, 0⟩ := by simp [doo, run, half, ref, eff]
theorem doo_3 (d : D) (b dt : ByteArray) (z : Int) : doo d ⟨3, b, dt, z⟩ = doo d ⟨3, b, ⟨#[]⟩, 0⟩ := by simp [doo, run, half, ref, eff]
theorem doo_4z (d : D) (b dt : ByteArray) (z : Int) : doo d ⟨4, b, dt, z⟩ = doo d ⟨4, b, ⟨#[]⟩, z⟩ := by simp [doo, run, half, ref, eff]
theorem doo_5z (d : D) (b dt : ByteArray) (z : Int) : doo d ⟨5, b, dt, z⟩ = doo d ⟨5, b, ⟨#[]⟩, 0⟩ := by simp [doo, run, half, ref, eff]

set_option maxHeartbeats 1000000 in
theorem dcall_1 (w : World) (ad : Option Addr) (n cap : Nat) (down : Bool) (fuse fault : Int) (fs : List F) (k : Int) (nm dt : ByteArray) (z : Int) (h : DIn w ad n cap fuse fault fs) (hn : nm.size ≤ 9223372036854775807) (hd : dt.size ≤ 9223372036854775807) (hz0 : -9223372036854775808 ≤ z) (hz1 : z ≤ 9223372036854775807) (hk : k = 1) :
    Calls Try.prog 12 #[.agg (dcells (.slice ad n cap) down fuse fault), .agg (scells k nm dt z)] w fun e w' => DQ w (doo ⟨fs, down, fuse, fault⟩ ⟨k, nm, dt, z⟩) e w' := by
  subst hk
  have hb0 : Below w.heap.size w (((w.alloc (.cells (dcells (.slice ad n cap) down fuse fault) 24)).alloc (.cells (scells 1 nm dt z) 27)).alloc (.cells #[.slice none 0 0, .bool false, .int .i64 0, .int .i64 0] 24)) := (((Below.refl _ w).alloc (Nat.le_refl _) _).alloc (by simp) _).alloc (by simp; omega) _
  have h3 : Three w (.cells (dcells (.slice ad n cap) down fuse fault) 24) (.cells (scells 1 nm dt z) 27) (.cells #[.slice none 0 0, .bool false, .int .i64 0, .int .i64 0] 24) (((w.alloc (.cells (dcells (.slice ad n cap) down fuse fault) 24)).alloc (.cells (scells 1 nm dt z) 27)).alloc (.cells #[.slice none 0 0, .bool false, .int .i64 0, .int .i64 0] 24)) := by
    refine ⟨blk_alloc (blk_alloc (blk_new w _) _) _, ?_, ?_⟩
    · have := blk_new (w.alloc (.cells (dcells (.slice ad n cap) down fuse fault) 24)) (.cells (scells 1 nm dt z) 27)
      exact blk_alloc (by simpa using this) _
    · have := blk_new ((w.alloc (.cells (dcells (.slice ad n cap) down fuse fault) 24)).alloc (.cells (scells 1 nm dt z) 27)) (.cells #[.slice none 0 0, .bool false, .int .i64 0, .int .i64 0] 24)
      simpa using this
  have Hb0 := Lib.hid hb0
  have H3 := Lib.hid h3
  have H := Lib.hid h
  have Hfit := Lib.hid h.fit
  clear h hb0 h3
  have ht0 := H3.out
  obtain ⟨x0, x1, x2, x3⟩ := box4 ht0.x
  obtain ⟨y0, y1, y2, y3⟩ := box4 ht0.y
  have hc := call32_any _ ad n cap down fuse fault fs nm ⟨#[]⟩ (H.out.under Hb0.out) hn (by decide)
  rw [doo_1]
  obtain ⟨⟨⟨gs, dn, fu, fa⟩, code⟩, hr⟩ : ∃ r, doo ⟨fs, down, fuse, fault⟩ ⟨1, nm, ⟨#[]⟩, 0⟩ = r := ⟨_, rfl⟩
  rw [hr] at hc ⊢
  have Hc := Lib.hid hc
  clear ht0 hc hr
  go_enter Try.func12, Try.ntmps12
  go_wp2_with fail
  refine (Hc.out).mono ?_
  rintro e w2 ⟨ad2, n2, cap2, rfl, hi, hb, hf⟩
  have ht := H3.out.below hb
  have hbb := Hb0.out.trans (hb.mono Hb0.out.size)
  have hne : (Value.slice ad2 n2 cap2).ownBlock ≠ some (w.heap.size + 2) := fun e => by have := hf _ e; simp at this; omega
  clear x0 x1 x2 x3 y0 y1 y2 y3
  have hV := Var.put (down := dn) (fuse := fu) (fault := fa) (show Dk w2 (w.heap.size + 2) 24 (.slice none 0 0) false 0 0 from ht.q) hi hne
  obtain ⟨⟨r0, r1, r2, r3⟩, _⟩ := hV.d.facts
  obtain ⟨⟨q0, q1, q2, q3⟩, g0, g1, g2, g3⟩ := ((show Dk w2 (w.heap.size + 2) 24 (.slice none 0 0) false 0 0 from ht.q)).facts
  have hlq := ((show Dk w2 (w.heap.size + 2) 24 (.slice none 0 0) false 0 0 from ht.q)).lt
  have HV := Lib.hid hV.i
  have HB := Lib.hid (below_put hbb (q := w.heap.size + 2) (by omega) (.slice ad2 n2 cap2) (.bool dn) (.int .i64 fu) (.int .i64 fa))
  clear hV ht hbb hi hb hf hne
  go_wp2
  exact bodyPost_ret (v := .tuple #[.agg (dcells (.slice ad2 n2 cap2) dn fu fa), .int .i64 code]) (by simp [results, Try.results12, go_sem, r0, r1, r2, r3]) rfl ⟨_, _, _, rfl, HV.out, HB.out⟩

set_option maxHeartbeats 1000000 in
theorem dcall_2 (w : World) (ad : Option Addr) (n cap : Nat) (down : Bool) (fuse fault : Int) (fs : List F) (k : Int) (nm dt : ByteArray) (z : Int) (h : DIn w ad n cap fuse fault fs) (hn : nm.size ≤ 9223372036854775807) (hd : dt.size ≤ 9223372036854775807) (hz0 : -9223372036854775808 ≤ z) (hz1 : z ≤ 9223372036854775807) (hk : k = 2) :
    Calls Try.prog 12 #[.agg (dcells (.slice ad n cap) down fuse fault), .agg (scells k nm dt z)] w fun e w' => DQ w (doo ⟨fs, down, fuse, fault⟩ ⟨k, nm, dt, z⟩) e w' := by
  subst hk
  have hb0 : Below w.heap.size w (((w.alloc (.cells (dcells (.slice ad n cap) down fuse fault) 24)).alloc (.cells (scells 2 nm dt z) 27)).alloc (.cells #[.slice none 0 0, .bool false, .int .i64 0, .int .i64 0] 24)) := (((Below.refl _ w).alloc (Nat.le_refl _) _).alloc (by simp) _).alloc (by simp; omega) _
  have h3 : Three w (.cells (dcells (.slice ad n cap) down fuse fault) 24) (.cells (scells 2 nm dt z) 27) (.cells #[.slice none 0 0, .bool false, .int .i64 0, .int .i64 0] 24) (((w.alloc (.cells (dcells (.slice ad n cap) down fuse fault) 24)).alloc (.cells (scells 2 nm dt z) 27)).alloc (.cells #[.slice none 0 0, .bool false, .int .i64 0, .int .i64 0] 24)) := by
    refine ⟨blk_alloc (blk_alloc (blk_new w _) _) _, ?_, ?_⟩
    · have := blk_new (w.alloc (.cells (dcells (.slice ad n cap) down fuse fault) 24)) (.cells (scells 2 nm dt z) 27)
      exact blk_alloc (by simpa using this) _
    · have := blk_new ((w.alloc (.cells (dcells (.slice ad n cap) down fuse fault) 24)).alloc (.cells (scells 2 nm dt z) 27)) (.cells #[.slice none 0 0, .bool false, .int .i64 0, .int .i64 0] 24)
      simpa using this
  have Hb0 := Lib.hid hb0
  have H3 := Lib.hid h3
  have H := Lib.hid h
  have Hfit := Lib.hid h.fit
  clear h hb0 h3
  have ht0 := H3.out
  obtain ⟨x0, x1, x2, x3⟩ := box4 ht0.x
  obtain ⟨y0, y1, y2, y3⟩ := box4 ht0.y
  have hc := call24_any _ ad n cap down fuse fault fs nm dt (H.out.under Hb0.out) hn hd
  rw [doo_2z]
  obtain ⟨⟨⟨gs, dn, fu, fa⟩, code⟩, hr⟩ : ∃ r, doo ⟨fs, down, fuse, fault⟩ ⟨2, nm, dt, 0⟩ = r := ⟨_, rfl⟩
  rw [hr] at hc ⊢
  have Hc := Lib.hid hc
  clear ht0 hc hr
  go_enter Try.func12, Try.ntmps12
  go_wp2_with fail
  refine (Hc.out).mono ?_
  rintro e w2 ⟨ad2, n2, cap2, rfl, hi, hb, hf⟩
  have ht := H3.out.below hb
  have hbb := Hb0.out.trans (hb.mono Hb0.out.size)
  have hne : (Value.slice ad2 n2 cap2).ownBlock ≠ some (w.heap.size + 2) := fun e => by have := hf _ e; simp at this; omega
  clear x0 x1 x2 x3 y0 y1 y2 y3
  have hV := Var.put (down := dn) (fuse := fu) (fault := fa) (show Dk w2 (w.heap.size + 2) 24 (.slice none 0 0) false 0 0 from ht.q) hi hne
  obtain ⟨⟨r0, r1, r2, r3⟩, _⟩ := hV.d.facts
  obtain ⟨⟨q0, q1, q2, q3⟩, g0, g1, g2, g3⟩ := ((show Dk w2 (w.heap.size + 2) 24 (.slice none 0 0) false 0 0 from ht.q)).facts
  have hlq := ((show Dk w2 (w.heap.size + 2) 24 (.slice none 0 0) false 0 0 from ht.q)).lt
  have HV := Lib.hid hV.i
  have HB := Lib.hid (below_put hbb (q := w.heap.size + 2) (by omega) (.slice ad2 n2 cap2) (.bool dn) (.int .i64 fu) (.int .i64 fa))
  clear hV ht hbb hi hb hf hne
  go_wp2
  exact bodyPost_ret (v := .tuple #[.agg (dcells (.slice ad2 n2 cap2) dn fu fa), .int .i64 code]) (by simp [results, Try.results12, go_sem, r0, r1, r2, r3]) rfl ⟨_, _, _, rfl, HV.out, HB.out⟩

set_option maxHeartbeats 1000000 in
theorem dcall_3 (w : World) (ad : Option Addr) (n cap : Nat) (down : Bool) (fuse fault : Int) (fs : List F) (k : Int) (nm dt : ByteArray) (z : Int) (h : DIn w ad n cap fuse fault fs) (hn : nm.size ≤ 9223372036854775807) (hd : dt.size ≤ 9223372036854775807) (hz0 : -9223372036854775808 ≤ z) (hz1 : z ≤ 9223372036854775807) (hk : k = 3) :
    Calls Try.prog 12 #[.agg (dcells (.slice ad n cap) down fuse fault), .agg (scells k nm dt z)] w fun e w' => DQ w (doo ⟨fs, down, fuse, fault⟩ ⟨k, nm, dt, z⟩) e w' := by
  subst hk
  have hb0 : Below w.heap.size w (((w.alloc (.cells (dcells (.slice ad n cap) down fuse fault) 24)).alloc (.cells (scells 3 nm dt z) 27)).alloc (.cells #[.slice none 0 0, .bool false, .int .i64 0, .int .i64 0] 24)) := (((Below.refl _ w).alloc (Nat.le_refl _) _).alloc (by simp) _).alloc (by simp; omega) _
  have h3 : Three w (.cells (dcells (.slice ad n cap) down fuse fault) 24) (.cells (scells 3 nm dt z) 27) (.cells #[.slice none 0 0, .bool false, .int .i64 0, .int .i64 0] 24) (((w.alloc (.cells (dcells (.slice ad n cap) down fuse fault) 24)).alloc (.cells (scells 3 nm dt z) 27)).alloc (.cells #[.slice none 0 0, .bool false, .int .i64 0, .int .i64 0] 24)) := by
    refine ⟨blk_alloc (blk_alloc (blk_new w _) _) _, ?_, ?_⟩
    · have := blk_new (w.alloc (.cells (dcells (.slice ad n cap) down fuse fault) 24)) (.cells (scells 3 nm dt z) 27)
      exact blk_alloc (by simpa using this) _
    · have := blk_new ((w.alloc (.cells (dcells (.slice ad n cap) down fuse fault) 24)).alloc (.cells (scells 3 nm dt z) 27)) (.cells #[.slice none 0 0, .bool false, .int .i64 0, .int .i64 0] 24)
      simpa using this
  have Hb0 := Lib.hid hb0
  have H3 := Lib.hid h3
  have H := Lib.hid h
  have Hfit := Lib.hid h.fit
  clear h hb0 h3
  have ht0 := H3.out
  obtain ⟨x0, x1, x2, x3⟩ := box4 ht0.x
  obtain ⟨y0, y1, y2, y3⟩ := box4 ht0.y
  have hc := call33_any _ ad n cap down fuse fault fs nm ⟨#[]⟩ (H.out.under Hb0.out) hn (by decide)
  rw [doo_3]
  obtain ⟨⟨⟨gs, dn, fu, fa⟩, code⟩, hr⟩ : ∃ r, doo ⟨fs, down, fuse, fault⟩ ⟨3, nm, ⟨#[]⟩, 0⟩ = r := ⟨_, rfl⟩
  rw [hr] at hc ⊢
  have Hc := Lib.hid hc
  clear ht0 hc hr
  go_enter Try.func12, Try.ntmps12
  go_wp2_with fail
  refine (Hc.out).mono ?_
  rintro e w2 ⟨ad2, n2, cap2, rfl, hi, hb, hf⟩
  have ht := H3.out.below hb
  have hbb := Hb0.out.trans (hb.mono Hb0.out.size)
  have hne : (Value.slice ad2 n2 cap2).ownBlock ≠ some (w.heap.size + 2) := fun e => by have := hf _ e; simp at this; omega
  clear x0 x1 x2 x3 y0 y1 y2 y3
  have hV := Var.put (down := dn) (fuse := fu) (fault := fa) (show Dk w2 (w.heap.size + 2) 24 (.slice none 0 0) false 0 0 from ht.q) hi hne
  obtain ⟨⟨r0, r1, r2, r3⟩, _⟩ := hV.d.facts
  obtain ⟨⟨q0, q1, q2, q3⟩, g0, g1, g2, g3⟩ := ((show Dk w2 (w.heap.size + 2) 24 (.slice none 0 0) false 0 0 from ht.q)).facts
  have hlq := ((show Dk w2 (w.heap.size + 2) 24 (.slice none 0 0) false 0 0 from ht.q)).lt
  have HV := Lib.hid hV.i
  have HB := Lib.hid (below_put hbb (q := w.heap.size + 2) (by omega) (.slice ad2 n2 cap2) (.bool dn) (.int .i64 fu) (.int .i64 fa))
  clear hV ht hbb hi hb hf hne
  go_wp2
  exact bodyPost_ret (v := .tuple #[.agg (dcells (.slice ad2 n2 cap2) dn fu fa), .int .i64 code]) (by simp [results, Try.results12, go_sem, r0, r1, r2, r3]) rfl ⟨_, _, _, rfl, HV.out, HB.out⟩

set_option maxHeartbeats 1000000 in
theorem dcall_4 (w : World) (ad : Option Addr) (n cap : Nat) (down : Bool) (fuse fault : Int) (fs : List F) (k : Int) (nm dt : ByteArray) (z : Int) (h : DIn w ad n cap fuse fault fs) (hn : nm.size ≤ 9223372036854775807) (hd : dt.size ≤ 9223372036854775807) (hz0 : -9223372036854775808 ≤ z) (hz1 : z ≤ 9223372036854775807) (hk : k = 4) :
    Calls Try.prog 12 #[.agg (dcells (.slice ad n cap) down fuse fault), .agg (scells k nm dt z)] w fun e w' => DQ w (doo ⟨fs, down, fuse, fault⟩ ⟨k, nm, dt, z⟩) e w' := by
  subst hk
  have hb0 : Below w.heap.size w (((w.alloc (.cells (dcells (.slice ad n cap) down fuse fault) 24)).alloc (.cells (scells 4 nm dt z) 27)).alloc (.cells #[.slice none 0 0, .bool false, .int .i64 0, .int .i64 0] 24)) := (((Below.refl _ w).alloc (Nat.le_refl _) _).alloc (by simp) _).alloc (by simp; omega) _
  have h3 : Three w (.cells (dcells (.slice ad n cap) down fuse fault) 24) (.cells (scells 4 nm dt z) 27) (.cells #[.slice none 0 0, .bool false, .int .i64 0, .int .i64 0] 24) (((w.alloc (.cells (dcells (.slice ad n cap) down fuse fault) 24)).alloc (.cells (scells 4 nm dt z) 27)).alloc (.cells #[.slice none 0 0, .bool false, .int .i64 0, .int .i64 0] 24)) := by
    refine ⟨blk_alloc (blk_alloc (blk_new w _) _) _, ?_, ?_⟩
    · have := blk_new (w.alloc (.cells (dcells (.slice ad n cap) down fuse fault) 24)) (.cells (scells 4 nm dt z) 27)
      exact blk_alloc (by simpa using this) _
    · have := blk_new ((w.alloc (.cells (dcells (.slice ad n cap) down fuse fault) 24)).alloc (.cells (scells 4 nm dt z) 27)) (.cells #[.slice none 0 0, .bool false, .int .i64 0, .int .i64 0] 24)
      simpa using this
  have Hb0 := Lib.hid hb0
  have H3 := Lib.hid h3
  have H := Lib.hid h
  have Hfit := Lib.hid h.fit
  clear h hb0 h3
  have ht0 := H3.out
  obtain ⟨x0, x1, x2, x3⟩ := box4 ht0.x
  obtain ⟨y0, y1, y2, y3⟩ := box4 ht0.y
  have hc := call25_any _ ad n cap down fuse fault fs nm ⟨#[]⟩ z (H.out.under Hb0.out) hn (by decide)
  rw [doo_4z]
  obtain ⟨⟨⟨gs, dn, fu, fa⟩, code⟩, hr⟩ : ∃ r, doo ⟨fs, down, fuse, fault⟩ ⟨4, nm, ⟨#[]⟩, z⟩ = r := ⟨_, rfl⟩
  rw [hr] at hc ⊢
  have Hc := Lib.hid hc
  clear ht0 hc hr
  go_enter Try.func12, Try.ntmps12
  go_wp2_with fail
  refine (Hc.out).mono ?_
  rintro e w2 ⟨ad2, n2, cap2, rfl, hi, hb, hf⟩
  have ht := H3.out.below hb
  have hbb := Hb0.out.trans (hb.mono Hb0.out.size)
  have hne : (Value.slice ad2 n2 cap2).ownBlock ≠ some (w.heap.size + 2) := fun e => by have := hf _ e; simp at this; omega
  clear x0 x1 x2 x3 y0 y1 y2 y3
  have hV := Var.put (down := dn) (fuse := fu) (fault := fa) (show Dk w2 (w.heap.size + 2) 24 (.slice none 0 0) false 0 0 from ht.q) hi hne
  obtain ⟨⟨r0, r1, r2, r3⟩, _⟩ := hV.d.facts
  obtain ⟨⟨q0, q1, q2, q3⟩, g0, g1, g2, g3⟩ := ((show Dk w2 (w.heap.size + 2) 24 (.slice none 0 0) false 0 0 from ht.q)).facts
  have hlq := ((show Dk w2 (w.heap.size + 2) 24 (.slice none 0 0) false 0 0 from ht.q)).lt
  have HV := Lib.hid hV.i
  have HB := Lib.hid (below_put hbb (q := w.heap.size + 2) (by omega) (.slice ad2 n2 cap2) (.bool dn) (.int .i64 fu) (.int .i64 fa))
  clear hV ht hbb hi hb hf hne
  go_wp2
  exact bodyPost_ret (v := .tuple #[.agg (dcells (.slice ad2 n2 cap2) dn fu fa), .int .i64 code]) (by simp [results, Try.results12, go_sem, r0, r1, r2, r3]) rfl ⟨_, _, _, rfl, HV.out, HB.out⟩

set_option maxHeartbeats 1000000 in
theorem dcall_5 (w : World) (ad : Option Addr) (n cap : Nat) (down : Bool) (fuse fault : Int) (fs : List F) (k : Int) (nm dt : ByteArray) (z : Int) (h : DIn w ad n cap fuse fault fs) (hn : nm.size ≤ 9223372036854775807) (hd : dt.size ≤ 9223372036854775807) (hz0 : -9223372036854775808 ≤ z) (hz1 : z ≤ 9223372036854775807) (hk : k = 5) :
    Calls Try.prog 12 #[.agg (dcells (.slice ad n cap) down fuse fault), .agg (scells k nm dt z)] w fun e w' => DQ w (doo ⟨fs, down, fuse, fault⟩ ⟨k, nm, dt, z⟩) e w' := by
  subst hk
  have hb0 : Below w.heap.size w (((w.alloc (.cells (dcells (.slice ad n cap) down fuse fault) 24)).alloc (.cells (scells 5 nm dt z) 27)).alloc (.cells #[.slice none 0 0, .bool false, .int .i64 0, .int .i64 0] 24)) := (((Below.refl _ w).alloc (Nat.le_refl _) _).alloc (by simp) _).alloc (by simp; omega) _
  have h3 : Three w (.cells (dcells (.slice ad n cap) down fuse fault) 24) (.cells (scells 5 nm dt z) 27) (.cells #[.slice none 0 0, .bool false, .int .i64 0, .int .i64 0] 24) (((w.alloc (.cells (dcells (.slice ad n cap) down fuse fault) 24)).alloc (.cells (scells 5 nm dt z) 27)).alloc (.cells #[.slice none 0 0, .bool false, .int .i64 0, .int .i64 0] 24)) := by
    refine ⟨blk_alloc (blk_alloc (blk_new w _) _) _, ?_, ?_⟩
    · have := blk_new (w.alloc (.cells (dcells (.slice ad n cap) down fuse fault) 24)) (.cells (scells 5 nm dt z) 27)
      exact blk_alloc (by simpa using this) _
    · have := blk_new ((w.alloc (.cells (dcells (.slice ad n cap) down fuse fault) 24)).alloc (.cells (scells 5 nm dt z) 27)) (.cells #[.slice none 0 0, .bool false, .int .i64 0, .int .i64 0] 24)
      simpa using this
  have Hb0 := Lib.hid hb0
  have H3 := Lib.hid h3
  have H := Lib.hid h
  have Hfit := Lib.hid h.fit
  clear h hb0 h3
  have ht0 := H3.out
  obtain ⟨x0, x1, x2, x3⟩ := box4 ht0.x
  obtain ⟨y0, y1, y2, y3⟩ := box4 ht0.y
  have hc := call26_any _ ad n cap down fuse fault fs nm ⟨#[]⟩ (H.out.under Hb0.out) hn (by decide)
  rw [doo_5z]
  obtain ⟨⟨⟨gs, dn, fu, fa⟩, code⟩, hr⟩ : ∃ r, doo ⟨fs, down, fuse, fault⟩ ⟨5, nm, ⟨#[]⟩, 0⟩ = r := ⟨_, rfl⟩
  rw [hr] at hc ⊢
  have Hc := Lib.hid hc
  clear ht0 hc hr
  go_enter Try.func12, Try.ntmps12
  go_wp2_with fail
  refine (Hc.out).mono ?_
  rintro e w2 ⟨ad2, n2, cap2, rfl, hi, hb, hf⟩
  have ht := H3.out.below hb
  have hbb := Hb0.out.trans (hb.mono Hb0.out.size)
  have hne : (Value.slice ad2 n2 cap2).ownBlock ≠ some (w.heap.size + 2) := fun e => by have := hf _ e; simp at this; omega
  clear x0 x1 x2 x3 y0 y1 y2 y3
  have hV := Var.put (down := dn) (fuse := fu) (fault := fa) (show Dk w2 (w.heap.size + 2) 24 (.slice none 0 0) false 0 0 from ht.q) hi hne
  obtain ⟨⟨r0, r1, r2, r3⟩, _⟩ := hV.d.facts
  obtain ⟨⟨q0, q1, q2, q3⟩, g0, g1, g2, g3⟩ := ((show Dk w2 (w.heap.size + 2) 24 (.slice none 0 0) false 0 0 from ht.q)).facts
  have hlq := ((show Dk w2 (w.heap.size + 2) 24 (.slice none 0 0) false 0 0 from ht.q)).lt
  have HV := Lib.hid hV.i
  have HB := Lib.hid (below_put hbb (q := w.heap.size + 2) (by omega) (.slice ad2 n2 cap2) (.bool dn) (.int .i64 fu) (.int .i64 fa))
  clear hV ht hbb hi hb hf hne
  go_wp2
  exact bodyPost_ret (v := .tuple #[.agg (dcells (.slice ad2 n2 cap2) dn fu fa), .int .i64 code]) (by simp [results, Try.results12, go_sem, r0, r1, r2, r3]) rfl ⟨_, _, _, rfl, HV.out, HB.out⟩

set_option maxHeartbeats 1000000 in
theorem dcall_0 (w : World) (ad : Option Addr) (n cap : Nat) (down : Bool) (fuse fault : Int) (fs : List F) (k : Int) (nm dt : ByteArray) (z : Int) (h : DIn w ad n cap fuse fault fs) (hn : nm.size ≤ 9223372036854775807) (hd : dt.size ≤ 9223372036854775807) (hz0 : -9223372036854775808 ≤ z) (hz1 : z ≤ 9223372036854775807) (k1 : ¬ k = 1) (k2 : ¬ k = 2) (k3 : ¬ k = 3) (k4 : ¬ k = 4) (k5 : ¬ k = 5) :
    Calls Try.prog 12 #[.agg (dcells (.slice ad n cap) down fuse fault), .agg (scells k nm dt z)] w fun e w' => DQ w (doo ⟨fs, down, fuse, fault⟩ ⟨k, nm, dt, z⟩) e w' := by
  have hb0 : Below w.heap.size w (((w.alloc (.cells (dcells (.slice ad n cap) down fuse fault) 24)).alloc (.cells (scells k nm dt z) 27)).alloc (.cells #[.slice none 0 0, .bool false, .int .i64 0, .int .i64 0] 24)) := (((Below.refl _ w).alloc (Nat.le_refl _) _).alloc (by simp) _).alloc (by simp; omega) _
  have h3 : Three w (.cells (dcells (.slice ad n cap) down fuse fault) 24) (.cells (scells k nm dt z) 27) (.cells #[.slice none 0 0, .bool false, .int .i64 0, .int .i64 0] 24) (((w.alloc (.cells (dcells (.slice ad n cap) down fuse fault) 24)).alloc (.cells (scells k nm dt z) 27)).alloc (.cells #[.slice none 0 0, .bool false, .int .i64 0, .int .i64 0] 24)) := by
    refine ⟨blk_alloc (blk_alloc (blk_new w _) _) _, ?_, ?_⟩
    · have := blk_new (w.alloc (.cells (dcells (.slice ad n cap) down fuse fault) 24)) (.cells (scells k nm dt z) 27)
      exact blk_alloc (by simpa using this) _
    · have := blk_new ((w.alloc (.cells (dcells (.slice ad n cap) down fuse fault) 24)).alloc (.cells (scells k nm dt z) 27)) (.cells #[.slice none 0 0, .bool false, .int .i64 0, .int .i64 0] 24)
      simpa using this
  have Hb0 := Lib.hid hb0
  have H3 := Lib.hid h3
  have H := Lib.hid h
  have Hfit := Lib.hid h.fit
  clear h hb0 h3
  have ht0 := H3.out
  obtain ⟨x0, x1, x2, x3⟩ := box4 ht0.x
  obtain ⟨y0, y1, y2, y3⟩ := box4 ht0.y
  have hc := Do_any _ ad n cap down fuse fault fs k nm dt z (H.out.under Hb0.out) hn hd
  skip
  obtain ⟨⟨⟨gs, dn, fu, fa⟩, code⟩, hr⟩ : ∃ r, doo ⟨fs, down, fuse, fault⟩ ⟨k, nm, dt, z⟩ = r := ⟨_, rfl⟩
  rw [hr] at hc ⊢
  have Hc := Lib.hid hc
  clear ht0 hc hr
  go_enter Try.func12, Try.ntmps12
  go_wp2_with fail
  refine (Hc.out).mono ?_
  rintro e w2 ⟨ad2, n2, cap2, rfl, hi, hb, hf⟩
  have ht := H3.out.below hb
  have hbb := Hb0.out.trans (hb.mono Hb0.out.size)
  have hne : (Value.slice ad2 n2 cap2).ownBlock ≠ some (w.heap.size + 2) := fun e => by have := hf _ e; simp at this; omega
  clear x0 x1 x2 x3 y0 y1 y2 y3
  have hV := Var.put (down := dn) (fuse := fu) (fault := fa) (show Dk w2 (w.heap.size + 2) 24 (.slice none 0 0) false 0 0 from ht.q) hi hne
  obtain ⟨⟨r0, r1, r2, r3⟩, _⟩ := hV.d.facts
  obtain ⟨⟨q0, q1, q2, q3⟩, g0, g1, g2, g3⟩ := ((show Dk w2 (w.heap.size + 2) 24 (.slice none 0 0) false 0 0 from ht.q)).facts
  have hlq := ((show Dk w2 (w.heap.size + 2) 24 (.slice none 0 0) false 0 0 from ht.q)).lt
  have HV := Lib.hid hV.i
  have HB := Lib.hid (below_put hbb (q := w.heap.size + 2) (by omega) (.slice ad2 n2 cap2) (.bool dn) (.int .i64 fu) (.int .i64 fa))
  clear hV ht hbb hi hb hf hne
  go_wp2
  exact bodyPost_ret (v := .tuple #[.agg (dcells (.slice ad2 n2 cap2) dn fu fa), .int .i64 code]) (by simp [results, Try.results12, go_sem, r0, r1, r2, r3]) rfl ⟨_, _, _, rfl, HV.out, HB.out⟩

theorem dcall_any (w : World) (ad : Option Addr) (n cap : Nat) (down : Bool) (fuse fault : Int) (fs : List F) (k : Int) (nm dt : ByteArray) (z : Int) (h : DIn w ad n cap fuse fault fs) (hn : nm.size ≤ 9223372036854775807) (hd : dt.size ≤ 9223372036854775807) (hz0 : -9223372036854775808 ≤ z) (hz1 : z ≤ 9223372036854775807) :
    Calls Try.prog 12 #[.agg (dcells (.slice ad n cap) down fuse fault), .agg (scells k nm dt z)] w fun e w' => DQ w (doo ⟨fs, down, fuse, fault⟩ ⟨k, nm, dt, z⟩) e w' := by
  by_cases k1 : k = 1
  · exact dcall_1 w ad n cap down fuse fault fs k nm dt z h hn hd hz0 hz1 k1
  by_cases k2 : k = 2
  · exact dcall_2 w ad n cap down fuse fault fs k nm dt z h hn hd hz0 hz1 k2
  by_cases k3 : k = 3
  · exact dcall_3 w ad n cap down fuse fault fs k nm dt z h hn hd hz0 hz1 k3
  by_cases k4 : k = 4
  · exact dcall_4 w ad n cap down fuse fault fs k nm dt z h hn hd hz0 hz1 k4
  by_cases k5 : k = 5
  · exact dcall_5 w ad n cap down fuse fault fs k nm dt z h hn hd hz0 hz1 k5
  exact dcall_0 w ad n cap down fuse fault fs k nm dt z h hn hd hz0 hz1 k1 k2 k3 k4 k5
end Go.Proofs.Ytcefhcailhediaa
