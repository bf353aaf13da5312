/- THE WALK OVER the document's refuses. -/
import Derived.Test.YtcefhcailhediaaDck
import Derived.Test.YtcefhcailhediaaMth3
namespace Go.Proofs.Ytcefhcailhediaa
open Go.RowKit
set_option linter.unusedVariables false
set_option linter.unusedSimpArgs false


set_option maxHeartbeats 4000000 in
theorem drefuses_1a (w : World) (ad : Option Addr) (n cap : Nat) (down : Bool) (fuse fault : Int) (fs : List F) (k : Int) (nm dt : ByteArray) (z : Int) (h : Inp w w.heap.size ad n cap fs) (hR : Right fs) (hn : nm.size ≤ 9223372036854775807) (hd : dt.size ≤ 9223372036854775807) (hz0 : -9223372036854775808 ≤ z) (hz1 : z ≤ 9223372036854775807)
    (hk : k = 1) (h0 : nm.size = 0) :
    Calls Try.prog 30 #[.agg (dcells (.slice ad n cap) down fuse fault), .agg (scells k nm dt z)] w fun e w' => e = .returned (.int .i64 4) ∧ Below w.heap.size w w' := by
  have hb0 : Below w.heap.size w ((w.alloc (.cells (dcells (.slice ad n cap) down fuse fault) 24)).alloc (.cells (scells k nm dt z) 27)) := ((Below.refl _ w).alloc (Nat.le_refl _) _).alloc (by simp) _
  have hx : ((w.alloc (.cells (dcells (.slice ad n cap) down fuse fault) 24)).alloc (.cells (scells k nm dt z) 27)).heap[w.heap.size]? = some (.cells (dcells (.slice ad n cap) down fuse fault) 24) := blk_alloc (blk_new w _) _
  have hy : ((w.alloc (.cells (dcells (.slice ad n cap) down fuse fault) 24)).alloc (.cells (scells k nm dt z) 27)).heap[w.heap.size + 1]? = some (.cells (scells k nm dt z) 27) := by
    have := blk_new (w.alloc (.cells (dcells (.slice ad n cap) down fuse fault) 24)) (.cells (scells k nm dt z) 27)
    simpa using this
  have h64 : n ≤ 64 := by have := h.1; have := hR.1; omega
  have Hnl := Lib.hid (show n = fs.length from h.1)
  have Hfd := Lib.hid (dfind_any _ ad n cap down fuse fault fs nm (h.under hb0) (by omega))
  have Hb0 := Lib.hid hb0
  have Hx := Lib.hid hx
  have Hy := Lib.hid hy
  have H := Lib.hid h
  have HR := Lib.hid hR
  subst hk
  have e1 : nm.toList = [] := by rw [size_eq h0, nil_list]
  have e2 : nm.toList.isEmpty = true := by rw [e1]; rfl
  clear h hb0 hx hy hR
  go_enter Try.func30, Try.ntmps30
  go_wp2_with fail
  refine (Hfd.out).mono ?_
  rintro e w1 ⟨rr, rfl, hr, hb1⟩
  have hX1 := (hb1.block _ (Array.getElem?_eq_some_iff.1 Hx.out).1).trans Hx.out
  have hY1 := (hb1.block _ (Array.getElem?_eq_some_iff.1 Hy.out).1).trans Hy.out
  obtain ⟨x0, x1, x2, x3⟩ := box4 hX1
  obtain ⟨y0, y1, y2, y3⟩ := box4 hY1
  have Hb1 := Lib.hid (Hb0.out.trans (hb1.mono Hb0.out.size))
  have hi2 := H.out.under Hb1.out

  clear hb1 hX1 hY1 hi2
  go_wp2
  go_ret
  exact ⟨rfl, Hb1.out⟩

set_option maxHeartbeats 4000000 in
theorem drefuses_1b (w : World) (ad : Option Addr) (n cap : Nat) (down : Bool) (fuse fault : Int) (fs : List F) (k : Int) (nm dt : ByteArray) (z : Int) (h : Inp w w.heap.size ad n cap fs) (hR : Right fs) (hn : nm.size ≤ 9223372036854775807) (hd : dt.size ≤ 9223372036854775807) (hz0 : -9223372036854775808 ≤ z) (hz1 : z ≤ 9223372036854775807)
    (hk : k = 1) (h0 : ¬ nm.size = 0) (h4 : 4096 < nm.size) :
    Calls Try.prog 30 #[.agg (dcells (.slice ad n cap) down fuse fault), .agg (scells k nm dt z)] w fun e w' => e = .returned (.int .i64 4) ∧ Below w.heap.size w w' := by
  have hb0 : Below w.heap.size w ((w.alloc (.cells (dcells (.slice ad n cap) down fuse fault) 24)).alloc (.cells (scells k nm dt z) 27)) := ((Below.refl _ w).alloc (Nat.le_refl _) _).alloc (by simp) _
  have hx : ((w.alloc (.cells (dcells (.slice ad n cap) down fuse fault) 24)).alloc (.cells (scells k nm dt z) 27)).heap[w.heap.size]? = some (.cells (dcells (.slice ad n cap) down fuse fault) 24) := blk_alloc (blk_new w _) _
  have hy : ((w.alloc (.cells (dcells (.slice ad n cap) down fuse fault) 24)).alloc (.cells (scells k nm dt z) 27)).heap[w.heap.size + 1]? = some (.cells (scells k nm dt z) 27) := by
    have := blk_new (w.alloc (.cells (dcells (.slice ad n cap) down fuse fault) 24)) (.cells (scells k nm dt z) 27)
    simpa using this
  have h64 : n ≤ 64 := by have := h.1; have := hR.1; omega
  have Hnl := Lib.hid (show n = fs.length from h.1)
  have Hfd := Lib.hid (dfind_any _ ad n cap down fuse fault fs nm (h.under hb0) (by omega))
  have Hb0 := Lib.hid hb0
  have Hx := Lib.hid hx
  have Hy := Lib.hid hy
  have H := Lib.hid h
  have HR := Lib.hid hR
  subst hk
  have e1 : ¬ nm.toList = [] := fun h => h0 (nil_of_empty h)
  have e2 : nm.toList.isEmpty = false := by rw [Bool.eq_false_iff]; intro h; exact e1 (List.isEmpty_iff.1 h)
  have h4d : decide (4096 < nm.size) = true := decide_eq_true (by omega)
  have h4i : (4096 : Int) < (nm.size : Int) := by omega
  have h4j : decide ((4096 : Int) < (nm.size : Int)) = true := decide_eq_true (by omega)

  clear h hb0 hx hy hR
  go_enter Try.func30, Try.ntmps30
  go_wp2_with fail
  refine (Hfd.out).mono ?_
  rintro e w1 ⟨rr, rfl, hr, hb1⟩
  have hX1 := (hb1.block _ (Array.getElem?_eq_some_iff.1 Hx.out).1).trans Hx.out
  have hY1 := (hb1.block _ (Array.getElem?_eq_some_iff.1 Hy.out).1).trans Hy.out
  obtain ⟨x0, x1, x2, x3⟩ := box4 hX1
  obtain ⟨y0, y1, y2, y3⟩ := box4 hY1
  have Hb1 := Lib.hid (Hb0.out.trans (hb1.mono Hb0.out.size))
  have hi2 := H.out.under Hb1.out

  clear hb1 hX1 hY1 hi2
  go_wp2
  go_ret
  exact ⟨rfl, Hb1.out⟩

set_option maxHeartbeats 4000000 in
theorem drefuses_1c (w : World) (ad : Option Addr) (n cap : Nat) (down : Bool) (fuse fault : Int) (fs : List F) (k : Int) (nm dt : ByteArray) (z : Int) (h : Inp w w.heap.size ad n cap fs) (hR : Right fs) (hn : nm.size ≤ 9223372036854775807) (hd : dt.size ≤ 9223372036854775807) (hz0 : -9223372036854775808 ≤ z) (hz1 : z ≤ 9223372036854775807)
    (hk : k = 1) (h0 : ¬ nm.size = 0) (h4 : ¬ 4096 < nm.size) (f : F) (hf : found fs nm = some f) :
    Calls Try.prog 30 #[.agg (dcells (.slice ad n cap) down fuse fault), .agg (scells k nm dt z)] w fun e w' => e = .returned (.int .i64 6) ∧ Below w.heap.size w w' := by
  have hb0 : Below w.heap.size w ((w.alloc (.cells (dcells (.slice ad n cap) down fuse fault) 24)).alloc (.cells (scells k nm dt z) 27)) := ((Below.refl _ w).alloc (Nat.le_refl _) _).alloc (by simp) _
  have hx : ((w.alloc (.cells (dcells (.slice ad n cap) down fuse fault) 24)).alloc (.cells (scells k nm dt z) 27)).heap[w.heap.size]? = some (.cells (dcells (.slice ad n cap) down fuse fault) 24) := blk_alloc (blk_new w _) _
  have hy : ((w.alloc (.cells (dcells (.slice ad n cap) down fuse fault) 24)).alloc (.cells (scells k nm dt z) 27)).heap[w.heap.size + 1]? = some (.cells (scells k nm dt z) 27) := by
    have := blk_new (w.alloc (.cells (dcells (.slice ad n cap) down fuse fault) 24)) (.cells (scells k nm dt z) 27)
    simpa using this
  have h64 : n ≤ 64 := by have := h.1; have := hR.1; omega
  have Hnl := Lib.hid (show n = fs.length from h.1)
  have Hfd := Lib.hid (dfind_any _ ad n cap down fuse fault fs nm (h.under hb0) (by omega))
  have Hb0 := Lib.hid hb0
  have Hx := Lib.hid hx
  have Hy := Lib.hid hy
  have H := Lib.hid h
  have HR := Lib.hid hR
  subst hk
  have e1 : ¬ nm.toList = [] := fun h => h0 (nil_of_empty h)
  have e2 : nm.toList.isEmpty = false := by rw [Bool.eq_false_iff]; intro h; exact e1 (List.isEmpty_iff.1 h)
  have h4d : decide (4096 < nm.size) = false := decide_eq_false (by omega)
  have h4i : ¬ (4096 : Int) < (nm.size : Int) := by omega
  have h4j : decide ((4096 : Int) < (nm.size : Int)) = false := decide_eq_false (by omega)

  clear h hb0 hx hy hR
  go_enter Try.func30, Try.ntmps30
  go_wp2_with fail
  refine (Hfd.out).mono ?_
  rintro e w1 ⟨rr, rfl, hr, hb1⟩
  have hX1 := (hb1.block _ (Array.getElem?_eq_some_iff.1 Hx.out).1).trans Hx.out
  have hY1 := (hb1.block _ (Array.getElem?_eq_some_iff.1 Hy.out).1).trans Hy.out
  obtain ⟨x0, x1, x2, x3⟩ := box4 hX1
  obtain ⟨y0, y1, y2, y3⟩ := box4 hY1
  have Hb1 := Lib.hid (Hb0.out.trans (hb1.mono Hb0.out.size))
  have hi2 := H.out.under Hb1.out
  obtain rfl := hr.some HR.out hf
  have hp := (found_some hf).1
  have hpl := (List.getElem?_eq_some_iff.1 hp).1
  have hne : fs ≠ [] := by rintro rfl; simp at hp
  obtain ⟨g, off, rfl, hg, hi⟩ := hi2.2.2.2 hne
  obtain ⟨q0, q1, q2⟩ := hi _ f hp
  obtain ⟨P, hP⟩ : ∃ P, pos fs nm = P := ⟨_, rfl⟩
  rw [hP] at q0 q1 q2 hpl ⊢
  have hk0 : (0 : Int) ≤ (P : Int) := by omega
  have hkk : ¬ (P : Int) < 0 := by omega
  have hkd : decide ((P : Int) < 0) = false := decide_eq_false hkk
  have hke : decide (0 ≤ (P : Int)) = true := decide_eq_true hk0
  have hkn : (P : Int) < (n : Int) := by have := Hnl.out; omega
  have hfz := (HR.out.ok f (found_mem hf)).2.1
  clear hf hp hpl hne hg hi hP
  clear hb1 hX1 hY1 hi2
  go_wp2
  go_ret
  exact ⟨rfl, Hb1.out⟩

set_option maxHeartbeats 4000000 in
theorem drefuses_1d (w : World) (ad : Option Addr) (n cap : Nat) (down : Bool) (fuse fault : Int) (fs : List F) (k : Int) (nm dt : ByteArray) (z : Int) (h : Inp w w.heap.size ad n cap fs) (hR : Right fs) (hn : nm.size ≤ 9223372036854775807) (hd : dt.size ≤ 9223372036854775807) (hz0 : -9223372036854775808 ≤ z) (hz1 : z ≤ 9223372036854775807)
    (hk : k = 1) (h0 : ¬ nm.size = 0) (h4 : ¬ 4096 < nm.size) (hf : found fs nm = none) (hl : 64 ≤ n) :
    Calls Try.prog 30 #[.agg (dcells (.slice ad n cap) down fuse fault), .agg (scells k nm dt z)] w fun e w' => e = .returned (.int .i64 8) ∧ Below w.heap.size w w' := by
  have hb0 : Below w.heap.size w ((w.alloc (.cells (dcells (.slice ad n cap) down fuse fault) 24)).alloc (.cells (scells k nm dt z) 27)) := ((Below.refl _ w).alloc (Nat.le_refl _) _).alloc (by simp) _
  have hx : ((w.alloc (.cells (dcells (.slice ad n cap) down fuse fault) 24)).alloc (.cells (scells k nm dt z) 27)).heap[w.heap.size]? = some (.cells (dcells (.slice ad n cap) down fuse fault) 24) := blk_alloc (blk_new w _) _
  have hy : ((w.alloc (.cells (dcells (.slice ad n cap) down fuse fault) 24)).alloc (.cells (scells k nm dt z) 27)).heap[w.heap.size + 1]? = some (.cells (scells k nm dt z) 27) := by
    have := blk_new (w.alloc (.cells (dcells (.slice ad n cap) down fuse fault) 24)) (.cells (scells k nm dt z) 27)
    simpa using this
  have h64 : n ≤ 64 := by have := h.1; have := hR.1; omega
  have Hnl := Lib.hid (show n = fs.length from h.1)
  have Hfd := Lib.hid (dfind_any _ ad n cap down fuse fault fs nm (h.under hb0) (by omega))
  have Hb0 := Lib.hid hb0
  have Hx := Lib.hid hx
  have Hy := Lib.hid hy
  have H := Lib.hid h
  have HR := Lib.hid hR
  subst hk
  have e1 : ¬ nm.toList = [] := fun h => h0 (nil_of_empty h)
  have e2 : nm.toList.isEmpty = false := by rw [Bool.eq_false_iff]; intro h; exact e1 (List.isEmpty_iff.1 h)
  have h4d : decide (4096 < nm.size) = false := decide_eq_false (by omega)
  have h4i : ¬ (4096 : Int) < (nm.size : Int) := by omega
  have h4j : decide ((4096 : Int) < (nm.size : Int)) = false := decide_eq_false (by omega)
  have hli : (64 : Int) ≤ (n : Int) := by omega
  have hlj : decide ((64 : Int) ≤ (n : Int)) = true := decide_eq_true (by omega)
  have hlk : decide (64 ≤ n) = true := decide_eq_true (by omega)

  clear h hb0 hx hy hR
  go_enter Try.func30, Try.ntmps30
  go_wp2_with fail
  refine (Hfd.out).mono ?_
  rintro e w1 ⟨rr, rfl, hr, hb1⟩
  have hX1 := (hb1.block _ (Array.getElem?_eq_some_iff.1 Hx.out).1).trans Hx.out
  have hY1 := (hb1.block _ (Array.getElem?_eq_some_iff.1 Hy.out).1).trans Hy.out
  obtain ⟨x0, x1, x2, x3⟩ := box4 hX1
  obtain ⟨y0, y1, y2, y3⟩ := box4 hY1
  have Hb1 := Lib.hid (Hb0.out.trans (hb1.mono Hb0.out.size))
  have hi2 := H.out.under Hb1.out
  obtain rfl := hr.none HR.out hf

  clear hb1 hX1 hY1 hi2
  go_wp2
  go_ret
  exact ⟨rfl, Hb1.out⟩

set_option maxHeartbeats 4000000 in
theorem drefuses_1e (w : World) (ad : Option Addr) (n cap : Nat) (down : Bool) (fuse fault : Int) (fs : List F) (k : Int) (nm dt : ByteArray) (z : Int) (h : Inp w w.heap.size ad n cap fs) (hR : Right fs) (hn : nm.size ≤ 9223372036854775807) (hd : dt.size ≤ 9223372036854775807) (hz0 : -9223372036854775808 ≤ z) (hz1 : z ≤ 9223372036854775807)
    (hk : k = 1) (h0 : ¬ nm.size = 0) (h4 : ¬ 4096 < nm.size) (hf : found fs nm = none) (hl : ¬ 64 ≤ n) :
    Calls Try.prog 30 #[.agg (dcells (.slice ad n cap) down fuse fault), .agg (scells k nm dt z)] w fun e w' => e = .returned (.int .i64 0) ∧ Below w.heap.size w w' := by
  have hb0 : Below w.heap.size w ((w.alloc (.cells (dcells (.slice ad n cap) down fuse fault) 24)).alloc (.cells (scells k nm dt z) 27)) := ((Below.refl _ w).alloc (Nat.le_refl _) _).alloc (by simp) _
  have hx : ((w.alloc (.cells (dcells (.slice ad n cap) down fuse fault) 24)).alloc (.cells (scells k nm dt z) 27)).heap[w.heap.size]? = some (.cells (dcells (.slice ad n cap) down fuse fault) 24) := blk_alloc (blk_new w _) _
  have hy : ((w.alloc (.cells (dcells (.slice ad n cap) down fuse fault) 24)).alloc (.cells (scells k nm dt z) 27)).heap[w.heap.size + 1]? = some (.cells (scells k nm dt z) 27) := by
    have := blk_new (w.alloc (.cells (dcells (.slice ad n cap) down fuse fault) 24)) (.cells (scells k nm dt z) 27)
    simpa using this
  have h64 : n ≤ 64 := by have := h.1; have := hR.1; omega
  have Hnl := Lib.hid (show n = fs.length from h.1)
  have Hfd := Lib.hid (dfind_any _ ad n cap down fuse fault fs nm (h.under hb0) (by omega))
  have Hb0 := Lib.hid hb0
  have Hx := Lib.hid hx
  have Hy := Lib.hid hy
  have H := Lib.hid h
  have HR := Lib.hid hR
  subst hk
  have e1 : ¬ nm.toList = [] := fun h => h0 (nil_of_empty h)
  have e2 : nm.toList.isEmpty = false := by rw [Bool.eq_false_iff]; intro h; exact e1 (List.isEmpty_iff.1 h)
  have h4d : decide (4096 < nm.size) = false := decide_eq_false (by omega)
  have h4i : ¬ (4096 : Int) < (nm.size : Int) := by omega
  have h4j : decide ((4096 : Int) < (nm.size : Int)) = false := decide_eq_false (by omega)
  have hli : ¬ (64 : Int) ≤ (n : Int) := by omega
  have hlj : decide ((64 : Int) ≤ (n : Int)) = false := decide_eq_false (by omega)
  have hlk : decide (64 ≤ n) = false := decide_eq_false (by omega)

  clear h hb0 hx hy hR
  go_enter Try.func30, Try.ntmps30
  go_wp2_with fail
  refine (Hfd.out).mono ?_
  rintro e w1 ⟨rr, rfl, hr, hb1⟩
  have hX1 := (hb1.block _ (Array.getElem?_eq_some_iff.1 Hx.out).1).trans Hx.out
  have hY1 := (hb1.block _ (Array.getElem?_eq_some_iff.1 Hy.out).1).trans Hy.out
  obtain ⟨x0, x1, x2, x3⟩ := box4 hX1
  obtain ⟨y0, y1, y2, y3⟩ := box4 hY1
  have Hb1 := Lib.hid (Hb0.out.trans (hb1.mono Hb0.out.size))
  have hi2 := H.out.under Hb1.out
  obtain rfl := hr.none HR.out hf

  clear hb1 hX1 hY1 hi2
  go_wp2
  go_ret
  exact ⟨rfl, Hb1.out⟩

set_option maxHeartbeats 4000000 in
theorem drefuses_n (w : World) (ad : Option Addr) (n cap : Nat) (down : Bool) (fuse fault : Int) (fs : List F) (k : Int) (nm dt : ByteArray) (z : Int) (h : Inp w w.heap.size ad n cap fs) (hR : Right fs) (hn : nm.size ≤ 9223372036854775807) (hd : dt.size ≤ 9223372036854775807) (hz0 : -9223372036854775808 ≤ z) (hz1 : z ≤ 9223372036854775807)
    (hk : ¬ k = 1) (hf : found fs nm = none) :
    Calls Try.prog 30 #[.agg (dcells (.slice ad n cap) down fuse fault), .agg (scells k nm dt z)] w fun e w' => e = .returned (.int .i64 7) ∧ Below w.heap.size w w' := by
  have hb0 : Below w.heap.size w ((w.alloc (.cells (dcells (.slice ad n cap) down fuse fault) 24)).alloc (.cells (scells k nm dt z) 27)) := ((Below.refl _ w).alloc (Nat.le_refl _) _).alloc (by simp) _
  have hx : ((w.alloc (.cells (dcells (.slice ad n cap) down fuse fault) 24)).alloc (.cells (scells k nm dt z) 27)).heap[w.heap.size]? = some (.cells (dcells (.slice ad n cap) down fuse fault) 24) := blk_alloc (blk_new w _) _
  have hy : ((w.alloc (.cells (dcells (.slice ad n cap) down fuse fault) 24)).alloc (.cells (scells k nm dt z) 27)).heap[w.heap.size + 1]? = some (.cells (scells k nm dt z) 27) := by
    have := blk_new (w.alloc (.cells (dcells (.slice ad n cap) down fuse fault) 24)) (.cells (scells k nm dt z) 27)
    simpa using this
  have h64 : n ≤ 64 := by have := h.1; have := hR.1; omega
  have Hnl := Lib.hid (show n = fs.length from h.1)
  have Hfd := Lib.hid (dfind_any _ ad n cap down fuse fault fs nm (h.under hb0) (by omega))
  have Hb0 := Lib.hid hb0
  have Hx := Lib.hid hx
  have Hy := Lib.hid hy
  have H := Lib.hid h
  have HR := Lib.hid hR
  have k1 : (k == 1) = false := by simp [hk]

  clear h hb0 hx hy hR
  go_enter Try.func30, Try.ntmps30
  go_wp2_with fail
  refine (Hfd.out).mono ?_
  rintro e w1 ⟨rr, rfl, hr, hb1⟩
  have hX1 := (hb1.block _ (Array.getElem?_eq_some_iff.1 Hx.out).1).trans Hx.out
  have hY1 := (hb1.block _ (Array.getElem?_eq_some_iff.1 Hy.out).1).trans Hy.out
  obtain ⟨x0, x1, x2, x3⟩ := box4 hX1
  obtain ⟨y0, y1, y2, y3⟩ := box4 hY1
  have Hb1 := Lib.hid (Hb0.out.trans (hb1.mono Hb0.out.size))
  have hi2 := H.out.under Hb1.out
  obtain rfl := hr.none HR.out hf

  clear hb1 hX1 hY1 hi2
  go_wp2
  go_ret
  exact ⟨rfl, Hb1.out⟩

set_option maxHeartbeats 4000000 in
theorem drefuses_2a (w : World) (ad : Option Addr) (n cap : Nat) (down : Bool) (fuse fault : Int) (fs : List F) (k : Int) (nm dt : ByteArray) (z : Int) (h : Inp w w.heap.size ad n cap fs) (hR : Right fs) (hn : nm.size ≤ 9223372036854775807) (hd : dt.size ≤ 9223372036854775807) (hz0 : -9223372036854775808 ≤ z) (hz1 : z ≤ 9223372036854775807)
    (hk : k = 2) (f : F) (hf : found fs nm = some f) (hs : 262144 - f.data.size < dt.size) :
    Calls Try.prog 30 #[.agg (dcells (.slice ad n cap) down fuse fault), .agg (scells k nm dt z)] w fun e w' => e = .returned (.int .i64 8) ∧ Below w.heap.size w w' := by
  have hb0 : Below w.heap.size w ((w.alloc (.cells (dcells (.slice ad n cap) down fuse fault) 24)).alloc (.cells (scells k nm dt z) 27)) := ((Below.refl _ w).alloc (Nat.le_refl _) _).alloc (by simp) _
  have hx : ((w.alloc (.cells (dcells (.slice ad n cap) down fuse fault) 24)).alloc (.cells (scells k nm dt z) 27)).heap[w.heap.size]? = some (.cells (dcells (.slice ad n cap) down fuse fault) 24) := blk_alloc (blk_new w _) _
  have hy : ((w.alloc (.cells (dcells (.slice ad n cap) down fuse fault) 24)).alloc (.cells (scells k nm dt z) 27)).heap[w.heap.size + 1]? = some (.cells (scells k nm dt z) 27) := by
    have := blk_new (w.alloc (.cells (dcells (.slice ad n cap) down fuse fault) 24)) (.cells (scells k nm dt z) 27)
    simpa using this
  have h64 : n ≤ 64 := by have := h.1; have := hR.1; omega
  have Hnl := Lib.hid (show n = fs.length from h.1)
  have Hfd := Lib.hid (dfind_any _ ad n cap down fuse fault fs nm (h.under hb0) (by omega))
  have Hb0 := Lib.hid hb0
  have Hx := Lib.hid hx
  have Hy := Lib.hid hy
  have H := Lib.hid h
  have HR := Lib.hid hR
  subst hk

  clear h hb0 hx hy hR
  go_enter Try.func30, Try.ntmps30
  go_wp2_with fail
  refine (Hfd.out).mono ?_
  rintro e w1 ⟨rr, rfl, hr, hb1⟩
  have hX1 := (hb1.block _ (Array.getElem?_eq_some_iff.1 Hx.out).1).trans Hx.out
  have hY1 := (hb1.block _ (Array.getElem?_eq_some_iff.1 Hy.out).1).trans Hy.out
  obtain ⟨x0, x1, x2, x3⟩ := box4 hX1
  obtain ⟨y0, y1, y2, y3⟩ := box4 hY1
  have Hb1 := Lib.hid (Hb0.out.trans (hb1.mono Hb0.out.size))
  have hi2 := H.out.under Hb1.out
  obtain rfl := hr.some HR.out hf
  have hp := (found_some hf).1
  have hpl := (List.getElem?_eq_some_iff.1 hp).1
  have hne : fs ≠ [] := by rintro rfl; simp at hp
  obtain ⟨g, off, rfl, hg, hi⟩ := hi2.2.2.2 hne
  obtain ⟨q0, q1, q2⟩ := hi _ f hp
  obtain ⟨P, hP⟩ : ∃ P, pos fs nm = P := ⟨_, rfl⟩
  rw [hP] at q0 q1 q2 hpl ⊢
  have hk0 : (0 : Int) ≤ (P : Int) := by omega
  have hkk : ¬ (P : Int) < 0 := by omega
  have hkd : decide ((P : Int) < 0) = false := decide_eq_false hkk
  have hke : decide (0 ≤ (P : Int)) = true := decide_eq_true hk0
  have hkn : (P : Int) < (n : Int) := by have := Hnl.out; omega
  have hfz := (HR.out.ok f (found_mem hf)).2.1
  clear hf hp hpl hne hg hi hP
  have s1 : (262144 : Int) - (f.data.size : Int) < (dt.size : Int) := by omega
  have s2 : decide ((262144 : Int) - (f.data.size : Int) < (dt.size : Int)) = true := decide_eq_true (by omega)

  clear hb1 hX1 hY1 hi2
  go_wp2
  go_ret
  exact ⟨rfl, Hb1.out⟩

set_option maxHeartbeats 4000000 in
theorem drefuses_2b (w : World) (ad : Option Addr) (n cap : Nat) (down : Bool) (fuse fault : Int) (fs : List F) (k : Int) (nm dt : ByteArray) (z : Int) (h : Inp w w.heap.size ad n cap fs) (hR : Right fs) (hn : nm.size ≤ 9223372036854775807) (hd : dt.size ≤ 9223372036854775807) (hz0 : -9223372036854775808 ≤ z) (hz1 : z ≤ 9223372036854775807)
    (hk : k = 2) (f : F) (hf : found fs nm = some f) (hs : ¬ 262144 - f.data.size < dt.size) :
    Calls Try.prog 30 #[.agg (dcells (.slice ad n cap) down fuse fault), .agg (scells k nm dt z)] w fun e w' => e = .returned (.int .i64 0) ∧ Below w.heap.size w w' := by
  have hb0 : Below w.heap.size w ((w.alloc (.cells (dcells (.slice ad n cap) down fuse fault) 24)).alloc (.cells (scells k nm dt z) 27)) := ((Below.refl _ w).alloc (Nat.le_refl _) _).alloc (by simp) _
  have hx : ((w.alloc (.cells (dcells (.slice ad n cap) down fuse fault) 24)).alloc (.cells (scells k nm dt z) 27)).heap[w.heap.size]? = some (.cells (dcells (.slice ad n cap) down fuse fault) 24) := blk_alloc (blk_new w _) _
  have hy : ((w.alloc (.cells (dcells (.slice ad n cap) down fuse fault) 24)).alloc (.cells (scells k nm dt z) 27)).heap[w.heap.size + 1]? = some (.cells (scells k nm dt z) 27) := by
    have := blk_new (w.alloc (.cells (dcells (.slice ad n cap) down fuse fault) 24)) (.cells (scells k nm dt z) 27)
    simpa using this
  have h64 : n ≤ 64 := by have := h.1; have := hR.1; omega
  have Hnl := Lib.hid (show n = fs.length from h.1)
  have Hfd := Lib.hid (dfind_any _ ad n cap down fuse fault fs nm (h.under hb0) (by omega))
  have Hb0 := Lib.hid hb0
  have Hx := Lib.hid hx
  have Hy := Lib.hid hy
  have H := Lib.hid h
  have HR := Lib.hid hR
  subst hk

  clear h hb0 hx hy hR
  go_enter Try.func30, Try.ntmps30
  go_wp2_with fail
  refine (Hfd.out).mono ?_
  rintro e w1 ⟨rr, rfl, hr, hb1⟩
  have hX1 := (hb1.block _ (Array.getElem?_eq_some_iff.1 Hx.out).1).trans Hx.out
  have hY1 := (hb1.block _ (Array.getElem?_eq_some_iff.1 Hy.out).1).trans Hy.out
  obtain ⟨x0, x1, x2, x3⟩ := box4 hX1
  obtain ⟨y0, y1, y2, y3⟩ := box4 hY1
  have Hb1 := Lib.hid (Hb0.out.trans (hb1.mono Hb0.out.size))
  have hi2 := H.out.under Hb1.out
  obtain rfl := hr.some HR.out hf
  have hp := (found_some hf).1
  have hpl := (List.getElem?_eq_some_iff.1 hp).1
  have hne : fs ≠ [] := by rintro rfl; simp at hp
  obtain ⟨g, off, rfl, hg, hi⟩ := hi2.2.2.2 hne
  obtain ⟨q0, q1, q2⟩ := hi _ f hp
  obtain ⟨P, hP⟩ : ∃ P, pos fs nm = P := ⟨_, rfl⟩
  rw [hP] at q0 q1 q2 hpl ⊢
  have hk0 : (0 : Int) ≤ (P : Int) := by omega
  have hkk : ¬ (P : Int) < 0 := by omega
  have hkd : decide ((P : Int) < 0) = false := decide_eq_false hkk
  have hke : decide (0 ≤ (P : Int)) = true := decide_eq_true hk0
  have hkn : (P : Int) < (n : Int) := by have := Hnl.out; omega
  have hfz := (HR.out.ok f (found_mem hf)).2.1
  clear hf hp hpl hne hg hi hP
  have s1 : ¬ (262144 : Int) - (f.data.size : Int) < (dt.size : Int) := by omega
  have s2 : decide ((262144 : Int) - (f.data.size : Int) < (dt.size : Int)) = false := decide_eq_false (by omega)

  clear hb1 hX1 hY1 hi2
  go_wp2
  go_ret
  exact ⟨rfl, Hb1.out⟩

set_option maxHeartbeats 4000000 in
theorem drefuses_4a (w : World) (ad : Option Addr) (n cap : Nat) (down : Bool) (fuse fault : Int) (fs : List F) (k : Int) (nm dt : ByteArray) (z : Int) (h : Inp w w.heap.size ad n cap fs) (hR : Right fs) (hn : nm.size ≤ 9223372036854775807) (hd : dt.size ≤ 9223372036854775807) (hz0 : -9223372036854775808 ≤ z) (hz1 : z ≤ 9223372036854775807)
    (hk : k = 4) (f : F) (hf : found fs nm = some f) (hs : z < 0) :
    Calls Try.prog 30 #[.agg (dcells (.slice ad n cap) down fuse fault), .agg (scells k nm dt z)] w fun e w' => e = .returned (.int .i64 2) ∧ Below w.heap.size w w' := by
  have hb0 : Below w.heap.size w ((w.alloc (.cells (dcells (.slice ad n cap) down fuse fault) 24)).alloc (.cells (scells k nm dt z) 27)) := ((Below.refl _ w).alloc (Nat.le_refl _) _).alloc (by simp) _
  have hx : ((w.alloc (.cells (dcells (.slice ad n cap) down fuse fault) 24)).alloc (.cells (scells k nm dt z) 27)).heap[w.heap.size]? = some (.cells (dcells (.slice ad n cap) down fuse fault) 24) := blk_alloc (blk_new w _) _
  have hy : ((w.alloc (.cells (dcells (.slice ad n cap) down fuse fault) 24)).alloc (.cells (scells k nm dt z) 27)).heap[w.heap.size + 1]? = some (.cells (scells k nm dt z) 27) := by
    have := blk_new (w.alloc (.cells (dcells (.slice ad n cap) down fuse fault) 24)) (.cells (scells k nm dt z) 27)
    simpa using this
  have h64 : n ≤ 64 := by have := h.1; have := hR.1; omega
  have Hnl := Lib.hid (show n = fs.length from h.1)
  have Hfd := Lib.hid (dfind_any _ ad n cap down fuse fault fs nm (h.under hb0) (by omega))
  have Hb0 := Lib.hid hb0
  have Hx := Lib.hid hx
  have Hy := Lib.hid hy
  have H := Lib.hid h
  have HR := Lib.hid hR
  subst hk
  have s1 : decide (z < 0) = true := decide_eq_true (by omega)

  clear h hb0 hx hy hR
  go_enter Try.func30, Try.ntmps30
  go_wp2_with fail
  refine (Hfd.out).mono ?_
  rintro e w1 ⟨rr, rfl, hr, hb1⟩
  have hX1 := (hb1.block _ (Array.getElem?_eq_some_iff.1 Hx.out).1).trans Hx.out
  have hY1 := (hb1.block _ (Array.getElem?_eq_some_iff.1 Hy.out).1).trans Hy.out
  obtain ⟨x0, x1, x2, x3⟩ := box4 hX1
  obtain ⟨y0, y1, y2, y3⟩ := box4 hY1
  have Hb1 := Lib.hid (Hb0.out.trans (hb1.mono Hb0.out.size))
  have hi2 := H.out.under Hb1.out
  obtain rfl := hr.some HR.out hf
  have hp := (found_some hf).1
  have hpl := (List.getElem?_eq_some_iff.1 hp).1
  have hne : fs ≠ [] := by rintro rfl; simp at hp
  obtain ⟨g, off, rfl, hg, hi⟩ := hi2.2.2.2 hne
  obtain ⟨q0, q1, q2⟩ := hi _ f hp
  obtain ⟨P, hP⟩ : ∃ P, pos fs nm = P := ⟨_, rfl⟩
  rw [hP] at q0 q1 q2 hpl ⊢
  have hk0 : (0 : Int) ≤ (P : Int) := by omega
  have hkk : ¬ (P : Int) < 0 := by omega
  have hkd : decide ((P : Int) < 0) = false := decide_eq_false hkk
  have hke : decide (0 ≤ (P : Int)) = true := decide_eq_true hk0
  have hkn : (P : Int) < (n : Int) := by have := Hnl.out; omega
  have hfz := (HR.out.ok f (found_mem hf)).2.1
  clear hf hp hpl hne hg hi hP
  clear hb1 hX1 hY1 hi2
  go_wp2
  go_ret
  exact ⟨rfl, Hb1.out⟩

set_option maxHeartbeats 4000000 in
theorem drefuses_4b (w : World) (ad : Option Addr) (n cap : Nat) (down : Bool) (fuse fault : Int) (fs : List F) (k : Int) (nm dt : ByteArray) (z : Int) (h : Inp w w.heap.size ad n cap fs) (hR : Right fs) (hn : nm.size ≤ 9223372036854775807) (hd : dt.size ≤ 9223372036854775807) (hz0 : -9223372036854775808 ≤ z) (hz1 : z ≤ 9223372036854775807)
    (hk : k = 4) (f : F) (hf : found fs nm = some f) (hs : ¬ z < 0) (ht : (f.data.size : Int) < z) :
    Calls Try.prog 30 #[.agg (dcells (.slice ad n cap) down fuse fault), .agg (scells k nm dt z)] w fun e w' => e = .returned (.int .i64 2) ∧ Below w.heap.size w w' := by
  have hb0 : Below w.heap.size w ((w.alloc (.cells (dcells (.slice ad n cap) down fuse fault) 24)).alloc (.cells (scells k nm dt z) 27)) := ((Below.refl _ w).alloc (Nat.le_refl _) _).alloc (by simp) _
  have hx : ((w.alloc (.cells (dcells (.slice ad n cap) down fuse fault) 24)).alloc (.cells (scells k nm dt z) 27)).heap[w.heap.size]? = some (.cells (dcells (.slice ad n cap) down fuse fault) 24) := blk_alloc (blk_new w _) _
  have hy : ((w.alloc (.cells (dcells (.slice ad n cap) down fuse fault) 24)).alloc (.cells (scells k nm dt z) 27)).heap[w.heap.size + 1]? = some (.cells (scells k nm dt z) 27) := by
    have := blk_new (w.alloc (.cells (dcells (.slice ad n cap) down fuse fault) 24)) (.cells (scells k nm dt z) 27)
    simpa using this
  have h64 : n ≤ 64 := by have := h.1; have := hR.1; omega
  have Hnl := Lib.hid (show n = fs.length from h.1)
  have Hfd := Lib.hid (dfind_any _ ad n cap down fuse fault fs nm (h.under hb0) (by omega))
  have Hb0 := Lib.hid hb0
  have Hx := Lib.hid hx
  have Hy := Lib.hid hy
  have H := Lib.hid h
  have HR := Lib.hid hR
  subst hk
  have s1 : decide (z < 0) = false := decide_eq_false (by omega)

  clear h hb0 hx hy hR
  go_enter Try.func30, Try.ntmps30
  go_wp2_with fail
  refine (Hfd.out).mono ?_
  rintro e w1 ⟨rr, rfl, hr, hb1⟩
  have hX1 := (hb1.block _ (Array.getElem?_eq_some_iff.1 Hx.out).1).trans Hx.out
  have hY1 := (hb1.block _ (Array.getElem?_eq_some_iff.1 Hy.out).1).trans Hy.out
  obtain ⟨x0, x1, x2, x3⟩ := box4 hX1
  obtain ⟨y0, y1, y2, y3⟩ := box4 hY1
  have Hb1 := Lib.hid (Hb0.out.trans (hb1.mono Hb0.out.size))
  have hi2 := H.out.under Hb1.out
  obtain rfl := hr.some HR.out hf
  have hp := (found_some hf).1
  have hpl := (List.getElem?_eq_some_iff.1 hp).1
  have hne : fs ≠ [] := by rintro rfl; simp at hp
  obtain ⟨g, off, rfl, hg, hi⟩ := hi2.2.2.2 hne
  obtain ⟨q0, q1, q2⟩ := hi _ f hp
  obtain ⟨P, hP⟩ : ∃ P, pos fs nm = P := ⟨_, rfl⟩
  rw [hP] at q0 q1 q2 hpl ⊢
  have hk0 : (0 : Int) ≤ (P : Int) := by omega
  have hkk : ¬ (P : Int) < 0 := by omega
  have hkd : decide ((P : Int) < 0) = false := decide_eq_false hkk
  have hke : decide (0 ≤ (P : Int)) = true := decide_eq_true hk0
  have hkn : (P : Int) < (n : Int) := by have := Hnl.out; omega
  have hfz := (HR.out.ok f (found_mem hf)).2.1
  clear hf hp hpl hne hg hi hP
  have s2 : decide ((f.data.size : Int) < z) = true := decide_eq_true (by omega)

  clear hb1 hX1 hY1 hi2
  go_wp2
  go_ret
  exact ⟨rfl, Hb1.out⟩

set_option maxHeartbeats 4000000 in
theorem drefuses_4c (w : World) (ad : Option Addr) (n cap : Nat) (down : Bool) (fuse fault : Int) (fs : List F) (k : Int) (nm dt : ByteArray) (z : Int) (h : Inp w w.heap.size ad n cap fs) (hR : Right fs) (hn : nm.size ≤ 9223372036854775807) (hd : dt.size ≤ 9223372036854775807) (hz0 : -9223372036854775808 ≤ z) (hz1 : z ≤ 9223372036854775807)
    (hk : k = 4) (f : F) (hf : found fs nm = some f) (hs : ¬ z < 0) (ht : ¬ (f.data.size : Int) < z) :
    Calls Try.prog 30 #[.agg (dcells (.slice ad n cap) down fuse fault), .agg (scells k nm dt z)] w fun e w' => e = .returned (.int .i64 0) ∧ Below w.heap.size w w' := by
  have hb0 : Below w.heap.size w ((w.alloc (.cells (dcells (.slice ad n cap) down fuse fault) 24)).alloc (.cells (scells k nm dt z) 27)) := ((Below.refl _ w).alloc (Nat.le_refl _) _).alloc (by simp) _
  have hx : ((w.alloc (.cells (dcells (.slice ad n cap) down fuse fault) 24)).alloc (.cells (scells k nm dt z) 27)).heap[w.heap.size]? = some (.cells (dcells (.slice ad n cap) down fuse fault) 24) := blk_alloc (blk_new w _) _
  have hy : ((w.alloc (.cells (dcells (.slice ad n cap) down fuse fault) 24)).alloc (.cells (scells k nm dt z) 27)).heap[w.heap.size + 1]? = some (.cells (scells k nm dt z) 27) := by
    have := blk_new (w.alloc (.cells (dcells (.slice ad n cap) down fuse fault) 24)) (.cells (scells k nm dt z) 27)
    simpa using this
  have h64 : n ≤ 64 := by have := h.1; have := hR.1; omega
  have Hnl := Lib.hid (show n = fs.length from h.1)
  have Hfd := Lib.hid (dfind_any _ ad n cap down fuse fault fs nm (h.under hb0) (by omega))
  have Hb0 := Lib.hid hb0
  have Hx := Lib.hid hx
  have Hy := Lib.hid hy
  have H := Lib.hid h
  have HR := Lib.hid hR
  subst hk
  have s1 : decide (z < 0) = false := decide_eq_false (by omega)

  clear h hb0 hx hy hR
  go_enter Try.func30, Try.ntmps30
  go_wp2_with fail
  refine (Hfd.out).mono ?_
  rintro e w1 ⟨rr, rfl, hr, hb1⟩
  have hX1 := (hb1.block _ (Array.getElem?_eq_some_iff.1 Hx.out).1).trans Hx.out
  have hY1 := (hb1.block _ (Array.getElem?_eq_some_iff.1 Hy.out).1).trans Hy.out
  obtain ⟨x0, x1, x2, x3⟩ := box4 hX1
  obtain ⟨y0, y1, y2, y3⟩ := box4 hY1
  have Hb1 := Lib.hid (Hb0.out.trans (hb1.mono Hb0.out.size))
  have hi2 := H.out.under Hb1.out
  obtain rfl := hr.some HR.out hf
  have hp := (found_some hf).1
  have hpl := (List.getElem?_eq_some_iff.1 hp).1
  have hne : fs ≠ [] := by rintro rfl; simp at hp
  obtain ⟨g, off, rfl, hg, hi⟩ := hi2.2.2.2 hne
  obtain ⟨q0, q1, q2⟩ := hi _ f hp
  obtain ⟨P, hP⟩ : ∃ P, pos fs nm = P := ⟨_, rfl⟩
  rw [hP] at q0 q1 q2 hpl ⊢
  have hk0 : (0 : Int) ≤ (P : Int) := by omega
  have hkk : ¬ (P : Int) < 0 := by omega
  have hkd : decide ((P : Int) < 0) = false := decide_eq_false hkk
  have hke : decide (0 ≤ (P : Int)) = true := decide_eq_true hk0
  have hkn : (P : Int) < (n : Int) := by have := Hnl.out; omega
  have hfz := (HR.out.ok f (found_mem hf)).2.1
  clear hf hp hpl hne hg hi hP
  have s2 : decide ((f.data.size : Int) < z) = false := decide_eq_false (by omega)

  clear hb1 hX1 hY1 hi2
  go_wp2
  go_ret
  exact ⟨rfl, Hb1.out⟩

set_option maxHeartbeats 4000000 in
theorem drefuses_o (w : World) (ad : Option Addr) (n cap : Nat) (down : Bool) (fuse fault : Int) (fs : List F) (k : Int) (nm dt : ByteArray) (z : Int) (h : Inp w w.heap.size ad n cap fs) (hR : Right fs) (hn : nm.size ≤ 9223372036854775807) (hd : dt.size ≤ 9223372036854775807) (hz0 : -9223372036854775808 ≤ z) (hz1 : z ≤ 9223372036854775807)
    (h1 : ¬ k = 1) (h2 : ¬ k = 2) (h4 : ¬ k = 4) (f : F) (hf : found fs nm = some f) :
    Calls Try.prog 30 #[.agg (dcells (.slice ad n cap) down fuse fault), .agg (scells k nm dt z)] w fun e w' => e = .returned (.int .i64 0) ∧ Below w.heap.size w w' := by
  have hb0 : Below w.heap.size w ((w.alloc (.cells (dcells (.slice ad n cap) down fuse fault) 24)).alloc (.cells (scells k nm dt z) 27)) := ((Below.refl _ w).alloc (Nat.le_refl _) _).alloc (by simp) _
  have hx : ((w.alloc (.cells (dcells (.slice ad n cap) down fuse fault) 24)).alloc (.cells (scells k nm dt z) 27)).heap[w.heap.size]? = some (.cells (dcells (.slice ad n cap) down fuse fault) 24) := blk_alloc (blk_new w _) _
  have hy : ((w.alloc (.cells (dcells (.slice ad n cap) down fuse fault) 24)).alloc (.cells (scells k nm dt z) 27)).heap[w.heap.size + 1]? = some (.cells (scells k nm dt z) 27) := by
    have := blk_new (w.alloc (.cells (dcells (.slice ad n cap) down fuse fault) 24)) (.cells (scells k nm dt z) 27)
    simpa using this
  have h64 : n ≤ 64 := by have := h.1; have := hR.1; omega
  have Hnl := Lib.hid (show n = fs.length from h.1)
  have Hfd := Lib.hid (dfind_any _ ad n cap down fuse fault fs nm (h.under hb0) (by omega))
  have Hb0 := Lib.hid hb0
  have Hx := Lib.hid hx
  have Hy := Lib.hid hy
  have H := Lib.hid h
  have HR := Lib.hid hR
  have k1 : (k == 1) = false := by simp [h1]
  have k2 : (k == 2) = false := by simp [h2]
  have k4 : (k == 4) = false := by simp [h4]

  clear h hb0 hx hy hR
  go_enter Try.func30, Try.ntmps30
  go_wp2_with fail
  refine (Hfd.out).mono ?_
  rintro e w1 ⟨rr, rfl, hr, hb1⟩
  have hX1 := (hb1.block _ (Array.getElem?_eq_some_iff.1 Hx.out).1).trans Hx.out
  have hY1 := (hb1.block _ (Array.getElem?_eq_some_iff.1 Hy.out).1).trans Hy.out
  obtain ⟨x0, x1, x2, x3⟩ := box4 hX1
  obtain ⟨y0, y1, y2, y3⟩ := box4 hY1
  have Hb1 := Lib.hid (Hb0.out.trans (hb1.mono Hb0.out.size))
  have hi2 := H.out.under Hb1.out
  obtain rfl := hr.some HR.out hf
  have hp := (found_some hf).1
  have hpl := (List.getElem?_eq_some_iff.1 hp).1
  have hne : fs ≠ [] := by rintro rfl; simp at hp
  obtain ⟨g, off, rfl, hg, hi⟩ := hi2.2.2.2 hne
  obtain ⟨q0, q1, q2⟩ := hi _ f hp
  obtain ⟨P, hP⟩ : ∃ P, pos fs nm = P := ⟨_, rfl⟩
  rw [hP] at q0 q1 q2 hpl ⊢
  have hk0 : (0 : Int) ≤ (P : Int) := by omega
  have hkk : ¬ (P : Int) < 0 := by omega
  have hkd : decide ((P : Int) < 0) = false := decide_eq_false hkk
  have hke : decide (0 ≤ (P : Int)) = true := decide_eq_true hk0
  have hkn : (P : Int) < (n : Int) := by have := Hnl.out; omega
  have hfz := (HR.out.ok f (found_mem hf)).2.1
  clear hf hp hpl hne hg hi hP
  clear hb1 hX1 hY1 hi2
  go_wp2
  go_ret
  exact ⟨rfl, Hb1.out⟩

theorem drefuses_any (w : World) (ad : Option Addr) (n cap : Nat) (down : Bool) (fuse fault : Int) (fs : List F) (k : Int) (nm dt : ByteArray) (z : Int) (h : Inp w w.heap.size ad n cap fs) (hR : Right fs) (hn : nm.size ≤ 9223372036854775807) (hd : dt.size ≤ 9223372036854775807) (hz0 : -9223372036854775808 ≤ z) (hz1 : z ≤ 9223372036854775807) :
    Calls Try.prog 30 #[.agg (dcells (.slice ad n cap) down fuse fault), .agg (scells k nm dt z)] w fun e w' => e = .returned (.int .i64 (ref fs ⟨k, nm, dt, z⟩)) ∧ Below w.heap.size w w' := by
  have hl := h.1
  have h64 := hR.1
  by_cases h1 : k = 1
  · by_cases h0 : nm.size = 0
    · have e : ref fs ⟨k, nm, dt, z⟩ = 4 := by simp [ref, h1, okN, h0]
      rw [e]; exact drefuses_1a w ad n cap down fuse fault fs k nm dt z h hR hn hd hz0 hz1 h1 h0
    · by_cases h4 : 4096 < nm.size
      · have e : ref fs ⟨k, nm, dt, z⟩ = 4 := by simp [ref, h1, okN, h0]; omega
        rw [e]; exact drefuses_1b w ad n cap down fuse fault fs k nm dt z h hR hn hd hz0 hz1 h1 h0 h4
      · have hok : okN nm := ⟨h0, by omega⟩
        cases hf : found fs nm with
        | some f =>
          have e : ref fs ⟨k, nm, dt, z⟩ = 6 := by simp [ref, h1, hok, hf]
          rw [e]; exact drefuses_1c w ad n cap down fuse fault fs k nm dt z h hR hn hd hz0 hz1 h1 h0 h4 f hf
        | none =>
          by_cases hl2 : 64 ≤ n
          · have e : ref fs ⟨k, nm, dt, z⟩ = 8 := by simp [ref, h1, hok, hf]; omega
            rw [e]; exact drefuses_1d w ad n cap down fuse fault fs k nm dt z h hR hn hd hz0 hz1 h1 h0 h4 hf hl2
          · have e : ref fs ⟨k, nm, dt, z⟩ = 0 := by simp [ref, h1, hok, hf]; omega
            rw [e]; exact drefuses_1e w ad n cap down fuse fault fs k nm dt z h hR hn hd hz0 hz1 h1 h0 h4 hf hl2
  · cases hf : found fs nm with
    | none =>
      have e : ref fs ⟨k, nm, dt, z⟩ = 7 := by simp [ref, h1, hf]
      rw [e]; exact drefuses_n w ad n cap down fuse fault fs k nm dt z h hR hn hd hz0 hz1 h1 hf
    | some f =>
      by_cases h2 : k = 2
      · by_cases hs : 262144 - f.data.size < dt.size
        · have e : ref fs ⟨k, nm, dt, z⟩ = 8 := by simp [ref, h2, hf, hs]
          rw [e]; exact drefuses_2a w ad n cap down fuse fault fs k nm dt z h hR hn hd hz0 hz1 h2 f hf hs
        · have e : ref fs ⟨k, nm, dt, z⟩ = 0 := by simp [ref, h2, hf, hs]
          rw [e]; exact drefuses_2b w ad n cap down fuse fault fs k nm dt z h hR hn hd hz0 hz1 h2 f hf hs
      · by_cases h4 : k = 4
        · by_cases hs : z < 0
          · have e : ref fs ⟨k, nm, dt, z⟩ = 2 := by simp [ref, h4, hf, hs]
            rw [e]; exact drefuses_4a w ad n cap down fuse fault fs k nm dt z h hR hn hd hz0 hz1 h4 f hf hs
          · by_cases ht : (f.data.size : Int) < z
            · have e : ref fs ⟨k, nm, dt, z⟩ = 2 := by simp [ref, h4, hf, ht]
              rw [e]; exact drefuses_4b w ad n cap down fuse fault fs k nm dt z h hR hn hd hz0 hz1 h4 f hf hs ht
            · have e : ref fs ⟨k, nm, dt, z⟩ = 0 := by simp [ref, h4, hf, ht]; omega
              rw [e]; exact drefuses_4c w ad n cap down fuse fault fs k nm dt z h hR hn hd hz0 hz1 h4 f hf hs ht
        · have e : ref fs ⟨k, nm, dt, z⟩ = 0 := by simp [ref, h1, h2, h4, hf]
          rw [e]; exact drefuses_o w ad n cap down fuse fault fs k nm dt z h hR hn hd hz0 hz1 h1 h2 h4 f hf
end Go.Proofs.Ytcefhcailhediaa
