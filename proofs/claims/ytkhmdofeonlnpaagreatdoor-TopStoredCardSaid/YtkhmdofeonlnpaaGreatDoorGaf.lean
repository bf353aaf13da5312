/- THE WALK OVER Do. -/
import Derived.Test.YtkhmdofeonlnpaaGreatDoorGae
namespace Go.Proofs.YtkhmdofeonlnpaaGreatDoor
open Go.RowKit
set_option maxRecDepth 100000
set_option linter.unusedVariables false
set_option linter.unusedSimpArgs false

attribute [local go_sem] run_store_func run_store_nilf
/-- a disk and an error are answered -/
def DPost (w : World) (r : D × Int) (e : Ending) (w' : World) : Prop :=
  ∃ ad2 n2 cap2, e = .returned (.tuple #[.agg (dcells (.slice ad2 n2 cap2) r.1.down r.1.fuse r.1.fault), .int .i64 r.2]) ∧ Inp w' w'.heap.size ad2 n2 cap2 r.1.files ∧ Below w.heap.size w w' ∧ ∀ b, (Value.slice ad2 n2 cap2).ownBlock = some b → w.heap.size ≤ b
/-- .. and the list's block is free -/
def DPostN (w : World) (r : D × Int) (e : Ending) (w' : World) : Prop :=
  ∃ ad2 n2 cap2, e = .returned (.tuple #[.agg (dcells (.slice ad2 n2 cap2) r.1.down r.1.fuse r.1.fault), .int .i64 r.2]) ∧ Inp w' w'.heap.size ad2 n2 cap2 r.1.files ∧ Below w.heap.size w w' ∧ ∀ b, (Value.slice ad2 n2 cap2).ownBlock = some b → w.heap.size ≤ b ∧ Free w' b
theorem DPostN.post {w : World} {r : D × Int} {e : Ending} {w' : World} (h : DPostN w r e w') : DPost w r e w' := by
  obtain ⟨ad2, n2, cap2, h1, h2, h3, h4⟩ := h
  exact ⟨ad2, n2, cap2, h1, h2, h3, fun b hb => (h4 b hb).1⟩
theorem Inp.nil (w : World) (B : Nat) : Inp w B none 0 0 [] := ⟨rfl, Nat.le_refl _, fun _ => rfl, Fls.nil _ _ _⟩
theorem Inp.drew {w : World} {B : Nat} {ad : Option Addr} {n cap : Nat} {fs : List F} (h : Inp w B ad n cap fs) : Inp w.drew B ad n cap fs := h.keep ((Below.refl B w).drew)
theorem Inp.under {w w' : World} {ad : Option Addr} {n cap : Nat} {fs : List F} (h : Inp w w.heap.size ad n cap fs) (hb : Below w.heap.size w w') : Inp w' w'.heap.size ad n cap fs := (h.keep hb).mono hb.size
/-- a block's cells are turned, in which the list does not lie -/
theorem Inp.set {w : World} {B : Nat} {ad : Option Addr} {n cap : Nat} {fs : List F} (h : Inp w B ad n cap fs) {q o : Nat} {u : Value} (hq : (Value.slice ad n cap).ownBlock ≠ some q) : Inp (w.setCell ⟨q, o, none⟩ u) B ad n cap fs := by
  refine ⟨h.1, h.2.1, h.2.2.1, fun hne => ?_⟩
  obtain ⟨gb, off, rfl, hgb, hc⟩ := h.2.2.2 hne
  have hne' : gb ≠ q := by intro e; subst e; exact hq rfl
  have hcell : ∀ j, (w.setCell ⟨q, o, none⟩ u).cell? ⟨gb, j, none⟩ = w.cell? ⟨gb, j, none⟩ := fun j => World.cell?_of_block (w := w) (Below.heap_setCell w ⟨q, o, none⟩ _ gb hne')
  exact ⟨gb, off, rfl, hgb, fun i f hf => ⟨(hcell _).trans (hc i f hf).q0, (hcell _).trans (hc i f hf).q1, (hcell _).trans (hc i f hf).q2⟩⟩

section
variable (w : World) (ad : Option Addr) (n cap : Nat) (down : Bool) (fuse fault : Int) (fs : List F) (k : Int) (nm dt : ByteArray) (z : Int)
set_option maxHeartbeats 1000000 in
theorem do_bad (hi : Inp w w.heap.size ad n cap fs) (hfit : ∀ f ∈ fs, Fit f) (hR : ¬ Right fs) :
    Calls Tryz.prog 117 #[.agg (dcells (.slice ad n cap) down fuse fault), .agg (scells k nm dt z)] w fun e w' => DPostN w (zero, 6) e w' := by
  have hb0 : Below w.heap.size w (((w.alloc (.cells (dcells (.slice ad n cap) down fuse fault) 24)).alloc (.cells (scells k nm dt z) 182)).alloc (.cells #[.slice none 0 0, .bool false, .int .i64 0, .int .i64 0] 24)) := (((Below.refl _ w).alloc (Nat.le_refl _) _).alloc (by simp) _).alloc (by simp; omega) _
  have hc := check_no _ ad cap n down fuse fault fs hi.1 ((hi.under hb0).2.2.2) hfit hR
  have Hc := Lib.hid hc
  have Hb0 := Lib.hid hb0
  have hq := blk_new ((w.alloc (.cells (dcells (.slice ad n cap) down fuse fault) 24)).alloc (.cells (scells k nm dt z) 182)) (.cells #[.slice none 0 0, .bool false, .int .i64 0, .int .i64 0] 24)
  have Hq := Lib.hid hq
  clear hc hb0 hq
  go_enter Tryz.func117, Tryz.ntmps117
  go_wp2_with fail
  refine (Hc.out).mono ?_
  rintro e w1 ⟨rfl, hb⟩
  have hD : Dk w1 (w.heap.size + 2) 24 (.slice none 0 0) false 0 0 := by
    have := (hb.block _ (Array.getElem?_eq_some_iff.1 Hq.out).1).trans Hq.out
    simpa [Dk] using this
  obtain ⟨⟨d0, d1, d2, d3⟩, f0, f1, f2, f3⟩ := hD.facts
  have HD := Lib.hid hD
  have Hb := Lib.hid (Hb0.out.trans (hb.mono Hb0.out.size))
  clear hb hD
  go_wp2
  refine bodyPost_ret (v := .tuple #[.agg (dcells (.slice none 0 0) false 0 0), .int .i64 6]) (by simp [results, Tryz.results117, go_sem, d0, d1, d2, d3]) rfl ?_
  refine ⟨none, 0, 0, rfl, Inp.nil _ _, ?_, (fun b hb => by simp [Value.ownBlock] at hb)⟩
  exact (((Hb.out.setCell (p := ⟨w.heap.size + 2, 0, none⟩) (by simp) _).setCell (p := ⟨w.heap.size + 2, 1, none⟩) (by simp) _).setCell (p := ⟨w.heap.size + 2, 2, none⟩) (by simp) _).setCell (p := ⟨w.heap.size + 2, 3, none⟩) (by simp) _
end
/-- the three blocks of a call of Do -/
structure Three (w : World) (X Y Z : Obj) (W : World) : Prop where
  x : W.heap[w.heap.size]? = some X
  y : W.heap[w.heap.size + 1]? = some Y
  q : W.heap[w.heap.size + 2]? = some Z
section
variable {X Y Z : Obj} {W W' : World} {w : World}
theorem Three.below (h : Three w X Y Z W) (hb : Below W.heap.size W W') : Three w X Y Z W' :=
  ⟨(hb.block _ (Array.getElem?_eq_some_iff.1 h.x).1).trans h.x, (hb.block _ (Array.getElem?_eq_some_iff.1 h.y).1).trans h.y, (hb.block _ (Array.getElem?_eq_some_iff.1 h.q).1).trans h.q⟩
theorem Three.under {B : Nat} (h : Three w X Y Z W) (hb : Below B W W') (hB : w.heap.size + 2 < B) : Three w X Y Z W' :=
  ⟨(hb.block _ (by omega)).trans h.x, (hb.block _ (by omega)).trans h.y, (hb.block _ (by omega)).trans h.q⟩
theorem Three.lt (h : Three w X Y Z W) : w.heap.size + 2 < W.heap.size := (Array.getElem?_eq_some_iff.1 h.q).1
end

section
variable (w : World) (ad : Option Addr) (n cap : Nat) (down : Bool) (fuse fault : Int) (fs : List F) (k : Int) (nm dt : ByteArray) (z : Int)
set_option maxHeartbeats 2000000 in
theorem do_none (hi : Inp w w.heap.size ad n cap fs) (hR : Right fs) (h1 : ¬ k = 1) (h2 : ¬ k = 2) (h3 : ¬ k = 3) (h4 : ¬ k = 4) (h5 : ¬ k = 5) :
    Calls Tryz.prog 117 #[.agg (dcells (.slice ad n cap) down fuse fault), .agg (scells k nm dt z)] w fun e w' => DPostN w (⟨fs, down, fuse, fault⟩, 5) e w' := by
  have Hch := Lib.hid (fun W => changeOf_no k W h1 h2 h3 h4 h5)
  clear h1 h2 h3 h4 h5
  have hb0 : Below w.heap.size w (((w.alloc (.cells (dcells (.slice ad n cap) down fuse fault) 24)).alloc (.cells (scells k nm dt z) 182)).alloc (.cells #[.slice none 0 0, .bool false, .int .i64 0, .int .i64 0] 24)) := (((Below.refl _ w).alloc (Nat.le_refl _) _).alloc (by simp) _).alloc (by simp; omega) _
  have hi0 := hi.under hb0
  have hc := check_ok _ ad cap n down fuse fault fs hi.1 hi0.2.2.2 hR
  have h64 : n ≤ 64 := by rw [hi.1]; exact hR.1
  have Hc := Lib.hid hc
  have Hb0 := Lib.hid hb0
  have Hi0 := Lib.hid hi0
  have HR := Lib.hid hR
  have hx : (((w.alloc (.cells (dcells (.slice ad n cap) down fuse fault) 24)).alloc (.cells (scells k nm dt z) 182)).alloc (.cells #[.slice none 0 0, .bool false, .int .i64 0, .int .i64 0] 24)).heap[w.heap.size]? = some (.cells (dcells (.slice ad n cap) down fuse fault) 24) := blk_alloc (blk_alloc (blk_new w _) _) _
  have hy : (((w.alloc (.cells (dcells (.slice ad n cap) down fuse fault) 24)).alloc (.cells (scells k nm dt z) 182)).alloc (.cells #[.slice none 0 0, .bool false, .int .i64 0, .int .i64 0] 24)).heap[w.heap.size + 1]? = some (.cells (scells k nm dt z) 182) := by
    have := blk_alloc (blk_new (w.alloc (.cells (dcells (.slice ad n cap) down fuse fault) 24)) (.cells (scells k nm dt z) 182)) (.cells #[.slice none 0 0, .bool false, .int .i64 0, .int .i64 0] 24)
    simpa using this
  have hq : (((w.alloc (.cells (dcells (.slice ad n cap) down fuse fault) 24)).alloc (.cells (scells k nm dt z) 182)).alloc (.cells #[.slice none 0 0, .bool false, .int .i64 0, .int .i64 0] 24)).heap[w.heap.size + 2]? = some (.cells (dcells (.slice none 0 0) false 0 0) 24) := by
    have := blk_new ((w.alloc (.cells (dcells (.slice ad n cap) down fuse fault) 24)).alloc (.cells (scells k nm dt z) 182)) (.cells #[.slice none 0 0, .bool false, .int .i64 0, .int .i64 0] 24)
    simpa using this
  have HT := Lib.hid (⟨hx, hy, hq⟩ : Three w _ _ _ _)
  clear hc hb0 hq hi0 hi hR hx hy
  go_enter Tryz.func117, Tryz.ntmps117
  go_wp2_with fail
  refine (Hc.out).mono ?_
  rintro e w1 ⟨rfl, hb⟩
  have HT1 := Lib.hid (HT.out.below hb)
  obtain ⟨x0, x1, x2, x3⟩ := box4 HT1.out.x
  have Hb1 := Lib.hid (Hb0.out.trans (hb.mono Hb0.out.size))
  have hi1 := Hi0.out.under hb
  have hbg := begin_any w1 ad cap n down fuse fault fs hi1 (by omega)
  have Hbg := Lib.hid hbg
  clear hb hi1 hbg
  go_wp2_with fail
  refine (Hbg.out).mono ?_
  rintro e w2 ⟨g, v, rfl, hD, hr, hfar, hg, hb⟩
  obtain ⟨ad1, cap1, hv, hi2⟩ := Inp.of_row hr
  subst hv
  have HO := Lib.hid (⟨⟨hD, rfl, hi2.2.2.2, HR.out⟩, hr, hfar, hb.size, hg⟩ : Own w2 g w1.heap.size ad1 fs.length cap1 down fuse fault fs)
  have Hb2 := Lib.hid (Hb1.out.trans (hb.mono Hb1.out.size))
  have Hbs := Lib.hid hb.size
  have HT2 := Lib.hid (HT1.out.below hb)
  obtain ⟨y0, y1, y2, y3⟩ := box4 HT2.out.y
  clear x0 x1 x2 x3 hD hr hfar hg hb hi2
  go_wp2_with fail
  refine (Hch.out _).mono ?_
  rintro e w3 ⟨rfl, hb⟩
  have hO := HO.out.keep hb
  have HT3 := Lib.hid (HT2.out.below hb)
  have Hb3 := Lib.hid (Hb2.out.trans (hb.mono Hb2.out.size))
  have hO4 := hO.keep ((Below.refl _ w3).alloc (Nat.le_refl _) (.cells #[.nilFunc, .nilFunc, .nilFunc] 213))
  have HO4 := Lib.hid hO4
  have Hi5 := Lib.hid hO.inp
  have Hfr := Lib.hid hO.row.free
  obtain ⟨⟨d0, d1, d2, d3⟩, _⟩ := hO.on.d.facts
  have hlt := hO.on.d.lt
  obtain ⟨⟨e0, e1, e2, e3⟩, g0, g1, g2, g3⟩ := Dk.facts (show Dk w3 (w.heap.size + 2) 24 (.slice none 0 0) false 0 0 from HT3.out.q)
  have hlt2 := HT3.out.lt
  have hg1 := HO.out.bg
  have Hgq := Lib.hid hg1
  have HT1s := Lib.hid HT1.out.lt
  clear hb hO hO4 hg1
  go_wp2
  have hQ : Dk w3 (w.heap.size + 1 + 1) 24 (.slice none 0 0) false 0 0 := HT3.out.q
  have hQ6 : Dk (((((w3.setCell ⟨w.heap.size + 1 + 1, 0, none⟩ (.slice ad1 fs.length cap1)).setCell ⟨w.heap.size + 1 + 1, 1, none⟩ (.bool down)).setCell ⟨w.heap.size + 1 + 1, 2, none⟩ (.int .i64 fuse)).setCell ⟨w.heap.size + 1 + 1, 3, none⟩ (.int .i64 fault)).alloc (.cells #[.nilFunc, .nilFunc, .nilFunc] 213)) (w.heap.size + 1 + 1) 24 (.slice ad1 fs.length cap1) down fuse fault :=
    blk_alloc ((((hQ.set0 _).set1 _).set2 _).set3 _) _
  obtain ⟨⟨r0, r1, r2, r3⟩, _⟩ := hQ6.facts
  have Hi3 := Lib.hid (HO4.out.inp)
  refine bodyPost_ret (v := .tuple #[.agg (dcells (.slice ad1 fs.length cap1) down fuse fault), .int .i64 5]) (by simp [results, Tryz.results117, go_sem, r0, r1, r2, r3]) rfl ?_
  have hq : (Value.slice ad1 fs.length cap1).ownBlock ≠ some (w.heap.size + 1 + 1) := fun e => by have := (HO.out.row.lt _ e).1; have := HT1s.out; omega
  have hi3 : Inp w3 w3.heap.size ad1 fs.length cap1 fs := Hi5.out
  refine ⟨ad1, _, cap1, rfl, ?_, ?_, fun b hb => ⟨Nat.le_trans Hb1.out.size (HO.out.row.lt _ hb).1, ((((((Hfr.out _ hb).set _ _ _).set _ _ _).set _ _ _).set _ _ _).keep ((Below.refl w3.heap.size _).alloc (by simp [World.setCell]) _) (by have := (Hfr.out _ hb).lt; omega))⟩⟩
  · exact ((Inp.set (Inp.set (Inp.set (Inp.set hi3 hq) hq) hq) hq).keep ((Below.refl w3.heap.size _).alloc (by simp [World.setCell]) _)).mono (by simp [World.setCell])
  · exact ((((Hb3.out.setCell (p := ⟨w.heap.size + 1 + 1, 0, none⟩) (by simp; omega) _).setCell (p := ⟨w.heap.size + 1 + 1, 1, none⟩) (by simp; omega) _).setCell (p := ⟨w.heap.size + 1 + 1, 2, none⟩) (by simp; omega) _).setCell (p := ⟨w.heap.size + 1 + 1, 3, none⟩) (by simp; omega) _).alloc (by simp [World.setCell]; have := Hb3.out.size; omega) _

theorem BehindD.parts {base : Nat} {w : World} {g : Nat} {d : D} {w' : World} (h : BehindD base w g d w') : ∃ ad2 n2 cap2, Dk w' g 91 (.slice ad2 n2 cap2) d.down d.fuse d.fault ∧ Inp w' w'.heap.size ad2 n2 cap2 d.files ∧ Below base w w' ∧ ∀ b, (Value.slice ad2 n2 cap2).ownBlock = some b → base ≤ b ∧ Free w' b := h
set_option maxHeartbeats 4000000 in
theorem do_kind (hi : Inp w w.heap.size ad n cap fs) (hR : Right fs) (a b c : Nat) (hch : ∀ W, Calls Tryz.prog 147 #[.int .u8 k] W fun e w' => e = .returned (.tuple #[chv a b c, .bool true]) ∧ Below W.heap.size W w')
    (K : ∀ g base ad n cap fs, Kind3 g base ad n cap fs ⟨k, nm, dt, z⟩ a b c) (hf0 : -9223372036854775808 ≤ fault) (hf1 : fault ≤ 9223372036854775807) (hu0 : -9223372036854775808 ≤ fuse) (hu1 : fuse ≤ 9223372036854775807) :
    Calls Tryz.prog 117 #[.agg (dcells (.slice ad n cap) down fuse fault), .agg (scells k nm dt z)] w fun e w' => DPostN w (run ⟨fs, down, fuse, fault⟩ ⟨k, nm, dt, z⟩) e w' := by
  have Hch := Lib.hid hch
  have hrun := fun W g base ad n cap h => run_any W g base ad n cap down fuse fault fs k nm dt z a b c h (K g base ad n cap fs) hf0 hf1 hu0 hu1
  obtain ⟨R, hRR⟩ : ∃ R, run ⟨fs, down, fuse, fault⟩ ⟨k, nm, dt, z⟩ = R := ⟨_, rfl⟩
  rw [hRR] at hrun ⊢
  obtain ⟨d', code⟩ := R
  have Hrun := Lib.hid hrun
  clear hch hrun K hRR hf0 hf1 hu0 hu1
  have hb0 : Below w.heap.size w (((w.alloc (.cells (dcells (.slice ad n cap) down fuse fault) 24)).alloc (.cells (scells k nm dt z) 182)).alloc (.cells #[.slice none 0 0, .bool false, .int .i64 0, .int .i64 0] 24)) := (((Below.refl _ w).alloc (Nat.le_refl _) _).alloc (by simp) _).alloc (by simp; omega) _
  have hi0 := hi.under hb0
  have hc := check_ok _ ad cap n down fuse fault fs hi.1 hi0.2.2.2 hR
  have h64 : n ≤ 64 := by rw [hi.1]; exact hR.1
  have Hc := Lib.hid hc
  have Hb0 := Lib.hid hb0
  have Hi0 := Lib.hid hi0
  have HR := Lib.hid hR
  have hx : (((w.alloc (.cells (dcells (.slice ad n cap) down fuse fault) 24)).alloc (.cells (scells k nm dt z) 182)).alloc (.cells #[.slice none 0 0, .bool false, .int .i64 0, .int .i64 0] 24)).heap[w.heap.size]? = some (.cells (dcells (.slice ad n cap) down fuse fault) 24) := blk_alloc (blk_alloc (blk_new w _) _) _
  have hy : (((w.alloc (.cells (dcells (.slice ad n cap) down fuse fault) 24)).alloc (.cells (scells k nm dt z) 182)).alloc (.cells #[.slice none 0 0, .bool false, .int .i64 0, .int .i64 0] 24)).heap[w.heap.size + 1]? = some (.cells (scells k nm dt z) 182) := by
    have := blk_alloc (blk_new (w.alloc (.cells (dcells (.slice ad n cap) down fuse fault) 24)) (.cells (scells k nm dt z) 182)) (.cells #[.slice none 0 0, .bool false, .int .i64 0, .int .i64 0] 24)
    simpa using this
  have hq : (((w.alloc (.cells (dcells (.slice ad n cap) down fuse fault) 24)).alloc (.cells (scells k nm dt z) 182)).alloc (.cells #[.slice none 0 0, .bool false, .int .i64 0, .int .i64 0] 24)).heap[w.heap.size + 2]? = some (.cells (dcells (.slice none 0 0) false 0 0) 24) := by
    have := blk_new ((w.alloc (.cells (dcells (.slice ad n cap) down fuse fault) 24)).alloc (.cells (scells k nm dt z) 182)) (.cells #[.slice none 0 0, .bool false, .int .i64 0, .int .i64 0] 24)
    simpa using this
  have HT := Lib.hid (⟨hx, hy, hq⟩ : Three w _ _ _ _)
  clear hc hb0 hq hi0 hi hR hx hy
  go_enter Tryz.func117, Tryz.ntmps117
  go_wp2_with fail
  refine (Hc.out).mono ?_
  rintro e w1 ⟨rfl, hb⟩
  have HT1 := Lib.hid (HT.out.below hb)
  obtain ⟨x0, x1, x2, x3⟩ := box4 HT1.out.x
  have Hb1 := Lib.hid (Hb0.out.trans (hb.mono Hb0.out.size))
  have hi1 := Hi0.out.under hb
  have hbg := begin_any w1 ad cap n down fuse fault fs hi1 (by omega)
  have Hbg := Lib.hid hbg
  clear hb hi1 hbg
  go_wp2_with fail
  refine (Hbg.out).mono ?_
  rintro e w2 ⟨g, v, rfl, hD, hr, hfar, hg, hb⟩
  obtain ⟨ad1, cap1, hv, hi2⟩ := Inp.of_row hr
  subst hv
  have HO := Lib.hid (⟨⟨hD, rfl, hi2.2.2.2, HR.out⟩, hr, hfar, hb.size, hg⟩ : Own w2 g w1.heap.size ad1 fs.length cap1 down fuse fault fs)
  have Hb2 := Lib.hid (Hb1.out.trans (hb.mono Hb1.out.size))
  have Hbs := Lib.hid hb.size
  have HT2 := Lib.hid (HT1.out.below hb)
  obtain ⟨y0, y1, y2, y3⟩ := box4 HT2.out.y
  clear x0 x1 x2 x3 hD hr hfar hg hb hi2
  go_wp2_with fail
  refine (Hch.out _).mono ?_
  rintro e w3 ⟨rfl, hb⟩
  have hO := HO.out.keep hb
  have HT3 := Lib.hid (HT2.out.below hb)
  have Hb3 := Lib.hid (Hb2.out.trans (hb.mono Hb2.out.size))
  have hb4 := (Below.refl w3.heap.size w3).alloc (Nat.le_refl _) (.cells #[fnv a, fnv b, fnv c] 213)
  have hO4 := hO.keep hb4
  have HT4 := Lib.hid (HT3.out.below hb4)
  have Hb4 := Lib.hid (Hb3.out.trans (hb4.mono Hb3.out.size))
  have Hrn := Lib.hid (Hrun.out _ _ _ _ _ _ hO4)
  have HO4 := Lib.hid hO4
  obtain ⟨y0, y1, y2, y3⟩ := box4 HT3.out.y
  obtain ⟨yy0, yy1, yy2, yy3⟩ := box4 HT4.out.y
  have hlt2 := HT3.out.lt
  have Hbase := Lib.hid HO.out.bw
  have HT1s := Lib.hid HT1.out.lt
  clear hb hO hO4 hb4
  go_wp2_with fail
  refine (Hrn.out).mono ?_
  rintro e w5 ⟨rfl, hB⟩
  obtain ⟨ad2, n2, cap2, hD5, hi5, hb5, hf5⟩ := hB.parts
  have HT5 := Lib.hid (HT4.out.under hb5 HT1s.out)
  have Hb5 := Lib.hid (Below.trans (Hb4.out) (hb5.mono Hb1.out.size))
  have Hi5 := Lib.hid hi5
  have hq : (Value.slice ad2 n2 cap2).ownBlock ≠ some (w.heap.size + 1 + 1) := fun e => by have := (hf5 _ e).1; have := HT1s.out; omega
  have Hq := Lib.hid hq
  have Hf5 := Lib.hid hf5
  obtain ⟨⟨d0, d1, d2, d3⟩, _⟩ := hD5.facts
  obtain ⟨⟨e0, e1, e2, e3⟩, g0, g1, g2, g3⟩ := Dk.facts (show Dk w5 (w.heap.size + 2) 24 (.slice none 0 0) false 0 0 from HT5.out.q)
  obtain ⟨fl', dn', fu', fa'⟩ := d'
  simp only at d0 d1 d2 d3
  have hlt5 := hD5.lt
  have hlt6 := HT5.out.lt
  have hgq : g ≠ w.heap.size + 1 + 1 := by have := HO.out.bg; have := HT1s.out; omega
  clear hB hD5 hi5 hb5 hf5 hq y0 y1 y2 y3 yy0 yy1 yy2 yy3 hlt2
  go_wp2
  have hQ : Dk w5 (w.heap.size + 1 + 1) 24 (.slice none 0 0) false 0 0 := HT5.out.q
  have hQ6 : Dk ((((w5.setCell ⟨w.heap.size + 1 + 1, 0, none⟩ (.slice ad2 n2 cap2)).setCell ⟨w.heap.size + 1 + 1, 1, none⟩ (.bool dn')).setCell ⟨w.heap.size + 1 + 1, 2, none⟩ (.int .i64 fu')).setCell ⟨w.heap.size + 1 + 1, 3, none⟩ (.int .i64 fa')) (w.heap.size + 1 + 1) 24 (.slice ad2 n2 cap2) dn' fu' fa' :=
    (((hQ.set0 _).set1 _).set2 _).set3 _
  obtain ⟨⟨r0, r1, r2, r3⟩, _⟩ := hQ6.facts
  refine bodyPost_ret (v := .tuple #[.agg (dcells (.slice ad2 n2 cap2) dn' fu' fa'), .int .i64 code]) (by simp [results, Tryz.results117, go_sem, r0, r1, r2, r3]) rfl ?_
  have hq := Hq.out
  have hi5 := Hi5.out
  refine ⟨ad2, _, cap2, rfl, ?_, ?_, fun b hb => ⟨Nat.le_trans Hb1.out.size (Hf5.out _ hb).1, (((((Hf5.out _ hb).2.set _ _ _).set _ _ _).set _ _ _).set _ _ _)⟩⟩
  · exact (Inp.set (Inp.set (Inp.set (Inp.set hi5 hq) hq) hq) hq).mono (by simp [World.setCell])
  · exact (((Hb5.out.setCell (p := ⟨w.heap.size + 1 + 1, 0, none⟩) (by simp; omega) _).setCell (p := ⟨w.heap.size + 1 + 1, 1, none⟩) (by simp; omega) _).setCell (p := ⟨w.heap.size + 1 + 1, 2, none⟩) (by simp; omega) _).setCell (p := ⟨w.heap.size + 1 + 1, 3, none⟩) (by simp; omega) _
end
end Go.Proofs.YtkhmdofeonlnpaaGreatDoor
