/- THE WALKS OVER whole, lives. -/
import Derived.Test.YtcefhcailhediaaAsk
namespace Go.Proofs.Ytcefhcailhediaa
open Go.RowKit
set_option linter.unusedVariables false
set_option linter.unusedSimpArgs false
attribute [local go_sem] run_store_func run_store_nilf

theorem doo_right {d : D} {s : S} (h : Right d.files) (hk : 1 ≤ s.kind ∧ s.kind ≤ 5) : doo d s = run d s := by unfold doo; rw [if_pos h, if_pos hk]
theorem right_nil : Right [] := ⟨by simp, fun i h => by simp at h⟩
theorem right_one {f : F} (h : okF f) : Right [f] := ⟨by simp, fun i hi => by
  have : i = 0 := by simpa using hi
  subst this
  intro g hg
  simp at hg
  subst hg
  exact ⟨h, fun p h0 => absurd h0 (by omega)⟩⟩
theorem pos_one (f : F) : pos [f] f.name = 0 := by
  refine pos_unique 0 (by simp) (fun i g hi => by omega) (fun g hg => ?_)
  simp at hg; subst hg; exact lt_irrefl _
theorem found_one (f : F) : found [f] f.name = some f := by unfold found; rw [pos_one]; simp
theorem doo_create {n : ByteArray} (h : okN n) {z : Int} {d : ByteArray} : doo ⟨[], false, -1, -1⟩ ⟨1, n, d, z⟩ = (⟨[⟨n, ⟨#[]⟩, 0⟩], false, -1, -1⟩, 0) := by
  rw [doo_right right_nil ⟨by simp, by simp⟩, run_done _ (by decide) (by decide)]
  · rw [eff1]; rfl
  · rw [ref1, if_pos h]; rfl
theorem doo_append {f : F} (h : okF f) {d : ByteArray} {z : Int} (hd : f.data.size + d.size ≤ 262144) : doo ⟨[f], false, -1, -1⟩ ⟨2, f.name, d, z⟩ = (⟨[⟨f.name, f.data ++ d, f.syn⟩], false, -1, -1⟩, 0) := by
  rw [doo_right (right_one h) ⟨by simp, by simp⟩, run_done _ (by decide) (by decide)]
  · rw [eff2 (found_one f), pos_one]; rfl
  · rw [ref2 (found_one f), if_neg (by omega)]
theorem doo_sync {f : F} (h : okF f) {d : ByteArray} {z : Int} : doo ⟨[f], false, -1, -1⟩ ⟨3, f.name, d, z⟩ = (⟨[⟨f.name, f.data, f.data.size⟩], false, -1, -1⟩, 0) := by
  rw [doo_right (right_one h) ⟨by simp, by simp⟩, run_done _ (by decide) (by decide)]
  · rw [eff3 (found_one f), pos_one]; rfl
  · rw [ref3 (found_one f)]
theorem crv_right {d : D} {ks : List Int} (h : Right d.files) : crv d ks = (⟨crashL ks d.files, false, -1, -1⟩, 0) := by unfold crv; rw [if_pos h]
theorem rdv_one {f : F} (h : okF f) {u v : Int} : rdv ⟨[f], false, u, v⟩ f.name = (f.data, 0) := by
  unfold rdv
  rw [if_pos (upv_up (right_one h) (by simp))]
  simp only [found_one]

abbrev bA : ByteArray := ⟨#[97]⟩
abbrev bXY : ByteArray := ⟨#[120, 121]⟩
abbrev bZ : ByteArray := ⟨#[122]⟩
abbrev bXYZ : ByteArray := ⟨#[120, 121, 122]⟩
theorem okA : okN bA := by decide
theorem ok_a {d : ByteArray} {s : Int} (h : d.size ≤ 262144) (h0 : 0 ≤ s) (h1 : s ≤ d.size) : okF ⟨bA, d, s⟩ := ⟨okA, h, h0, h1⟩

theorem whole_any (w : World) : Calls Try.prog 38 #[] w fun e w' => e = .returned (.agg (dcells (.slice none 0 0) false (-1) (-1))) ∧ Below w.heap.size w w' := by
  go_enter Try.func38, Try.ntmps38
  go_wp2
  refine bodyPost_ret (v := .agg (dcells (.slice none 0 0) false (-1) (-1))) (by simp [results, Try.results38, go_sem]) rfl ⟨rfl, ?_⟩
  exact (Below.refl _ w).alloc (Nat.le_refl _) _

/-- a disk of one file, in memory -/
theorem DIn.one {w : World} {ad : Option Addr} {n cap : Nat} {fs : List F} (h : Inp w w.heap.size ad n cap fs) (hf : ∀ f ∈ fs, Fit f) : DIn w ad n cap (-1) (-1) fs := ⟨h, hf, by omega, by omega, by omega, by omega⟩
theorem fit_one {f : F} (h : okF f) : ∀ g ∈ [f], Fit g := fun g hg => by simp at hg; subst hg; exact okF_fit h
/-- block q holds the disk of a local variable; the list does not lie there -/
structure Var (w : World) (q : Nat) (ad : Option Addr) (n cap : Nat) (down : Bool) (fuse fault : Int) (fs : List F) : Prop where
  d : Dk w q 24 (.slice ad n cap) down fuse fault
  i : Inp w w.heap.size ad n cap fs
section
variable {w w' : World} {q : Nat} {ad : Option Addr} {n cap : Nat} {down : Bool} {fuse fault : Int} {fs : List F}
theorem Var.under (h : Var w q ad n cap down fuse fault fs) (hb : Below w.heap.size w w') : Var w' q ad n cap down fuse fault fs := ⟨h.d.keep hb h.d.lt, h.i.under hb⟩
/-- a new variable -/
theorem Var.new (h : Inp w w.heap.size ad n cap fs) : Var (w.alloc (.cells (dcells (.slice ad n cap) down fuse fault) 24)) w.heap.size ad n cap down fuse fault fs := ⟨blk_new w _, h.under ((Below.refl _ w).alloc (Nat.le_refl _) _)⟩
/-- the variable is set anew -/
theorem Var.put {ad' : Option Addr} {n' cap' : Nat} {v0 : Value} {d0 : Bool} {u0 t0 : Int} (hd : Dk w q 24 v0 d0 u0 t0) (h : Inp w w.heap.size ad' n' cap' fs) (hf : (Value.slice ad' n' cap').ownBlock ≠ some q) :
    Var ((((w.setCell ⟨q, 0, none⟩ (.slice ad' n' cap')).setCell ⟨q, 1, none⟩ (.bool down)).setCell ⟨q, 2, none⟩ (.int .i64 fuse)).setCell ⟨q, 3, none⟩ (.int .i64 fault)) q ad' n' cap' down fuse fault fs :=
  ⟨(((hd.set0 _).set1 _).set2 _).set3 _, (Inp.set (Inp.set (Inp.set (Inp.set h hf) hf) hf) hf).mono (by simp [World.setCell])⟩
end
theorem below_put {B : Nat} {a w : World} (h : Below B a w) {q : Nat} (hq : B ≤ q) (v0 v1 v2 v3 : Value) : Below B a ((((w.setCell ⟨q, 0, none⟩ v0).setCell ⟨q, 1, none⟩ v1).setCell ⟨q, 2, none⟩ v2).setCell ⟨q, 3, none⟩ v3) :=
  (((h.setCell (p := ⟨q, 0, none⟩) hq _).setCell (p := ⟨q, 1, none⟩) hq _).setCell (p := ⟨q, 2, none⟩) hq _).setCell (p := ⟨q, 3, none⟩) hq _

set_option maxHeartbeats 8000000 in
set_option maxRecDepth 100000 in
theorem lives_any (w : World) : Calls Try.prog 19 #[] w fun e w' => e = .returned (.bool true) ∧ Below w.heap.size w w' := by
  have k1 : okF ⟨bA, ⟨#[]⟩, 0⟩ := ok_a (by decide) (by decide) (by decide)
  have k2 : okF ⟨bA, bXY, 0⟩ := ok_a (by decide) (by decide) (by decide)
  have k3 : okF ⟨bA, bXY, 2⟩ := ok_a (by decide) (by decide) (by decide)
  have k4 : okF ⟨bA, bXYZ, 2⟩ := ok_a (by decide) (by decide) (by decide)
  have k5 : okF ⟨bA, bXYZ, 3⟩ := ok_a (by decide) (by decide) (by decide)
  have e1 : doo ⟨[], false, -1, -1⟩ ⟨1, bA, ⟨#[]⟩, 0⟩ = (⟨[⟨bA, ⟨#[]⟩, 0⟩], false, -1, -1⟩, 0) := doo_create okA
  have e2 : doo ⟨[⟨bA, ⟨#[]⟩, 0⟩], false, -1, -1⟩ ⟨2, bA, bXY, 0⟩ = (⟨[⟨bA, bXY, 0⟩], false, -1, -1⟩, 0) := doo_append (f := ⟨bA, ⟨#[]⟩, 0⟩) k1 (by decide)
  have e3 : doo ⟨[⟨bA, bXY, 0⟩], false, -1, -1⟩ ⟨3, bA, ⟨#[]⟩, 0⟩ = (⟨[⟨bA, bXY, 2⟩], false, -1, -1⟩, 0) := doo_sync (f := ⟨bA, bXY, 0⟩) k2
  have e4 : doo ⟨[⟨bA, bXY, 2⟩], false, -1, -1⟩ ⟨2, bA, bZ, 0⟩ = (⟨[⟨bA, bXYZ, 2⟩], false, -1, -1⟩, 0) := doo_append (f := ⟨bA, bXY, 2⟩) k3 (by decide)
  have e5 : crv ⟨[⟨bA, bXYZ, 2⟩], false, -1, -1⟩ [] = (⟨[⟨bA, bXY, 2⟩], false, -1, -1⟩, 0) := (crv_right (right_one k4)).trans rfl
  have e6 : crv ⟨[⟨bA, bXYZ, 2⟩], false, -1, -1⟩ [1] = (⟨[⟨bA, bXYZ, 3⟩], false, -1, -1⟩, 0) := (crv_right (right_one k4)).trans rfl
  have e7 : rdv ⟨[⟨bA, bXY, 2⟩], false, -1, -1⟩ bA = (bXY, 0) := rdv_one (f := ⟨bA, bXY, 2⟩) k3
  have e8 : rdv ⟨[⟨bA, bXYZ, 3⟩], false, -1, -1⟩ bA = (bXYZ, 0) := rdv_one (f := ⟨bA, bXYZ, 3⟩) k5
  have E1 := Lib.hid e1; have E2 := Lib.hid e2; have E3 := Lib.hid e3; have E4 := Lib.hid e4
  have E5 := Lib.hid e5; have E6 := Lib.hid e6; have E7 := Lib.hid e7; have E8 := Lib.hid e8
  clear e1 e2 e3 e4 e5 e6 e7 e8
  go_enter Try.func19, Try.ntmps19
  go_wp2_with fail
  refine (whole_any _).mono ?_
  rintro e W1 ⟨rfl, hb⟩
  have Hb1 := Lib.hid hb; clear hb
  go_wp2_with fail
  refine (call32_any _ none 0 0 false (-1) (-1) [] bA ⟨#[]⟩ (DIn.one (Inp.nil _ _) (fun g hg => by cases hg)) (by decide) (by decide)).mono ?_
  rw [E1.out]
  rintro e W2 ⟨ad2, n2, cap2, rfl, hi, hb, hf⟩
  have HV2 := Lib.hid (Var.new (down := false) (fuse := -1) (fault := -1) hi)
  have Hq := Lib.hid (Nat.le_trans Hb1.out.size hb.size)
  have Hb2 := Lib.hid (((Hb1.out.trans (hb.mono Hb1.out.size)).alloc Hq.out (.cells (dcells (.slice ad2 n2 cap2) false (-1) (-1)) 24)))
  obtain ⟨⟨a0, a1, a2, a3⟩, _⟩ := HV2.out.d.facts
  clear hi hb hf
  go_wp2_with fail
  refine (call24_any _ ad2 n2 cap2 false (-1) (-1) _ bA bXY (DIn.one HV2.out.i (fit_one k1)) (by decide) (by decide)).mono ?_
  rw [E2.out]
  rintro e w3 ⟨ad3, n3, cap3, rfl, hi, hb, hf⟩
  have hD := HV2.out.d.keep hb HV2.out.d.lt
  have hf' : (Value.slice ad3 n3 cap3).ownBlock ≠ some W2.heap.size := fun e => by have := hf _ e; have := HV2.out.d.lt; omega
  have hlt3 : W2.heap.size < w3.heap.size := hD.lt
  obtain ⟨⟨b0, b1, b2, b3⟩, c0, c1, c2, c3⟩ := hD.facts
  have HV3 := Lib.hid (Var.put (down := false) (fuse := -1) (fault := -1) hD hi hf')
  have Hb3 := Lib.hid (below_put (Hb2.out.trans (hb.mono Hb2.out.size)) Hq.out (.slice ad3 n3 cap3) (.bool false) (.int .i64 (-1)) (.int .i64 (-1)))
  obtain ⟨⟨a0, a1, a2, a3⟩, _⟩ := HV3.out.d.facts
  clear hi hb hf hf' hD
  go_wp2_with fail
  refine (call33_any _ ad3 n3 cap3 false (-1) (-1) _ bA ⟨#[]⟩ (DIn.one HV3.out.i (fit_one k2)) (by decide) (by decide)).mono ?_
  rw [E3.out]
  rintro e w4 ⟨ad4, n4, cap4, rfl, hi, hb, hf⟩
  have hD := HV3.out.d.keep hb HV3.out.d.lt
  have hf' : (Value.slice ad4 n4 cap4).ownBlock ≠ some W2.heap.size := fun e => by have := hf _ e; have := HV3.out.d.lt; omega
  have hlt4 : W2.heap.size < w4.heap.size := hD.lt
  obtain ⟨⟨b0, b1, b2, b3⟩, c0, c1, c2, c3⟩ := hD.facts
  have HV4 := Lib.hid (Var.put (down := false) (fuse := -1) (fault := -1) hD hi hf')
  have Hb4 := Lib.hid (below_put (Hb3.out.trans (hb.mono Hb3.out.size)) Hq.out (.slice ad4 n4 cap4) (.bool false) (.int .i64 (-1)) (.int .i64 (-1)))
  obtain ⟨⟨a0, a1, a2, a3⟩, _⟩ := HV4.out.d.facts
  clear hi hb hf hf' hD
  go_wp2_with fail
  refine (call24_any _ ad4 n4 cap4 false (-1) (-1) _ bA bZ (DIn.one HV4.out.i (fit_one k3)) (by decide) (by decide)).mono ?_
  rw [E4.out]
  rintro e w5 ⟨ad5, n5, cap5, rfl, hi, hb, hf⟩
  have hD := HV4.out.d.keep hb HV4.out.d.lt
  have hf' : (Value.slice ad5 n5 cap5).ownBlock ≠ some W2.heap.size := fun e => by have := hf _ e; have := HV4.out.d.lt; omega
  have hlt5 : W2.heap.size < w5.heap.size := hD.lt
  obtain ⟨⟨b0, b1, b2, b3⟩, c0, c1, c2, c3⟩ := hD.facts
  have HV5 := Lib.hid (Var.put (down := false) (fuse := -1) (fault := -1) hD hi hf')
  have Hb5 := Lib.hid (below_put (Hb4.out.trans (hb.mono Hb4.out.size)) Hq.out (.slice ad5 n5 cap5) (.bool false) (.int .i64 (-1)) (.int .i64 (-1)))
  obtain ⟨⟨a0, a1, a2, a3⟩, _⟩ := HV5.out.d.facts
  clear hi hb hf hf' hD
  go_wp2_with fail
  refine (Crash_any _ ad5 n5 cap5 false (-1) (-1) _ (DIn.one HV5.out.i (fit_one k4)) none 0 0 [] (Ints.nil _ _ _) rfl (by omega)).mono ?_
  rw [E5.out]
  rintro e W6 ⟨ad6, n6, cap6, rfl, hi, hb, hf⟩
  have hV5 := HV5.out.under hb
  have HV5b := Lib.hid (hV5.under ((Below.refl _ W6).alloc (Nat.le_refl _) (.cells (dcells (.slice ad6 n6 cap6) false (-1) (-1)) 24)))
  have HV6 := Lib.hid (Var.new (down := false) (fuse := -1) (fault := -1) hi)
  have Hb6 := Lib.hid (((Hb5.out.trans (hb.mono Hb5.out.size)).alloc (Nat.le_trans Hb5.out.size hb.size) (.cells (dcells (.slice ad6 n6 cap6) false (-1) (-1)) 24)))
  obtain ⟨⟨b0, b1, b2, b3⟩, _⟩ := HV5b.out.d.facts
  have hlt6 := HV5b.out.d.lt
  have hltq : W2.heap.size < W6.heap.size := hV5.d.lt
  clear hi hb hf hV5
  have hb1 : Below (W6.alloc (.cells (dcells (.slice ad6 n6 cap6) false (-1) (-1)) 24)).heap.size (W6.alloc (.cells (dcells (.slice ad6 n6 cap6) false (-1) (-1)) 24)) ((W6.alloc (.cells (dcells (.slice ad6 n6 cap6) false (-1) (-1)) 24)).alloc (.cells #[.int .i64 1] 3)) := (Below.refl _ _).alloc (Nat.le_refl _) _
  have HV5c := Lib.hid (HV5b.out.under hb1)
  have HV6c := Lib.hid (HV6.out.under hb1)
  have Hb6c := Lib.hid (Hb6.out.trans (hb1.mono Hb6.out.size))
  have hint : Ints ((W6.alloc (.cells (dcells (.slice ad6 n6 cap6) false (-1) (-1)) 24)).alloc (.cells #[.int .i64 1] 3)) ((W6.alloc (.cells (dcells (.slice ad6 n6 cap6) false (-1) (-1)) 24)).alloc (.cells #[.int .i64 1] 3)).heap.size (some ⟨W6.heap.size + 1, 0, none⟩) [1] := by
    refine ⟨fun k hk => by simp at hk; omega, fun _ => ⟨W6.heap.size + 1, 0, rfl, by simp, fun i k hk => ?_⟩⟩
    have hi0 : i = 0 := by have := (List.getElem?_eq_some_iff.1 hk).1; simpa using this
    subst hi0
    simp at hk
    subst hk
    have := blk_new (W6.alloc (.cells (dcells (.slice ad6 n6 cap6) false (-1) (-1)) 24)) (.cells #[.int .i64 1] 3)
    have h2 : ((W6.alloc (.cells (dcells (.slice ad6 n6 cap6) false (-1) (-1)) 24)).alloc (.cells #[.int .i64 1] 3)).heap[W6.heap.size + 1]? = some (.cells #[.int .i64 1] 3) := by simpa using this
    exact cell_of_row _ (W6.heap.size + 1) 0 _ 3 (0, 0) h2
  have Hint := Lib.hid hint
  clear hb1 hint
  go_wp2_with fail
  refine (Crash_any _ ad5 n5 cap5 false (-1) (-1) _ (DIn.one HV5c.out.i (fit_one k4)) _ 1 1 [1] Hint.out rfl (by omega)).mono ?_
  rw [E6.out]
  rintro e W7 ⟨ad7, n7, cap7, rfl, hi, hb, hf⟩
  have hV6 := HV6c.out.under hb
  have HV6d := Lib.hid (hV6.under ((Below.refl _ W7).alloc (Nat.le_refl _) (.cells (dcells (.slice ad7 n7 cap7) false (-1) (-1)) 24)))
  have HV7 := Lib.hid (Var.new (down := false) (fuse := -1) (fault := -1) hi)
  have Hb7 := Lib.hid (((Hb6c.out.trans (hb.mono Hb6c.out.size)).alloc (Nat.le_trans Hb6c.out.size hb.size) (.cells (dcells (.slice ad7 n7 cap7) false (-1) (-1)) 24)))
  obtain ⟨⟨x0, x1, x2, x3⟩, _⟩ := HV6d.out.d.facts
  have hlt7 := HV6d.out.d.lt
  have hlt7q : W6.heap.size < W7.heap.size := hV6.d.lt
  clear hi hb hf hV6
  go_wp2_with fail
  refine (Read_any _ ad6 n6 cap6 false (-1) (-1) _ bA (DIn.one HV6d.out.i (fit_one k3)) (by decide)).mono ?_
  rw [E7.out]
  rintro e W8 ⟨rfl, hb⟩
  have HV8 := Lib.hid (HV7.out.under hb)
  have Hb8 := Lib.hid (Hb7.out.trans (hb.mono Hb7.out.size))
  obtain ⟨⟨y0, y1, y2, y3⟩, _⟩ := HV8.out.d.facts
  clear hb
  go_wp2_with fail
  refine (Read_any _ ad7 n7 cap7 false (-1) (-1) _ bA (DIn.one HV8.out.i (fit_one k5)) (by decide)).mono ?_
  rw [E8.out]
  rintro e W9 ⟨rfl, hb⟩
  have Hb9 := Lib.hid (Hb8.out.trans (hb.mono Hb8.out.size))
  clear hb
  go_wp2
  go_ret
  exact ⟨rfl, Hb9.out⟩
end Go.Proofs.Ytcefhcailhediaa
