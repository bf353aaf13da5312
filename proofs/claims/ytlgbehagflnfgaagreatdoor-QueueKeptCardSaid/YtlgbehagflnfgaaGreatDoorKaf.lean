/- THE WALK OVER run. -/
import Derived.Test.YtlgbehagflnfgaaGreatDoorKae
namespace Go.Proofs.YtlgbehagflnfgaaGreatDoor
open Go.RowKit
set_option maxRecDepth 100000
set_option linter.unusedVariables false
set_option linter.unusedSimpArgs false

/-- block g holds a disk whose list is its own -/
structure Own (w : World) (g base : Nat) (ad : Option Addr) (n cap : Nat) (down : Bool) (fuse fault : Int) (fs : List F) : Prop where
 on : On w g ad n cap down fuse fault fs
 row : FRow w base (.slice ad n cap) fs
 far : (Value.slice ad n cap).ownBlock ≠ some g
 bw : base ≤ w.heap.size
 bg : base ≤ g
section
variable {w w' : World} {g base : Nat} {ad : Option Addr} {n cap : Nat} {down down' : Bool} {fuse fault fuse' fault' : Int} {fs : List F}
theorem Own.keep (h : Own w g base ad n cap down fuse fault fs) (hb : Below w.heap.size w w') : Own w' g base ad n cap down fuse fault fs :=
 ⟨h.on.keep hb, h.row.below hb, h.far, Nat.le_trans h.bw hb.size, h.bg⟩
/-- the disk's own cells turned -/
theorem Own.turn (h : Own w g base ad n cap down fuse fault fs) (hD : Dk w' g 91 (.slice ad n cap) down' fuse' fault') (hg : w.grownBy w' (some g)) : Own w' g base ad n cap down' fuse' fault' fs := by
 refine ⟨⟨hD, h.on.n, fun hne => ?_, h.on.r⟩, h.row.kept hg (.inr h.far), h.far, Nat.le_trans h.bw hg.size, h.bg⟩
 obtain ⟨gb, off, e, hgb, hi⟩ := h.on.f hne
 have hne' : gb ≠ g := by
  intro e'
  subst e'
  exact h.far (by rw [e]; rfl)
 have hc : ∀ j, w'.cell? ⟨gb, j, none⟩ = w.cell? ⟨gb, j, none⟩ := fun j => World.cell?_of_block (w := w) (hg.block gb hgb (by simpa using hne'))
 exact ⟨gb, off, e, Nat.lt_of_lt_of_le hgb hg.size, fun i f hf => ⟨(hc _).trans (hi i f hf).q0, (hc _).trans (hi i f hf).q1, (hc _).trans (hi i f hf).q2⟩⟩
theorem Own.inp (h : Own w g base ad n cap down fuse fault fs) : Inp w w.heap.size ad n cap fs := by
 obtain ⟨ad', cap', hv, hc, hnil, hf⟩ := h.row.fls
 simp only [Value.slice.injEq] at hv
 obtain ⟨rfl, rfl, rfl⟩ := hv
 exact ⟨rfl, hc, hnil, hf⟩
theorem Own.behind {w0 : World} (h : Own w g base ad n cap down fuse fault fs) (hb : Below base w0 w) : Behind base w0 g down fuse fault fs w := ⟨ad, n, cap, h.on.d, h.inp, hb, fun b hb => ⟨(h.row.lt b hb).1, h.row.free b hb⟩⟩
/-- where the list lies -/
theorem Own.place (h : Own w g base ad n cap down fuse fault fs) : (ad = none ∧ n = 0 ∧ cap = 0) ∨ ∃ gb, ad = some ⟨gb, 0, none⟩ ∧ gb < w.heap.size ∧ gb ≠ g ∧ n ≤ cap ∧ base ≤ gb := by
 rcases h.row.2 with ⟨hv, hn⟩ | ⟨gb, cap', cur, hv, hbg, hg, hnc, _⟩
 ·simp only [Value.slice.injEq] at hv
  exact .inl hv
 ·simp only [Value.slice.injEq] at hv
  obtain ⟨rfl, hn, rfl⟩ := hv
  exact .inr ⟨gb, rfl, (Array.getElem?_eq_some_iff.1 hg).1, (fun e => h.far (by rw [e]; rfl)), by omega, hbg⟩
end
def BehindD (base : Nat) (w : World) (g : Nat) (d : D) (w' : World) : Prop := Behind base w g d.down d.fuse d.fault d.files w'
theorem bd {base : Nat} {w w' : World} {g : Nat} {d : D} {down : Bool} {fuse fault : Int} {fs : List F} (h : Behind base w g down fuse fault fs w') (e : d = ⟨fs, down, fuse, fault⟩) : BehindD base w g d w' := by subst e; exact h

theorem run_down {fs : List F} {fuse fault : Int} {s : S} : run ⟨fs, true, fuse, fault⟩ s = (⟨fs, true, fuse, fault⟩, 17) := by simp [run]
theorem run_ref {fs : List F} {fuse fault : Int} {s : S} (h : ref fs s ≠ 0) : run ⟨fs, false, fuse, fault⟩ s = (⟨fs, false, fuse, fault⟩, ref fs s) := by simp [run, h]
theorem run_fault {fs : List F} {fuse fault : Int} {s : S} (h : ref fs s = 0) (h2 : fault = 0) : run ⟨fs, false, fuse, fault⟩ s = (⟨fs, false, fuse, -1⟩, 18) := by simp [run, h, h2]
theorem run_fuse {fs : List F} {fuse fault : Int} {s : S} (h : ref fs s = 0) (h2 : ¬ fault = 0) (h3 : fuse = 0) : run ⟨fs, false, fuse, fault⟩ s = (⟨half fs s, true, 0, dec fault⟩, 17) := by simp [run, h, h2, h3]
theorem run_done {fs : List F} {fuse fault : Int} {s : S} (h : ref fs s = 0) (h2 : ¬ fault = 0) (h3 : ¬ fuse = 0) : run ⟨fs, false, fuse, fault⟩ s = (⟨eff fs s, false, dec fuse, dec fault⟩, 0) := by simp [run, h, h2, h3]

/-- what run needs of a kind's three functions -/
structure Kind3 (g base : Nat) (ad : Option Addr) (n cap : Nat) (fs : List F) (s : S) (a b c : Nat) : Prop where
 ea : ∀ args w, (callFunc a args).run Tryz.prog w = .ok (.enter a args) w
 eb : ∀ args w, (callFunc b args).run Tryz.prog w = .ok (.enter b args) w
 ec : ∀ args w, (callFunc c args).run Tryz.prog w = .ok (.enter c args) w
 re : ∀ w down fuse fault, Own w g base ad n cap down fuse fault fs → Calls Tryz.prog a #[.pointer (some ⟨g, 0, none⟩), .agg (scells s.kind s.name s.data s.size)] w fun e w' => e = .returned (.int .i64 (ref fs s)) ∧ Below w.heap.size w w'
 do_ : ∀ w down fuse fault, Own w g base ad n cap down fuse fault fs → ref fs s = 0 → Calls Tryz.prog b #[.pointer (some ⟨g, 0, none⟩), .agg (scells s.kind s.name s.data s.size)] w fun e w' => e = .returned (.tuple #[]) ∧ Behind base w g down fuse fault (eff fs s) w'
 ha : ∀ w down fuse fault, Own w g base ad n cap down fuse fault fs → ref fs s = 0 → Calls Tryz.prog c #[.pointer (some ⟨g, 0, none⟩), .agg (scells s.kind s.name s.data s.size)] w fun e w' => e = .returned (.tuple #[]) ∧ Behind base w g down fuse fault (half fs s) w'

/-- the boxes of run's arguments -/
structure Bx (w : World) (a b c : Nat) (k : Int) (nm dt : ByteArray) (z : Int) (W : World) : Prop where
 x : W.heap[w.heap.size]? = some (.cells #[fnv a, fnv b, fnv c] 171)
 y : W.heap[w.heap.size + 1]? = some (.cells (scells k nm dt z) 150)
section
variable {w : World} {a b c : Nat} {k : Int} {nm dt : ByteArray} {z : Int}
theorem Bx.start : Bx w a b c k nm dt z ((w.alloc (.cells #[fnv a, fnv b, fnv c] 171)).alloc (.cells (scells k nm dt z) 150)) :=
 ⟨blk_alloc (blk_new w _) _, by have := blk_new (w.alloc (.cells #[fnv a, fnv b, fnv c] 171)) (.cells (scells k nm dt z) 150); simpa using this⟩
theorem Bx.below {W W' : World} (h : Bx w a b c k nm dt z W) (hb : Below W.heap.size W W') : Bx w a b c k nm dt z W' :=
 ⟨(hb.block _ (Array.getElem?_eq_some_iff.1 h.x).1).trans h.x, (hb.block _ (Array.getElem?_eq_some_iff.1 h.y).1).trans h.y⟩
theorem Bx.grown {W W' : World} {g : Nat} (h : Bx w a b c k nm dt z W) (hb : W.grownBy W' (some g)) (hg : g < w.heap.size) : Bx w a b c k nm dt z W' :=
 ⟨(hb.block _ (Array.getElem?_eq_some_iff.1 h.x).1 (by simp; omega)).trans h.x, (hb.block _ (Array.getElem?_eq_some_iff.1 h.y).1 (by simp; omega)).trans h.y⟩
theorem below_of_grown {W W' : World} {g B : Nat} (hb : W.grownBy W' (some g)) (hB : B ≤ W.heap.size) (hg : B ≤ g) : Below B W W' :=
 ⟨hb.os, hb.tape, hb.output, hb.size, fun i hi => hb.block i (by omega) (by simp; omega)⟩

end
section
variable (w : World) (g base : Nat) (ad : Option Addr) (n cap : Nat) (fuse fault : Int) (fs : List F) (k : Int) (nm dt : ByteArray) (z : Int) (a b c : Nat)
theorem run_1 (h : Own w g base ad n cap true fuse fault fs) :
  Calls Tryz.prog 115 #[.pointer (some ⟨g, 0, none⟩), chv a b c, .agg (scells k nm dt z)] w fun e w' => e = .returned (.int .i64 17) ∧ Behind base w g true fuse fault fs w' := by
 have H := Lib.hid h
 obtain ⟨⟨d0, d1, d2, d3⟩, _⟩ := h.on.d.facts
 have hlt := h.on.d.lt
 clear h
 go_enter Tryz.func115, Tryz.ntmps115
 go_wp2
 go_ret
 exact ⟨rfl, (H.out.keep (((Below.refl _ w).alloc (Nat.le_refl _) _).alloc (by simp) _)).behind ((((Below.refl _ w).alloc (Nat.le_refl _) _).alloc (by simp) _).mono H.out.bw)⟩
set_option maxHeartbeats 2000000 in
theorem run_2 (h : Own w g base ad n cap false fuse fault fs) (K : Kind3 g base ad n cap fs ⟨k, nm, dt, z⟩ a b c) (r : Int) (hr : ref fs ⟨k, nm, dt, z⟩ = r) (hr0 : ¬ r = 0) :
  Calls Tryz.prog 115 #[.pointer (some ⟨g, 0, none⟩), chv a b c, .agg (scells k nm dt z)] w fun e w' => e = .returned (.int .i64 r) ∧ Behind base w g false fuse fault fs w' := by
 have H := Lib.hid h
 obtain ⟨⟨d0, d1, d2, d3⟩, _⟩ := h.on.d.facts
 have hlt := h.on.d.lt
 have hb0 : Below w.heap.size w ((w.alloc (.cells #[fnv a, fnv b, fnv c] 171)).alloc (.cells (scells k nm dt z) 150)) := ((Below.refl _ w).alloc (Nat.le_refl _) _).alloc (by simp) _
 have hre := K.re _ _ _ _ (h.keep hb0)
 rw [hr] at hre
 have Hre := Lib.hid hre
 have Hb0 := Lib.hid hb0
 have ea := K.ea
 have hr1 : (r == 0) = false := by simp [hr0]
 clear h hre hb0 K hr
 go_enter Tryz.func115, Tryz.ntmps115
 go_wp2_with fail
 refine (Hre.out).mono ?_
 rintro e w1 ⟨rfl, hb⟩
 have Hb := Lib.hid (Hb0.out.trans (hb.mono Hb0.out.size)); clear hb
 go_wp2
 go_ret
 exact ⟨rfl, (H.out.keep Hb.out).behind (Hb.out.mono H.out.bw)⟩
set_option maxHeartbeats 2000000 in
theorem run_3 (h : Own w g base ad n cap false fuse fault fs) (K : Kind3 g base ad n cap fs ⟨k, nm, dt, z⟩ a b c) (hr : ref fs ⟨k, nm, dt, z⟩ = 0) (hf : fault = 0) (f0 : -9223372036854775808 ≤ fault) (f1 : fault ≤ 9223372036854775807) :
  Calls Tryz.prog 115 #[.pointer (some ⟨g, 0, none⟩), chv a b c, .agg (scells k nm dt z)] w fun e w' => e = .returned (.int .i64 18) ∧ Behind base w g false fuse (-1) fs w' := by
 have H := Lib.hid h
 obtain ⟨⟨d0, d1, d2, d3⟩, _⟩ := h.on.d.facts
 have hlt := h.on.d.lt
 have hb0 : Below w.heap.size w ((w.alloc (.cells #[fnv a, fnv b, fnv c] 171)).alloc (.cells (scells k nm dt z) 150)) := ((Below.refl _ w).alloc (Nat.le_refl _) _).alloc (by simp) _
 have hbx : Bx w a b c k nm dt z ((w.alloc (.cells #[fnv a, fnv b, fnv c] 171)).alloc (.cells (scells k nm dt z) 150)) := Bx.start
 have hO0 := h.keep hb0
 have hre := K.re _ _ _ _ hO0
 rw [hr] at hre
 have Hre := Lib.hid hre
 have Hb0 := Lib.hid hb0
 have HO0 := Lib.hid hO0
 have HB0 := Lib.hid hbx
 have ea := K.ea
 have eb := K.eb
 have ec := K.ec
 have HK := Lib.hid K
 have Hr := Lib.hid hr
 clear h hre hb0 K hr hO0 hbx
 go_enter Tryz.func115, Tryz.ntmps115
 go_wp2_with fail
 refine (Hre.out).mono ?_
 rintro e w1 ⟨rfl, hb⟩
 have hO1 := HO0.out.keep hb
 have Hb1 := Lib.hid (Hb0.out.trans (hb.mono Hb0.out.size))
 have HB1 := Lib.hid (HB0.out.below hb)
 have HO1 := Lib.hid hO1
 have hcf := comes_fault w1 g 91 _ _ fuse fault hO1.on.d f0 f1
 have Hcf := Lib.hid hcf
 clear hb hO1 hcf
 have hz : isZero fault = true := decide_eq_true hf
 rw [hz] at Hcf
 clear hz hf
 go_wp2_with fail
 refine (Hcf.out).mono ?_
 rintro e w2 ⟨rfl, hD2, hg2⟩
 have hO2 := HO1.out.turn hD2 hg2
 have HO2 := Lib.hid hO2
 have Hb2 := Lib.hid ((Hb1.out.mono H.out.bw).trans (below_of_grown hg2 HO1.out.bw H.out.bg))
 obtain ⟨⟨e0, e1, e2, e3⟩, _, _, _, z3⟩ := hD2.facts
 have hlt2 := hD2.lt
 clear hD2 hg2 hO2
 go_wp2
 go_ret
 refine ⟨rfl, (HO2.out.turn (HO2.out.on.d.set3 (-1)) (grown_set _ _ _ _)).behind ?_⟩
 exact Hb2.out.setCell (by exact H.out.bg) _

set_option maxHeartbeats 4000000 in
theorem run_4 (h : Own w g base ad n cap false fuse fault fs) (K : Kind3 g base ad n cap fs ⟨k, nm, dt, z⟩ a b c) (hr : ref fs ⟨k, nm, dt, z⟩ = 0) (hf : ¬ fault = 0) (hu : fuse = 0) (f0 : -9223372036854775808 ≤ fault) (f1 : fault ≤ 9223372036854775807) :
  Calls Tryz.prog 115 #[.pointer (some ⟨g, 0, none⟩), chv a b c, .agg (scells k nm dt z)] w fun e w' => e = .returned (.int .i64 17) ∧ Behind base w g true 0 (dec fault) (half fs ⟨k, nm, dt, z⟩) w' := by
 obtain ⟨fl, hfl⟩ : ∃ fl, dec fault = fl := ⟨_, rfl⟩
 rw [hfl]
 have Hfl := Lib.hid hfl
 clear hfl
 have H := Lib.hid h
 obtain ⟨⟨d0, d1, d2, d3⟩, _⟩ := h.on.d.facts
 have hlt := h.on.d.lt
 have hb0 : Below w.heap.size w ((w.alloc (.cells #[fnv a, fnv b, fnv c] 171)).alloc (.cells (scells k nm dt z) 150)) := ((Below.refl _ w).alloc (Nat.le_refl _) _).alloc (by simp) _
 have hbx : Bx w a b c k nm dt z ((w.alloc (.cells #[fnv a, fnv b, fnv c] 171)).alloc (.cells (scells k nm dt z) 150)) := Bx.start
 have hO0 := h.keep hb0
 have hre := K.re _ _ _ _ hO0
 rw [hr] at hre
 have Hre := Lib.hid hre
 have Hb0 := Lib.hid hb0
 have HO0 := Lib.hid hO0
 have HB0 := Lib.hid hbx
 have ea := K.ea
 have eb := K.eb
 have ec := K.ec
 have HK := Lib.hid K
 have Hr := Lib.hid hr
 clear h hre hb0 K hr hO0 hbx
 go_enter Tryz.func115, Tryz.ntmps115
 go_wp2_with fail
 refine (Hre.out).mono ?_
 rintro e w1 ⟨rfl, hb⟩
 have hO1 := HO0.out.keep hb
 have Hb1 := Lib.hid (Hb0.out.trans (hb.mono Hb0.out.size))
 have HB1 := Lib.hid (HB0.out.below hb)
 have HO1 := Lib.hid hO1
 have hcf := comes_fault w1 g 91 _ _ fuse fault hO1.on.d f0 f1
 have Hcf := Lib.hid hcf
 clear hb hO1 hcf
 have hz : isZero fault = false := decide_eq_false hf
 rw [hz] at Hcf
 subst hu
 rw [Hfl.out] at Hcf
 clear hz hf
 go_wp2_with fail
 refine (Hcf.out).mono ?_
 rintro e w2 ⟨rfl, hD2, hg2⟩
 have hO2 := HO1.out.turn hD2 hg2
 have HO2 := Lib.hid hO2
 have Hb2 := Lib.hid ((Hb1.out.mono H.out.bw).trans (below_of_grown hg2 HO1.out.bw H.out.bg))
 have HB2 := Lib.hid (HB1.out.grown hg2 hlt)
 have hcu := comes_fuse w2 g 91 _ _ 0 fl hO2.on.d (by omega) (by omega)
 have Hcu := Lib.hid hcu
 clear hD2 hg2 hO2 hcu
 go_wp2_with fail
 refine (Hcu.out).mono ?_
 rw [show isZero 0 = true from rfl, show dec 0 = 0 from rfl]
 rintro e w3 ⟨rfl, hD3, hg3⟩
 have hO3 := HO2.out.turn hD3 hg3
 have HO3 := Lib.hid hO3
 have Hb3 := Lib.hid (Hb2.out.trans (below_of_grown hg3 HO2.out.bw H.out.bg))
 have HB3 := Lib.hid (HB2.out.grown hg3 hlt)
 obtain ⟨⟨e0, e1, e2, e3⟩, _, z1, _, _⟩ := hD3.facts
 have HO4 := Lib.hid (hO3.turn (hD3.set1 true) (grown_set _ _ _ _))
 have HB4 := Lib.hid (HB3.out.grown (grown_set w3 g 1 (.bool true)) hlt)
 have Hha := Lib.hid (HK.out.ha _ _ _ _ HO4.out Hr.out)
 have Hb4 := Lib.hid (Hb3.out.setCell (p := ⟨g, 1, none⟩) (by exact H.out.bg) (.bool true))
 obtain ⟨x0, x1, x2⟩ := box3 HB4.out.x
 obtain ⟨y0, y1, y2, y3⟩ := box4 HB4.out.y
 obtain ⟨v0, v1, v2⟩ := box3 HB3.out.x
 obtain ⟨u0, u1, u2, u3⟩ := box4 HB3.out.y
 clear hD3 hg3 hO3
 go_wp2_with fail
 refine (Hha.out).mono ?_
 rintro e w5 ⟨rfl, hB5⟩
 have HB5 := Lib.hid (hB5.from (B := 0) Hb4.out)
 clear hB5
 go_wp2
 go_ret
 exact ⟨rfl, HB5.out⟩

set_option maxHeartbeats 4000000 in
theorem run_5 (h : Own w g base ad n cap false fuse fault fs) (K : Kind3 g base ad n cap fs ⟨k, nm, dt, z⟩ a b c) (hr : ref fs ⟨k, nm, dt, z⟩ = 0) (hf : ¬ fault = 0) (hu : ¬ fuse = 0) (f0 : -9223372036854775808 ≤ fault) (f1 : fault ≤ 9223372036854775807)
  (u0 : -9223372036854775808 ≤ fuse) (u1 : fuse ≤ 9223372036854775807) :
  Calls Tryz.prog 115 #[.pointer (some ⟨g, 0, none⟩), chv a b c, .agg (scells k nm dt z)] w fun e w' => e = .returned (.int .i64 0) ∧ Behind base w g false (dec fuse) (dec fault) (eff fs ⟨k, nm, dt, z⟩) w' := by
 obtain ⟨fl, hfl⟩ : ∃ fl, dec fault = fl := ⟨_, rfl⟩
 obtain ⟨fu, hfu⟩ : ∃ fu, dec fuse = fu := ⟨_, rfl⟩
 rw [hfl, hfu]
 have Hfl := Lib.hid hfl
 have Hfu := Lib.hid hfu
 clear hfl hfu
 have H := Lib.hid h
 obtain ⟨⟨d0, d1, d2, d3⟩, _⟩ := h.on.d.facts
 have hlt := h.on.d.lt
 have hb0 : Below w.heap.size w ((w.alloc (.cells #[fnv a, fnv b, fnv c] 171)).alloc (.cells (scells k nm dt z) 150)) := ((Below.refl _ w).alloc (Nat.le_refl _) _).alloc (by simp) _
 have hbx : Bx w a b c k nm dt z ((w.alloc (.cells #[fnv a, fnv b, fnv c] 171)).alloc (.cells (scells k nm dt z) 150)) := Bx.start
 have hO0 := h.keep hb0
 have hre := K.re _ _ _ _ hO0
 rw [hr] at hre
 have Hre := Lib.hid hre
 have Hb0 := Lib.hid hb0
 have HO0 := Lib.hid hO0
 have HB0 := Lib.hid hbx
 have ea := K.ea
 have eb := K.eb
 have ec := K.ec
 have HK := Lib.hid K
 have Hr := Lib.hid hr
 clear h hre hb0 K hr hO0 hbx
 go_enter Tryz.func115, Tryz.ntmps115
 go_wp2_with fail
 refine (Hre.out).mono ?_
 rintro e w1 ⟨rfl, hb⟩
 have hO1 := HO0.out.keep hb
 have Hb1 := Lib.hid (Hb0.out.trans (hb.mono Hb0.out.size))
 have HB1 := Lib.hid (HB0.out.below hb)
 have HO1 := Lib.hid hO1
 have hcf := comes_fault w1 g 91 _ _ fuse fault hO1.on.d f0 f1
 have Hcf := Lib.hid hcf
 clear hb hO1 hcf
 have hz : isZero fault = false := decide_eq_false hf
 rw [hz] at Hcf
 have hzu : isZero fuse = false := decide_eq_false hu
 rw [Hfl.out] at Hcf
 have Hzu := Lib.hid hzu
 clear hz hf hu hzu
 go_wp2_with fail
 refine (Hcf.out).mono ?_
 rintro e w2 ⟨rfl, hD2, hg2⟩
 have hO2 := HO1.out.turn hD2 hg2
 have HO2 := Lib.hid hO2
 have Hb2 := Lib.hid ((Hb1.out.mono H.out.bw).trans (below_of_grown hg2 HO1.out.bw H.out.bg))
 have HB2 := Lib.hid (HB1.out.grown hg2 hlt)
 have hcu := comes_fuse w2 g 91 _ _ fuse fl hO2.on.d u0 u1
 rw [Hzu.out, Hfu.out] at hcu
 have Hcu := Lib.hid hcu
 clear hD2 hg2 hO2 hcu
 go_wp2_with fail
 refine (Hcu.out).mono ?_
 rintro e w3 ⟨rfl, hD3, hg3⟩
 have hO3 := HO2.out.turn hD3 hg3
 have Hb3 := Lib.hid (Hb2.out.trans (below_of_grown hg3 HO2.out.bw H.out.bg))
 have HB3 := Lib.hid (HB2.out.grown hg3 hlt)
 have Hdo := Lib.hid (HK.out.do_ _ _ _ _ hO3 Hr.out)
 obtain ⟨v0, v1, v2⟩ := box3 HB3.out.x
 obtain ⟨u0, u1, u2, u3⟩ := box4 HB3.out.y
 clear hD3 hg3 hO3
 go_wp2_with fail
 refine (Hdo.out).mono ?_
 rintro e w5 ⟨rfl, hB5⟩
 have HB5 := Lib.hid (hB5.from (B := 0) Hb3.out)
 clear hB5
 go_wp2
 go_ret
 exact ⟨rfl, HB5.out⟩
end
end Go.Proofs.YtlgbehagflnfgaaGreatDoor

/- THE FIVE KINDS of changes, each as run needs it. -/
namespace Go.Proofs.YtlgbehagflnfgaaGreatDoor
open Go.RowKit
set_option maxRecDepth 100000
set_option linter.unusedVariables false
set_option linter.unusedSimpArgs false

theorem eff1 {fs : List F} {n d : ByteArray} {z : Int} : eff fs ⟨1, n, d, z⟩ = fs.take (pos fs n) ++ ⟨n, ⟨#[]⟩, 0⟩ :: fs.drop (pos fs n) := by simp [eff]
theorem eff2 {fs : List F} {n d : ByteArray} {z : Int} {f : F} (h : found fs n = some f) : eff fs ⟨2, n, d, z⟩ = fs.set (pos fs n) ⟨f.name, f.data ++ d, f.syn⟩ := by simp [eff, h]
theorem eff3 {fs : List F} {n d : ByteArray} {z : Int} {f : F} (h : found fs n = some f) : eff fs ⟨3, n, d, z⟩ = fs.set (pos fs n) ⟨f.name, f.data, f.data.size⟩ := by simp [eff, h]
theorem eff4 {fs : List F} {n d : ByteArray} {z : Int} {f : F} (h : found fs n = some f) : eff fs ⟨4, n, d, z⟩ = fs.set (pos fs n) ⟨f.name, f.data.extract 0 z.toNat, z⟩ := by simp [eff, h]
theorem eff5 {fs : List F} {n d : ByteArray} {z : Int} {f : F} (h : found fs n = some f) : eff fs ⟨5, n, d, z⟩ = fs.take (pos fs n) ++ fs.drop (pos fs n + 1) := by simp [eff, h]
theorem half_not {fs : List F} {k : Int} {n d : ByteArray} {z : Int} (h : ¬ k = 2) : half fs ⟨k, n, d, z⟩ = fs := by simp [half, h]
theorem half_two {fs : List F} {n d : ByteArray} {z : Int} : half fs ⟨2, n, d, z⟩ = eff fs ⟨2, n, d, z⟩ := by simp [half]
theorem ref_found {fs : List F} {k : Int} {n d : ByteArray} {z : Int} (hk : ¬ k = 1) (h : ref fs ⟨k, n, d, z⟩ = 0) : ∃ f, found fs n = some f := by
 cases hf : found fs n with
 | some f => exact ⟨f, rfl⟩
 | none => rw [refN hk hf] at h; cases h
theorem ref_new {fs : List F} {n d : ByteArray} {z : Int} (h : ref fs ⟨1, n, d, z⟩ = 0) : okN n ∧ found fs n = none ∧ fs.length ≠ 64 := by
 rw [ref1] at h
 by_cases c : okN n
 ·rw [if_pos c] at h
  cases hf : found fs n with
  | some f => rw [hf] at h; simp at h
  | none =>
   rw [hf] at h
   simp only [Option.isSome_none, Bool.false_eq_true, if_false] at h
   by_cases c64 : fs.length = 64
   ·rw [if_pos c64] at h; cases h
   ·exact ⟨c, rfl, c64⟩
 ·rw [if_neg c] at h; cases h
theorem ref_more {fs : List F} {n d : ByteArray} {z : Int} {f : F} (hf : found fs n = some f) (h : ref fs ⟨2, n, d, z⟩ = 0) : d.size ≤ 262144 - f.data.size := by
 rw [ref2 hf] at h
 by_cases c : 262144 - f.data.size < d.size
 ·rw [if_pos c] at h; cases h
 ·omega
theorem ref_size {fs : List F} {n d : ByteArray} {z : Int} {f : F} (hf : found fs n = some f) (h : ref fs ⟨4, n, d, z⟩ = 0) : 0 ≤ z ∧ z ≤ (f.data.size : Int) := by
 rw [ref4 hf] at h
 by_cases c : z < 0 ∨ (f.data.size : Int) < z
 ·rw [if_pos c] at h; cases h
 ·omega
theorem behind_row {base : Nat} {w w' : World} {g : Nat} {ad : Option Addr} {n cap : Nat} {down : Bool} {fuse fault : Int} {out : List F} (hD : Dk w' g 91 (.slice ad n cap) down fuse fault) (hR : FRow w' base (.slice ad n cap) out) (hb : Below base w w') : Behind base w g down fuse fault out w' := by
 obtain ⟨ad', cap', hv, hi⟩ := Inp.of_row hR
 simp only [Value.slice.injEq] at hv
 obtain ⟨rfl, rfl, rfl⟩ := hv
 exact ⟨ad, _, cap, hD, hi, hb, fun b hb => ⟨(hR.lt b hb).1, hR.free b hb⟩⟩
theorem Own.here {w : World} {g base : Nat} {ad : Option Addr} {n cap : Nat} {down : Bool} {fuse fault : Int} {fs : List F} (h : Own w g base ad n cap down fuse fault fs) {nm : ByteArray} {f : F} (hf : found fs nm = some f) :
  ∃ gb, ad = some ⟨gb, 0, none⟩ ∧ gb < w.heap.size ∧ gb ≠ g ∧ n ≤ cap ∧ base ≤ gb := by
 rcases h.place with ⟨_, hn, _⟩ | h'
 ·have := h.on.n
  have h0 : fs = [] := List.eq_nil_of_length_eq_zero (by omega)
  subst h0
  cases found_mem hf
 ·exact h'
theorem still {w : World} {g base : Nat} {ad : Option Addr} {n cap : Nat} {down : Bool} {fuse fault : Int} {fs : List F} (h : Own w g base ad n cap down fuse fault fs) (x : Value) (k : Int) (nm dt : ByteArray) (z : Int) :
  Calls Tryz.prog 129 #[x, .agg (scells k nm dt z)] w fun e w' => e = .returned (.tuple #[]) ∧ Behind base w g down fuse fault fs w' :=
 (nothing_any x k nm dt z w).mono fun e w' ⟨h1, h2⟩ => ⟨h1, (h.keep h2).behind (h2.mono h.bw)⟩

section
variable (g base : Nat) (ad : Option Addr) (n cap : Nat) (fs : List F) (nm dt : ByteArray) (z : Int)
theorem kind1 (hs : nm.size ≤ 9223372036854775807) : Kind3 g base ad n cap fs ⟨1, nm, dt, z⟩ 130 131 129 where
 ea := fun args w => rfl
 eb := fun args w => rfl
 ec := fun args w => rfl
 re := fun w down fuse fault h => ref_42 w g ad n cap down fuse fault fs nm dt z 1 h.on hs
 do_ := fun w down fuse fault h h0 => by
  obtain ⟨_, hf, _⟩ := ref_new h0
  rw [eff1]
  rcases h.place with ⟨rfl, rfl, rfl⟩ | ⟨gb, rfl, h1, h2, h3, h4⟩
  ·exact create_none w g base down fuse fault fs nm dt z 1 h.on h.bw h.bg hf
  ·exact create_some w g base gb n cap down fuse fault fs nm dt z 1 h.on h1 h3 h2 h4 h.bw h.bg hf
 ha := fun w down fuse fault h h0 => by rw [half_not (by omega)]; exact still h _ _ _ _ _
theorem kind2 (hs : dt.size ≤ 9223372036854775807) : Kind3 g base ad n cap fs ⟨2, nm, dt, z⟩ 132 133 133 := by
 have hdo : ∀ w down fuse fault, Own w g base ad n cap down fuse fault fs → ref fs ⟨2, nm, dt, z⟩ = 0 → Calls Tryz.prog 133 #[.pointer (some ⟨g, 0, none⟩), .agg (scells 2 nm dt z)] w fun e w' => e = .returned (.tuple #[]) ∧ Behind base w g down fuse fault (eff fs ⟨2, nm, dt, z⟩) w' := by
  intro w down fuse fault h h0
  obtain ⟨f, hf⟩ := ref_found (by omega) h0
  have hm := ref_more hf h0
  rw [eff2 hf]
  obtain ⟨gb, rfl, h1, h2, h3, h4⟩ := h.here hf
  exact (add_any w g base gb n cap down fuse fault fs nm dt z f 2 h.on h.row (fun e => h2 e.symm) hf (by omega)).mono fun e w' ⟨a, b, c, d⟩ => ⟨a, behind_row b c d⟩
 exact {
  ea := fun args w => rfl
  eb := fun args w => rfl
  ec := fun args w => rfl
  re := fun w down fuse fault h => ref_44 w g ad n cap down fuse fault fs nm dt z 2 h.on hs
  do_ := hdo
  ha := fun w down fuse fault h h0 => by rw [half_two]; exact hdo w down fuse fault h h0 }
theorem kind3 : Kind3 g base ad n cap fs ⟨3, nm, dt, z⟩ 134 135 129 where
 ea := fun args w => rfl
 eb := fun args w => rfl
 ec := fun args w => rfl
 re := fun w down fuse fault h => ref_46 w g ad n cap down fuse fault fs nm dt z 3 3 (.inl rfl) h.on
 do_ := fun w down fuse fault h h0 => by
  obtain ⟨f, hf⟩ := ref_found (by omega) h0
  rw [eff3 hf]
  obtain ⟨gb, rfl, h1, h2, h3, h4⟩ := h.here hf
  exact (sync_any w g base gb n cap down fuse fault fs nm dt z f 3 h.on h.row (fun e => h2 e.symm) hf).mono fun e w' ⟨a, b, c, d⟩ => ⟨a, behind_row b c d⟩
 ha := fun w down fuse fault h h0 => by rw [half_not (by omega)]; exact still h _ _ _ _ _
theorem kind4 : Kind3 g base ad n cap fs ⟨4, nm, dt, z⟩ 136 137 129 where
 ea := fun args w => rfl
 eb := fun args w => rfl
 ec := fun args w => rfl
 re := fun w down fuse fault h => ref_48 w g ad n cap down fuse fault fs nm dt z 4 h.on
 do_ := fun w down fuse fault h h0 => by
  obtain ⟨f, hf⟩ := ref_found (by omega) h0
  obtain ⟨z0, z1⟩ := ref_size hf h0
  rw [eff4 hf]
  obtain ⟨gb, rfl, h1, h2, h3, h4⟩ := h.here hf
  exact (cut_any w g base gb n cap down fuse fault fs nm dt z f 4 h.on h.row (fun e => h2 e.symm) hf z0 z1).mono fun e w' ⟨a, b, c, d⟩ => ⟨a, behind_row b c d⟩
 ha := fun w down fuse fault h h0 => by rw [half_not (by omega)]; exact still h _ _ _ _ _
theorem kind5 : Kind3 g base ad n cap fs ⟨5, nm, dt, z⟩ 134 138 129 where
 ea := fun args w => rfl
 eb := fun args w => rfl
 ec := fun args w => rfl
 re := fun w down fuse fault h => ref_46 w g ad n cap down fuse fault fs nm dt z 5 5 (.inr rfl) h.on
 do_ := fun w down fuse fault h h0 => by
  obtain ⟨f, hf⟩ := ref_found (by omega) h0
  rw [eff5 hf]
  obtain ⟨gb, rfl, h1, h2, h3, h4⟩ := h.here hf
  exact remove_any w g base gb n cap down fuse fault fs nm dt z 5 f h.on h1 (h.row.free gb rfl) h3 h2 h4 h.bw h.bg hf
 ha := fun w down fuse fault h h0 => by rw [half_not (by omega)]; exact still h _ _ _ _ _
end

/-- run, whatever it meets -/
theorem run_any (w : World) (g base : Nat) (ad : Option Addr) (n cap : Nat) (down : Bool) (fuse fault : Int) (fs : List F) (k : Int) (nm dt : ByteArray) (z : Int) (a b c : Nat)
  (h : Own w g base ad n cap down fuse fault fs) (K : Kind3 g base ad n cap fs ⟨k, nm, dt, z⟩ a b c) (f0 : -9223372036854775808 ≤ fault) (f1 : fault ≤ 9223372036854775807) (u0 : -9223372036854775808 ≤ fuse) (u1 : fuse ≤ 9223372036854775807) :
  Calls Tryz.prog 115 #[.pointer (some ⟨g, 0, none⟩), chv a b c, .agg (scells k nm dt z)] w fun e w' => e = .returned (.int .i64 (run ⟨fs, down, fuse, fault⟩ ⟨k, nm, dt, z⟩).2) ∧ BehindD base w g (run ⟨fs, down, fuse, fault⟩ ⟨k, nm, dt, z⟩).1 w' := by
 cases down with
 | true =>
  rw [run_down]
  exact run_1 w g base ad n cap fuse fault fs k nm dt z a b c h
 | false =>
  by_cases h0 : ref fs ⟨k, nm, dt, z⟩ = 0
  ·by_cases h1 : fault = 0
   ·rw [run_fault h0 h1]
    exact run_3 w g base ad n cap fuse fault fs k nm dt z a b c h K h0 h1 f0 f1
   ·by_cases h2 : fuse = 0
    ·rw [run_fuse h0 h1 h2]
     exact run_4 w g base ad n cap fuse fault fs k nm dt z a b c h K h0 h1 h2 f0 f1
    ·rw [run_done h0 h1 h2]
     exact run_5 w g base ad n cap fuse fault fs k nm dt z a b c h K h0 h1 h2 f0 f1 u0 u1
  ·rw [run_ref h0]
   exact run_2 w g base ad n cap fuse fault fs k nm dt z a b c h K _ rfl h0
end Go.Proofs.YtlgbehagflnfgaaGreatDoor

/- THE WALK OVER Do. -/
namespace Go.Proofs.YtlgbehagflnfgaaGreatDoor
open Go.RowKit
set_option maxRecDepth 100000
set_option linter.unusedVariables false
set_option linter.unusedSimpArgs false

attribute [local go_sem] run_store_func run_store_nilf
/-- a disk and an error are answered -/
def DPost (w : World) (r : D × Int) (e : Ending) (w' : World) : Prop :=
 ∃ ad2 n2 cap2, e = .returned (.tuple #[.agg (dcells (.slice ad2 n2 cap2) r.1.down r.1.fuse r.1.fault), .int .i64 r.2]) ∧ Inp w' w'.heap.size ad2 n2 cap2 r.1.files ∧ Below w.heap.size w w' ∧ ∀ b, (Value.slice ad2 n2 cap2).ownBlock = some b → w.heap.size ≤ b
/-- .. and the list's block is free -/
def DPostN (w : World) (r : D × Int) (e : Ending) (w' : World) : Prop :=
 ∃ ad2 n2 cap2, e = .returned (.tuple #[.agg (dcells (.slice ad2 n2 cap2) r.1.down r.1.fuse r.1.fault), .int .i64 r.2]) ∧ Inp w' w'.heap.size ad2 n2 cap2 r.1.files ∧ Below w.heap.size w w' ∧ ∀ b, (Value.slice ad2 n2 cap2).ownBlock = some b → w.heap.size ≤ b ∧ Free w' b
theorem DPostN.post {w : World} {r : D × Int} {e : Ending} {w' : World} (h : DPostN w r e w') : DPost w r e w' := by
 obtain ⟨ad2, n2, cap2, h1, h2, h3, h4⟩ := h
 exact ⟨ad2, n2, cap2, h1, h2, h3, fun b hb => (h4 b hb).1⟩
theorem Inp.nil (w : World) (B : Nat) : Inp w B none 0 0 [] := ⟨rfl, Nat.le_refl _, fun _ => rfl, Fls.nil _ _ _⟩
theorem Inp.drew {w : World} {B : Nat} {ad : Option Addr} {n cap : Nat} {fs : List F} (h : Inp w B ad n cap fs) : Inp w.drew B ad n cap fs := h.keep ((Below.refl B w).drew)
theorem Inp.under {w w' : World} {ad : Option Addr} {n cap : Nat} {fs : List F} (h : Inp w w.heap.size ad n cap fs) (hb : Below w.heap.size w w') : Inp w' w'.heap.size ad n cap fs := (h.keep hb).mono hb.size
/-- a block's cells are turned, in which the list does not lie -/
theorem Inp.set {w : World} {B : Nat} {ad : Option Addr} {n cap : Nat} {fs : List F} (h : Inp w B ad n cap fs) {q o : Nat} {u : Value} (hq : (Value.slice ad n cap).ownBlock ≠ some q) : Inp (w.setCell ⟨q, o, none⟩ u) B ad n cap fs := by
 refine ⟨h.1, h.2.1, h.2.2.1, fun hne => ?_⟩
 obtain ⟨gb, off, rfl, hgb, hc⟩ := h.2.2.2 hne
 have hne' : gb ≠ q := by intro e; subst e; exact hq rfl
 have hcell : ∀ j, (w.setCell ⟨q, o, none⟩ u).cell? ⟨gb, j, none⟩ = w.cell? ⟨gb, j, none⟩ := fun j => World.cell?_of_block (w := w) (Below.heap_setCell w ⟨q, o, none⟩ _ gb hne')
 exact ⟨gb, off, rfl, hgb, fun i f hf => ⟨(hcell _).trans (hc i f hf).q0, (hcell _).trans (hc i f hf).q1, (hcell _).trans (hc i f hf).q2⟩⟩

section
variable (w : World) (ad : Option Addr) (n cap : Nat) (down : Bool) (fuse fault : Int) (fs : List F) (k : Int) (nm dt : ByteArray) (z : Int)
set_option maxHeartbeats 1000000 in
theorem do_bad (hi : Inp w w.heap.size ad n cap fs) (hfit : ∀ f ∈ fs, Fit f) (hR : ¬ Right fs) :
  Calls Tryz.prog 97 #[.agg (dcells (.slice ad n cap) down fuse fault), .agg (scells k nm dt z)] w fun e w' => DPostN w (zero, 6) e w' := by
 have hb0 : Below w.heap.size w (((w.alloc (.cells (dcells (.slice ad n cap) down fuse fault) 24)).alloc (.cells (scells k nm dt z) 150)).alloc (.cells #[.slice none 0 0, .bool false, .int .i64 0, .int .i64 0] 24)) := (((Below.refl _ w).alloc (Nat.le_refl _) _).alloc (by simp) _).alloc (by simp; omega) _
 have hc := check_no _ ad cap n down fuse fault fs hi.1 ((hi.under hb0).2.2.2) hfit hR
 have Hc := Lib.hid hc
 have Hb0 := Lib.hid hb0
 have hq := blk_new ((w.alloc (.cells (dcells (.slice ad n cap) down fuse fault) 24)).alloc (.cells (scells k nm dt z) 150)) (.cells #[.slice none 0 0, .bool false, .int .i64 0, .int .i64 0] 24)
 have Hq := Lib.hid hq
 clear hc hb0 hq
 go_enter Tryz.func97, Tryz.ntmps97
 go_wp2_with fail
 refine (Hc.out).mono ?_
 rintro e w1 ⟨rfl, hb⟩
 have hD : Dk w1 (w.heap.size + 2) 24 (.slice none 0 0) false 0 0 := by
  have := (hb.block _ (Array.getElem?_eq_some_iff.1 Hq.out).1).trans Hq.out
  simpa [Dk] using this
 obtain ⟨⟨d0, d1, d2, d3⟩, f0, f1, f2, f3⟩ := hD.facts
 have HD := Lib.hid hD
 have Hb := Lib.hid (Hb0.out.trans (hb.mono Hb0.out.size))
 clear hb hD
 go_wp2
 refine bodyPost_ret (v := .tuple #[.agg (dcells (.slice none 0 0) false 0 0), .int .i64 6]) (by simp [results, Tryz.results97, go_sem, d0, d1, d2, d3]) rfl ?_
 refine ⟨none, 0, 0, rfl, Inp.nil _ _, ?_, (fun b hb => by simp [Value.ownBlock] at hb)⟩
 exact (((Hb.out.setCell (p := ⟨w.heap.size + 2, 0, none⟩) (by simp) _).setCell (p := ⟨w.heap.size + 2, 1, none⟩) (by simp) _).setCell (p := ⟨w.heap.size + 2, 2, none⟩) (by simp) _).setCell (p := ⟨w.heap.size + 2, 3, none⟩) (by simp) _
end
/-- the three blocks of a call of Do -/
structure Three (w : World) (X Y Z : Obj) (W : World) : Prop where
 x : W.heap[w.heap.size]? = some X
 y : W.heap[w.heap.size + 1]? = some Y
 q : W.heap[w.heap.size + 2]? = some Z
section
variable {X Y Z : Obj} {W W' : World} {w : World}
theorem Three.below (h : Three w X Y Z W) (hb : Below W.heap.size W W') : Three w X Y Z W' :=
 ⟨(hb.block _ (Array.getElem?_eq_some_iff.1 h.x).1).trans h.x, (hb.block _ (Array.getElem?_eq_some_iff.1 h.y).1).trans h.y, (hb.block _ (Array.getElem?_eq_some_iff.1 h.q).1).trans h.q⟩
theorem Three.under {B : Nat} (h : Three w X Y Z W) (hb : Below B W W') (hB : w.heap.size + 2 < B) : Three w X Y Z W' :=
 ⟨(hb.block _ (by omega)).trans h.x, (hb.block _ (by omega)).trans h.y, (hb.block _ (by omega)).trans h.q⟩
theorem Three.lt (h : Three w X Y Z W) : w.heap.size + 2 < W.heap.size := (Array.getElem?_eq_some_iff.1 h.q).1
end

section
variable (w : World) (ad : Option Addr) (n cap : Nat) (down : Bool) (fuse fault : Int) (fs : List F) (k : Int) (nm dt : ByteArray) (z : Int)
set_option maxHeartbeats 2000000 in
theorem do_none (hi : Inp w w.heap.size ad n cap fs) (hR : Right fs) (h1 : ¬ k = 1) (h2 : ¬ k = 2) (h3 : ¬ k = 3) (h4 : ¬ k = 4) (h5 : ¬ k = 5) :
  Calls Tryz.prog 97 #[.agg (dcells (.slice ad n cap) down fuse fault), .agg (scells k nm dt z)] w fun e w' => DPostN w (⟨fs, down, fuse, fault⟩, 5) e w' := by
 have Hch := Lib.hid (fun W => changeOf_no k W h1 h2 h3 h4 h5)
 clear h1 h2 h3 h4 h5
 have hb0 : Below w.heap.size w (((w.alloc (.cells (dcells (.slice ad n cap) down fuse fault) 24)).alloc (.cells (scells k nm dt z) 150)).alloc (.cells #[.slice none 0 0, .bool false, .int .i64 0, .int .i64 0] 24)) := (((Below.refl _ w).alloc (Nat.le_refl _) _).alloc (by simp) _).alloc (by simp; omega) _
 have hi0 := hi.under hb0
 have hc := check_ok _ ad cap n down fuse fault fs hi.1 hi0.2.2.2 hR
 have h64 : n ≤ 64 := by rw [hi.1]; exact hR.1
 have Hc := Lib.hid hc
 have Hb0 := Lib.hid hb0
 have Hi0 := Lib.hid hi0
 have HR := Lib.hid hR
 have hx : (((w.alloc (.cells (dcells (.slice ad n cap) down fuse fault) 24)).alloc (.cells (scells k nm dt z) 150)).alloc (.cells #[.slice none 0 0, .bool false, .int .i64 0, .int .i64 0] 24)).heap[w.heap.size]? = some (.cells (dcells (.slice ad n cap) down fuse fault) 24) := blk_alloc (blk_alloc (blk_new w _) _) _
 have hy : (((w.alloc (.cells (dcells (.slice ad n cap) down fuse fault) 24)).alloc (.cells (scells k nm dt z) 150)).alloc (.cells #[.slice none 0 0, .bool false, .int .i64 0, .int .i64 0] 24)).heap[w.heap.size + 1]? = some (.cells (scells k nm dt z) 150) := by
  have := blk_alloc (blk_new (w.alloc (.cells (dcells (.slice ad n cap) down fuse fault) 24)) (.cells (scells k nm dt z) 150)) (.cells #[.slice none 0 0, .bool false, .int .i64 0, .int .i64 0] 24)
  simpa using this
 have hq : (((w.alloc (.cells (dcells (.slice ad n cap) down fuse fault) 24)).alloc (.cells (scells k nm dt z) 150)).alloc (.cells #[.slice none 0 0, .bool false, .int .i64 0, .int .i64 0] 24)).heap[w.heap.size + 2]? = some (.cells (dcells (.slice none 0 0) false 0 0) 24) := by
  have := blk_new ((w.alloc (.cells (dcells (.slice ad n cap) down fuse fault) 24)).alloc (.cells (scells k nm dt z) 150)) (.cells #[.slice none 0 0, .bool false, .int .i64 0, .int .i64 0] 24)
  simpa using this
 have HT := Lib.hid (⟨hx, hy, hq⟩ : Three w _ _ _ _)
 clear hc hb0 hq hi0 hi hR hx hy
 go_enter Tryz.func97, Tryz.ntmps97
 go_wp2_with fail
 refine (Hc.out).mono ?_
 rintro e w1 ⟨rfl, hb⟩
 have HT1 := Lib.hid (HT.out.below hb)
 obtain ⟨x0, x1, x2, x3⟩ := box4 HT1.out.x
 have Hb1 := Lib.hid (Hb0.out.trans (hb.mono Hb0.out.size))
 have hi1 := Hi0.out.under hb
 have hbg := begin_any w1 ad cap n down fuse fault fs hi1 (by omega)
 have Hbg := Lib.hid hbg
 clear hb hi1 hbg
 go_wp2_with fail
 refine (Hbg.out).mono ?_
 rintro e w2 ⟨g, v, rfl, hD, hr, hfar, hg, hb⟩
 obtain ⟨ad1, cap1, hv, hi2⟩ := Inp.of_row hr
 subst hv
 have HO := Lib.hid (⟨⟨hD, rfl, hi2.2.2.2, HR.out⟩, hr, hfar, hb.size, hg⟩ : Own w2 g w1.heap.size ad1 fs.length cap1 down fuse fault fs)
 have Hb2 := Lib.hid (Hb1.out.trans (hb.mono Hb1.out.size))
 have Hbs := Lib.hid hb.size
 have HT2 := Lib.hid (HT1.out.below hb)
 obtain ⟨y0, y1, y2, y3⟩ := box4 HT2.out.y
 clear x0 x1 x2 x3 hD hr hfar hg hb hi2
 go_wp2_with fail
 refine (Hch.out _).mono ?_
 rintro e w3 ⟨rfl, hb⟩
 have hO := HO.out.keep hb
 have HT3 := Lib.hid (HT2.out.below hb)
 have Hb3 := Lib.hid (Hb2.out.trans (hb.mono Hb2.out.size))
 have hO4 := hO.keep ((Below.refl _ w3).alloc (Nat.le_refl _) (.cells #[.nilFunc, .nilFunc, .nilFunc] 171))
 have HO4 := Lib.hid hO4
 have Hi5 := Lib.hid hO.inp
 have Hfr := Lib.hid hO.row.free
 obtain ⟨⟨d0, d1, d2, d3⟩, _⟩ := hO.on.d.facts
 have hlt := hO.on.d.lt
 obtain ⟨⟨e0, e1, e2, e3⟩, g0, g1, g2, g3⟩ := Dk.facts (show Dk w3 (w.heap.size + 2) 24 (.slice none 0 0) false 0 0 from HT3.out.q)
 have hlt2 := HT3.out.lt
 have hg1 := HO.out.bg
 have Hgq := Lib.hid hg1
 have HT1s := Lib.hid HT1.out.lt
 clear hb hO hO4 hg1
 go_wp2
 have hQ : Dk w3 (w.heap.size + 1 + 1) 24 (.slice none 0 0) false 0 0 := HT3.out.q
 have hQ6 : Dk (((((w3.setCell ⟨w.heap.size + 1 + 1, 0, none⟩ (.slice ad1 fs.length cap1)).setCell ⟨w.heap.size + 1 + 1, 1, none⟩ (.bool down)).setCell ⟨w.heap.size + 1 + 1, 2, none⟩ (.int .i64 fuse)).setCell ⟨w.heap.size + 1 + 1, 3, none⟩ (.int .i64 fault)).alloc (.cells #[.nilFunc, .nilFunc, .nilFunc] 171)) (w.heap.size + 1 + 1) 24 (.slice ad1 fs.length cap1) down fuse fault :=
  blk_alloc ((((hQ.set0 _).set1 _).set2 _).set3 _) _
 obtain ⟨⟨r0, r1, r2, r3⟩, _⟩ := hQ6.facts
 have Hi3 := Lib.hid (HO4.out.inp)
 refine bodyPost_ret (v := .tuple #[.agg (dcells (.slice ad1 fs.length cap1) down fuse fault), .int .i64 5]) (by simp [results, Tryz.results97, go_sem, r0, r1, r2, r3]) rfl ?_
 have hq : (Value.slice ad1 fs.length cap1).ownBlock ≠ some (w.heap.size + 1 + 1) := fun e => by have := (HO.out.row.lt _ e).1; have := HT1s.out; omega
 have hi3 : Inp w3 w3.heap.size ad1 fs.length cap1 fs := Hi5.out
 refine ⟨ad1, _, cap1, rfl, ?_, ?_, fun b hb => ⟨Nat.le_trans Hb1.out.size (HO.out.row.lt _ hb).1, ((((((Hfr.out _ hb).set _ _ _).set _ _ _).set _ _ _).set _ _ _).keep ((Below.refl w3.heap.size _).alloc (by simp [World.setCell]) _) (by have := (Hfr.out _ hb).lt; omega))⟩⟩
 ·exact ((Inp.set (Inp.set (Inp.set (Inp.set hi3 hq) hq) hq) hq).keep ((Below.refl w3.heap.size _).alloc (by simp [World.setCell]) _)).mono (by simp [World.setCell])
 ·exact ((((Hb3.out.setCell (p := ⟨w.heap.size + 1 + 1, 0, none⟩) (by simp; omega) _).setCell (p := ⟨w.heap.size + 1 + 1, 1, none⟩) (by simp; omega) _).setCell (p := ⟨w.heap.size + 1 + 1, 2, none⟩) (by simp; omega) _).setCell (p := ⟨w.heap.size + 1 + 1, 3, none⟩) (by simp; omega) _).alloc (by simp [World.setCell]; have := Hb3.out.size; omega) _

theorem BehindD.parts {base : Nat} {w : World} {g : Nat} {d : D} {w' : World} (h : BehindD base w g d w') : ∃ ad2 n2 cap2, Dk w' g 91 (.slice ad2 n2 cap2) d.down d.fuse d.fault ∧ Inp w' w'.heap.size ad2 n2 cap2 d.files ∧ Below base w w' ∧ ∀ b, (Value.slice ad2 n2 cap2).ownBlock = some b → base ≤ b ∧ Free w' b := h
set_option maxHeartbeats 4000000 in
theorem do_kind (hi : Inp w w.heap.size ad n cap fs) (hR : Right fs) (a b c : Nat) (hch : ∀ W, Calls Tryz.prog 114 #[.int .u8 k] W fun e w' => e = .returned (.tuple #[chv a b c, .bool true]) ∧ Below W.heap.size W w')
  (K : ∀ g base ad n cap fs, Kind3 g base ad n cap fs ⟨k, nm, dt, z⟩ a b c) (hf0 : -9223372036854775808 ≤ fault) (hf1 : fault ≤ 9223372036854775807) (hu0 : -9223372036854775808 ≤ fuse) (hu1 : fuse ≤ 9223372036854775807) :
  Calls Tryz.prog 97 #[.agg (dcells (.slice ad n cap) down fuse fault), .agg (scells k nm dt z)] w fun e w' => DPostN w (run ⟨fs, down, fuse, fault⟩ ⟨k, nm, dt, z⟩) e w' := by
 have Hch := Lib.hid hch
 have hrun := fun W g base ad n cap h => run_any W g base ad n cap down fuse fault fs k nm dt z a b c h (K g base ad n cap fs) hf0 hf1 hu0 hu1
 obtain ⟨R, hRR⟩ : ∃ R, run ⟨fs, down, fuse, fault⟩ ⟨k, nm, dt, z⟩ = R := ⟨_, rfl⟩
 rw [hRR] at hrun ⊢
 obtain ⟨d', code⟩ := R
 have Hrun := Lib.hid hrun
 clear hch hrun K hRR hf0 hf1 hu0 hu1
 have hb0 : Below w.heap.size w (((w.alloc (.cells (dcells (.slice ad n cap) down fuse fault) 24)).alloc (.cells (scells k nm dt z) 150)).alloc (.cells #[.slice none 0 0, .bool false, .int .i64 0, .int .i64 0] 24)) := (((Below.refl _ w).alloc (Nat.le_refl _) _).alloc (by simp) _).alloc (by simp; omega) _
 have hi0 := hi.under hb0
 have hc := check_ok _ ad cap n down fuse fault fs hi.1 hi0.2.2.2 hR
 have h64 : n ≤ 64 := by rw [hi.1]; exact hR.1
 have Hc := Lib.hid hc
 have Hb0 := Lib.hid hb0
 have Hi0 := Lib.hid hi0
 have HR := Lib.hid hR
 have hx : (((w.alloc (.cells (dcells (.slice ad n cap) down fuse fault) 24)).alloc (.cells (scells k nm dt z) 150)).alloc (.cells #[.slice none 0 0, .bool false, .int .i64 0, .int .i64 0] 24)).heap[w.heap.size]? = some (.cells (dcells (.slice ad n cap) down fuse fault) 24) := blk_alloc (blk_alloc (blk_new w _) _) _
 have hy : (((w.alloc (.cells (dcells (.slice ad n cap) down fuse fault) 24)).alloc (.cells (scells k nm dt z) 150)).alloc (.cells #[.slice none 0 0, .bool false, .int .i64 0, .int .i64 0] 24)).heap[w.heap.size + 1]? = some (.cells (scells k nm dt z) 150) := by
  have := blk_alloc (blk_new (w.alloc (.cells (dcells (.slice ad n cap) down fuse fault) 24)) (.cells (scells k nm dt z) 150)) (.cells #[.slice none 0 0, .bool false, .int .i64 0, .int .i64 0] 24)
  simpa using this
 have hq : (((w.alloc (.cells (dcells (.slice ad n cap) down fuse fault) 24)).alloc (.cells (scells k nm dt z) 150)).alloc (.cells #[.slice none 0 0, .bool false, .int .i64 0, .int .i64 0] 24)).heap[w.heap.size + 2]? = some (.cells (dcells (.slice none 0 0) false 0 0) 24) := by
  have := blk_new ((w.alloc (.cells (dcells (.slice ad n cap) down fuse fault) 24)).alloc (.cells (scells k nm dt z) 150)) (.cells #[.slice none 0 0, .bool false, .int .i64 0, .int .i64 0] 24)
  simpa using this
 have HT := Lib.hid (⟨hx, hy, hq⟩ : Three w _ _ _ _)
 clear hc hb0 hq hi0 hi hR hx hy
 go_enter Tryz.func97, Tryz.ntmps97
 go_wp2_with fail
 refine (Hc.out).mono ?_
 rintro e w1 ⟨rfl, hb⟩
 have HT1 := Lib.hid (HT.out.below hb)
 obtain ⟨x0, x1, x2, x3⟩ := box4 HT1.out.x
 have Hb1 := Lib.hid (Hb0.out.trans (hb.mono Hb0.out.size))
 have hi1 := Hi0.out.under hb
 have hbg := begin_any w1 ad cap n down fuse fault fs hi1 (by omega)
 have Hbg := Lib.hid hbg
 clear hb hi1 hbg
 go_wp2_with fail
 refine (Hbg.out).mono ?_
 rintro e w2 ⟨g, v, rfl, hD, hr, hfar, hg, hb⟩
 obtain ⟨ad1, cap1, hv, hi2⟩ := Inp.of_row hr
 subst hv
 have HO := Lib.hid (⟨⟨hD, rfl, hi2.2.2.2, HR.out⟩, hr, hfar, hb.size, hg⟩ : Own w2 g w1.heap.size ad1 fs.length cap1 down fuse fault fs)
 have Hb2 := Lib.hid (Hb1.out.trans (hb.mono Hb1.out.size))
 have Hbs := Lib.hid hb.size
 have HT2 := Lib.hid (HT1.out.below hb)
 obtain ⟨y0, y1, y2, y3⟩ := box4 HT2.out.y
 clear x0 x1 x2 x3 hD hr hfar hg hb hi2
 go_wp2_with fail
 refine (Hch.out _).mono ?_
 rintro e w3 ⟨rfl, hb⟩
 have hO := HO.out.keep hb
 have HT3 := Lib.hid (HT2.out.below hb)
 have Hb3 := Lib.hid (Hb2.out.trans (hb.mono Hb2.out.size))
 have hb4 := (Below.refl w3.heap.size w3).alloc (Nat.le_refl _) (.cells #[fnv a, fnv b, fnv c] 171)
 have hO4 := hO.keep hb4
 have HT4 := Lib.hid (HT3.out.below hb4)
 have Hb4 := Lib.hid (Hb3.out.trans (hb4.mono Hb3.out.size))
 have Hrn := Lib.hid (Hrun.out _ _ _ _ _ _ hO4)
 have HO4 := Lib.hid hO4
 obtain ⟨y0, y1, y2, y3⟩ := box4 HT3.out.y
 obtain ⟨yy0, yy1, yy2, yy3⟩ := box4 HT4.out.y
 have hlt2 := HT3.out.lt
 have Hbase := Lib.hid HO.out.bw
 have HT1s := Lib.hid HT1.out.lt
 clear hb hO hO4 hb4
 go_wp2_with fail
 refine (Hrn.out).mono ?_
 rintro e w5 ⟨rfl, hB⟩
 obtain ⟨ad2, n2, cap2, hD5, hi5, hb5, hf5⟩ := hB.parts
 have HT5 := Lib.hid (HT4.out.under hb5 HT1s.out)
 have Hb5 := Lib.hid (Below.trans (Hb4.out) (hb5.mono Hb1.out.size))
 have Hi5 := Lib.hid hi5
 have hq : (Value.slice ad2 n2 cap2).ownBlock ≠ some (w.heap.size + 1 + 1) := fun e => by have := (hf5 _ e).1; have := HT1s.out; omega
 have Hq := Lib.hid hq
 have Hf5 := Lib.hid hf5
 obtain ⟨⟨d0, d1, d2, d3⟩, _⟩ := hD5.facts
 obtain ⟨⟨e0, e1, e2, e3⟩, g0, g1, g2, g3⟩ := Dk.facts (show Dk w5 (w.heap.size + 2) 24 (.slice none 0 0) false 0 0 from HT5.out.q)
 obtain ⟨fl', dn', fu', fa'⟩ := d'
 simp only at d0 d1 d2 d3
 have hlt5 := hD5.lt
 have hlt6 := HT5.out.lt
 have hgq : g ≠ w.heap.size + 1 + 1 := by have := HO.out.bg; have := HT1s.out; omega
 clear hB hD5 hi5 hb5 hf5 hq y0 y1 y2 y3 yy0 yy1 yy2 yy3 hlt2
 go_wp2
 have hQ : Dk w5 (w.heap.size + 1 + 1) 24 (.slice none 0 0) false 0 0 := HT5.out.q
 have hQ6 : Dk ((((w5.setCell ⟨w.heap.size + 1 + 1, 0, none⟩ (.slice ad2 n2 cap2)).setCell ⟨w.heap.size + 1 + 1, 1, none⟩ (.bool dn')).setCell ⟨w.heap.size + 1 + 1, 2, none⟩ (.int .i64 fu')).setCell ⟨w.heap.size + 1 + 1, 3, none⟩ (.int .i64 fa')) (w.heap.size + 1 + 1) 24 (.slice ad2 n2 cap2) dn' fu' fa' :=
  (((hQ.set0 _).set1 _).set2 _).set3 _
 obtain ⟨⟨r0, r1, r2, r3⟩, _⟩ := hQ6.facts
 refine bodyPost_ret (v := .tuple #[.agg (dcells (.slice ad2 n2 cap2) dn' fu' fa'), .int .i64 code]) (by simp [results, Tryz.results97, go_sem, r0, r1, r2, r3]) rfl ?_
 have hq := Hq.out
 have hi5 := Hi5.out
 refine ⟨ad2, _, cap2, rfl, ?_, ?_, fun b hb => ⟨Nat.le_trans Hb1.out.size (Hf5.out _ hb).1, (((((Hf5.out _ hb).2.set _ _ _).set _ _ _).set _ _ _).set _ _ _)⟩⟩
 ·exact (Inp.set (Inp.set (Inp.set (Inp.set hi5 hq) hq) hq) hq).mono (by simp [World.setCell])
 ·exact (((Hb5.out.setCell (p := ⟨w.heap.size + 1 + 1, 0, none⟩) (by simp; omega) _).setCell (p := ⟨w.heap.size + 1 + 1, 1, none⟩) (by simp; omega) _).setCell (p := ⟨w.heap.size + 1 + 1, 2, none⟩) (by simp; omega) _).setCell (p := ⟨w.heap.size + 1 + 1, 3, none⟩) (by simp; omega) _
end
end Go.Proofs.YtlgbehagflnfgaaGreatDoor
