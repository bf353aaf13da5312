/- THE WALK OVER run. -/
import Derived.Test.YtcefhcailhediaaDo2
namespace Go.Proofs.Ytcefhcailhediaa
open Go.RowKit
set_option linter.unusedVariables false
set_option linter.unusedSimpArgs false

/-- block g holds a disk whose list is its own -/
structure Own (w : World) (g base : Nat) (ad : Option Addr) (n cap : Nat) (down : Bool) (fuse fault : Int) (fs : List F) : Prop where
  on : On w g ad n cap down fuse fault fs
  row : FRow w base (.slice ad n cap) fs
  far : (Value.slice ad n cap).ownBlock ≠ some g
  bw : base ≤ w.heap.size
  bg : base ≤ g
section
variable {w w' : World} {g base : Nat} {ad : Option Addr} {n cap : Nat} {down down' : Bool} {fuse fault fuse' fault' : Int} {fs : List F}
theorem Own.keep (h : Own w g base ad n cap down fuse fault fs) (hb : Below w.heap.size w w') : Own w' g base ad n cap down fuse fault fs :=
  ⟨h.on.keep hb, h.row.below hb, h.far, Nat.le_trans h.bw hb.size, h.bg⟩
/-- the disk's own cells turned -/
theorem Own.turn (h : Own w g base ad n cap down fuse fault fs) (hD : Dk w' g 64 (.slice ad n cap) down' fuse' fault') (hg : w.grownBy w' (some g)) : Own w' g base ad n cap down' fuse' fault' fs := by
  refine ⟨⟨hD, h.on.n, fun hne => ?_, h.on.r⟩, h.row.kept hg (.inr h.far), h.far, Nat.le_trans h.bw hg.size, h.bg⟩
  obtain ⟨gb, off, e, hgb, hi⟩ := h.on.f hne
  have hne' : gb ≠ g := by
    intro e'
    subst e'
    exact h.far (by rw [e]; rfl)
  have hc : ∀ j, w'.cell? ⟨gb, j, none⟩ = w.cell? ⟨gb, j, none⟩ := fun j => World.cell?_of_block (w := w) (hg.block gb hgb (by simpa using hne'))
  exact ⟨gb, off, e, Nat.lt_of_lt_of_le hgb hg.size, fun i f hf => ⟨(hc _).trans (hi i f hf).q0, (hc _).trans (hi i f hf).q1, (hc _).trans (hi i f hf).q2⟩⟩
theorem Own.inp (h : Own w g base ad n cap down fuse fault fs) : Inp w w.heap.size ad n cap fs := by
  obtain ⟨ad', cap', hv, hc, hnil, hf⟩ := h.row.fls
  simp only [Value.slice.injEq] at hv
  obtain ⟨rfl, rfl, rfl⟩ := hv
  exact ⟨rfl, hc, hnil, hf⟩
theorem Own.behind {w0 : World} (h : Own w g base ad n cap down fuse fault fs) (hb : Below base w0 w) : Behind base w0 g down fuse fault fs w := ⟨ad, n, cap, h.on.d, h.inp, hb, fun b hb => (h.row.lt b hb).1⟩
/-- where the list lies -/
theorem Own.place (h : Own w g base ad n cap down fuse fault fs) : (ad = none ∧ n = 0 ∧ cap = 0) ∨ ∃ gb, ad = some ⟨gb, 0, none⟩ ∧ gb < w.heap.size ∧ gb ≠ g ∧ n ≤ cap ∧ base ≤ gb := by
  rcases h.row.2 with ⟨hv, hn⟩ | ⟨gb, cap', cur, hv, hbg, hg, hnc, _⟩
  · simp only [Value.slice.injEq] at hv
    exact .inl hv
  · simp only [Value.slice.injEq] at hv
    obtain ⟨rfl, hn, rfl⟩ := hv
    exact .inr ⟨gb, rfl, (Array.getElem?_eq_some_iff.1 hg).1, (fun e => h.far (by rw [e]; rfl)), by omega, hbg⟩
end
def BehindD (base : Nat) (w : World) (g : Nat) (d : D) (w' : World) : Prop := Behind base w g d.down d.fuse d.fault d.files w'
theorem bd {base : Nat} {w w' : World} {g : Nat} {d : D} {down : Bool} {fuse fault : Int} {fs : List F} (h : Behind base w g down fuse fault fs w') (e : d = ⟨fs, down, fuse, fault⟩) : BehindD base w g d w' := by subst e; exact h

theorem run_down {fs : List F} {fuse fault : Int} {s : S} : run ⟨fs, true, fuse, fault⟩ s = (⟨fs, true, fuse, fault⟩, 17) := by simp [run]
theorem run_ref {fs : List F} {fuse fault : Int} {s : S} (h : ref fs s ≠ 0) : run ⟨fs, false, fuse, fault⟩ s = (⟨fs, false, fuse, fault⟩, ref fs s) := by simp [run, h]
theorem run_fault {fs : List F} {fuse fault : Int} {s : S} (h : ref fs s = 0) (h2 : fault = 0) : run ⟨fs, false, fuse, fault⟩ s = (⟨fs, false, fuse, -1⟩, 18) := by simp [run, h, h2]
theorem run_fuse {fs : List F} {fuse fault : Int} {s : S} (h : ref fs s = 0) (h2 : ¬ fault = 0) (h3 : fuse = 0) : run ⟨fs, false, fuse, fault⟩ s = (⟨half fs s, true, 0, dec fault⟩, 17) := by simp [run, h, h2, h3]
theorem run_done {fs : List F} {fuse fault : Int} {s : S} (h : ref fs s = 0) (h2 : ¬ fault = 0) (h3 : ¬ fuse = 0) : run ⟨fs, false, fuse, fault⟩ s = (⟨eff fs s, false, dec fuse, dec fault⟩, 0) := by simp [run, h, h2, h3]

/-- what run needs of a kind's three functions -/
structure Kind3 (g base : Nat) (ad : Option Addr) (n cap : Nat) (fs : List F) (s : S) (a b c : Nat) : Prop where
  ea : ∀ args w, (callFunc a args).run Try.prog w = .ok (.enter a args) w
  eb : ∀ args w, (callFunc b args).run Try.prog w = .ok (.enter b args) w
  ec : ∀ args w, (callFunc c args).run Try.prog w = .ok (.enter c args) w
  re : ∀ w down fuse fault, Own w g base ad n cap down fuse fault fs → Calls Try.prog a #[.pointer (some ⟨g, 0, none⟩), .agg (scells s.kind s.name s.data s.size)] w fun e w' => e = .returned (.int .i64 (ref fs s)) ∧ Below w.heap.size w w'
  do_ : ∀ w down fuse fault, Own w g base ad n cap down fuse fault fs → ref fs s = 0 → Calls Try.prog b #[.pointer (some ⟨g, 0, none⟩), .agg (scells s.kind s.name s.data s.size)] w fun e w' => e = .returned (.tuple #[]) ∧ Behind base w g down fuse fault (eff fs s) w'
  ha : ∀ w down fuse fault, Own w g base ad n cap down fuse fault fs → ref fs s = 0 → Calls Try.prog c #[.pointer (some ⟨g, 0, none⟩), .agg (scells s.kind s.name s.data s.size)] w fun e w' => e = .returned (.tuple #[]) ∧ Behind base w g down fuse fault (half fs s) w'

/-- the boxes of run's arguments -/
structure Bx (w : World) (a b c : Nat) (k : Int) (nm dt : ByteArray) (z : Int) (W : World) : Prop where
  x : W.heap[w.heap.size]? = some (.cells #[fnv a, fnv b, fnv c] 60)
  y : W.heap[w.heap.size + 1]? = some (.cells (scells k nm dt z) 27)
section
variable {w : World} {a b c : Nat} {k : Int} {nm dt : ByteArray} {z : Int}
theorem Bx.start : Bx w a b c k nm dt z ((w.alloc (.cells #[fnv a, fnv b, fnv c] 60)).alloc (.cells (scells k nm dt z) 27)) :=
  ⟨blk_alloc (blk_new w _) _, by have := blk_new (w.alloc (.cells #[fnv a, fnv b, fnv c] 60)) (.cells (scells k nm dt z) 27); simpa using this⟩
theorem Bx.below {W W' : World} (h : Bx w a b c k nm dt z W) (hb : Below W.heap.size W W') : Bx w a b c k nm dt z W' :=
  ⟨(hb.block _ (Array.getElem?_eq_some_iff.1 h.x).1).trans h.x, (hb.block _ (Array.getElem?_eq_some_iff.1 h.y).1).trans h.y⟩
theorem Bx.grown {W W' : World} {g : Nat} (h : Bx w a b c k nm dt z W) (hb : W.grownBy W' (some g)) (hg : g < w.heap.size) : Bx w a b c k nm dt z W' :=
  ⟨(hb.block _ (Array.getElem?_eq_some_iff.1 h.x).1 (by simp; omega)).trans h.x, (hb.block _ (Array.getElem?_eq_some_iff.1 h.y).1 (by simp; omega)).trans h.y⟩
theorem below_of_grown {W W' : World} {g B : Nat} (hb : W.grownBy W' (some g)) (hB : B ≤ W.heap.size) (hg : B ≤ g) : Below B W W' :=
  ⟨hb.os, hb.tape, hb.output, hb.size, fun i hi => hb.block i (by omega) (by simp; omega)⟩

end
section
variable (w : World) (g base : Nat) (ad : Option Addr) (n cap : Nat) (fuse fault : Int) (fs : List F) (k : Int) (nm dt : ByteArray) (z : Int) (a b c : Nat)
theorem run_1 (h : Own w g base ad n cap true fuse fault fs) :
    Calls Try.prog 29 #[.pointer (some ⟨g, 0, none⟩), chv a b c, .agg (scells k nm dt z)] w fun e w' => e = .returned (.int .i64 17) ∧ Behind base w g true fuse fault fs w' := by
  have H := Lib.hid h
  obtain ⟨⟨d0, d1, d2, d3⟩, _⟩ := h.on.d.facts
  have hlt := h.on.d.lt
  clear h
  go_enter Try.func29, Try.ntmps29
  go_wp2
  go_ret
  exact ⟨rfl, (H.out.keep (((Below.refl _ w).alloc (Nat.le_refl _) _).alloc (by simp) _)).behind ((((Below.refl _ w).alloc (Nat.le_refl _) _).alloc (by simp) _).mono H.out.bw)⟩
theorem fn3_box {w : World} {a b c : Nat} {t : TypeId} : (w.alloc (.cells #[fnv a, fnv b, fnv c] t)).heap[w.heap.size]? = some (.cells #[fnv a, fnv b, fnv c] t) := blk_new w _

set_option maxHeartbeats 2000000 in
theorem run_2 (h : Own w g base ad n cap false fuse fault fs) (K : Kind3 g base ad n cap fs ⟨k, nm, dt, z⟩ a b c) (r : Int) (hr : ref fs ⟨k, nm, dt, z⟩ = r) (hr0 : ¬ r = 0) :
    Calls Try.prog 29 #[.pointer (some ⟨g, 0, none⟩), chv a b c, .agg (scells k nm dt z)] w fun e w' => e = .returned (.int .i64 r) ∧ Behind base w g false fuse fault fs w' := by
  have H := Lib.hid h
  obtain ⟨⟨d0, d1, d2, d3⟩, _⟩ := h.on.d.facts
  have hlt := h.on.d.lt
  have hb0 : Below w.heap.size w ((w.alloc (.cells #[fnv a, fnv b, fnv c] 60)).alloc (.cells (scells k nm dt z) 27)) := ((Below.refl _ w).alloc (Nat.le_refl _) _).alloc (by simp) _
  have hre := K.re _ _ _ _ (h.keep hb0)
  rw [hr] at hre
  have Hre := Lib.hid hre
  have Hb0 := Lib.hid hb0
  have ea := K.ea
  have hr1 : (r == 0) = false := by simp [hr0]
  clear h hre hb0 K hr
  go_enter Try.func29, Try.ntmps29
  go_wp2_with fail
  refine (Hre.out).mono ?_
  rintro e w1 ⟨rfl, hb⟩
  have Hb := Lib.hid (Hb0.out.trans (hb.mono Hb0.out.size)); clear hb
  go_wp2
  go_ret
  exact ⟨rfl, (H.out.keep Hb.out).behind (Hb.out.mono H.out.bw)⟩
set_option maxHeartbeats 2000000 in
theorem run_3 (h : Own w g base ad n cap false fuse fault fs) (K : Kind3 g base ad n cap fs ⟨k, nm, dt, z⟩ a b c) (hr : ref fs ⟨k, nm, dt, z⟩ = 0) (hf : fault = 0) (f0 : -9223372036854775808 ≤ fault) (f1 : fault ≤ 9223372036854775807) :
    Calls Try.prog 29 #[.pointer (some ⟨g, 0, none⟩), chv a b c, .agg (scells k nm dt z)] w fun e w' => e = .returned (.int .i64 18) ∧ Behind base w g false fuse (-1) fs w' := by
  have H := Lib.hid h
  obtain ⟨⟨d0, d1, d2, d3⟩, _⟩ := h.on.d.facts
  have hlt := h.on.d.lt
  have hb0 : Below w.heap.size w ((w.alloc (.cells #[fnv a, fnv b, fnv c] 60)).alloc (.cells (scells k nm dt z) 27)) := ((Below.refl _ w).alloc (Nat.le_refl _) _).alloc (by simp) _
  have hbx : Bx w a b c k nm dt z ((w.alloc (.cells #[fnv a, fnv b, fnv c] 60)).alloc (.cells (scells k nm dt z) 27)) := Bx.start
  have hO0 := h.keep hb0
  have hre := K.re _ _ _ _ hO0
  rw [hr] at hre
  have Hre := Lib.hid hre
  have Hb0 := Lib.hid hb0
  have HO0 := Lib.hid hO0
  have HB0 := Lib.hid hbx
  have ea := K.ea
  have eb := K.eb
  have ec := K.ec
  have HK := Lib.hid K
  have Hr := Lib.hid hr
  clear h hre hb0 K hr hO0 hbx
  go_enter Try.func29, Try.ntmps29
  go_wp2_with fail
  refine (Hre.out).mono ?_
  rintro e w1 ⟨rfl, hb⟩
  have hO1 := HO0.out.keep hb
  have Hb1 := Lib.hid (Hb0.out.trans (hb.mono Hb0.out.size))
  have HB1 := Lib.hid (HB0.out.below hb)
  have HO1 := Lib.hid hO1
  have hcf := comes_fault w1 g 64 _ _ fuse fault hO1.on.d f0 f1
  have Hcf := Lib.hid hcf
  clear hb hO1 hcf
  have hz : isZero fault = true := decide_eq_true hf
  rw [hz] at Hcf
  clear hz hf
  go_wp2_with fail
  refine (Hcf.out).mono ?_
  rintro e w2 ⟨rfl, hD2, hg2⟩
  have hO2 := HO1.out.turn hD2 hg2
  have HO2 := Lib.hid hO2
  have Hb2 := Lib.hid ((Hb1.out.mono H.out.bw).trans (below_of_grown hg2 HO1.out.bw H.out.bg))
  obtain ⟨⟨e0, e1, e2, e3⟩, _, _, _, z3⟩ := hD2.facts
  have hlt2 := hD2.lt
  clear hD2 hg2 hO2
  go_wp2
  go_ret
  refine ⟨rfl, (HO2.out.turn (HO2.out.on.d.set3 (-1)) (grown_set _ _ _ _)).behind ?_⟩
  exact Hb2.out.setCell (by exact H.out.bg) _

set_option maxHeartbeats 4000000 in
theorem run_4 (h : Own w g base ad n cap false fuse fault fs) (K : Kind3 g base ad n cap fs ⟨k, nm, dt, z⟩ a b c) (hr : ref fs ⟨k, nm, dt, z⟩ = 0) (hf : ¬ fault = 0) (hu : fuse = 0) (f0 : -9223372036854775808 ≤ fault) (f1 : fault ≤ 9223372036854775807) :
    Calls Try.prog 29 #[.pointer (some ⟨g, 0, none⟩), chv a b c, .agg (scells k nm dt z)] w fun e w' => e = .returned (.int .i64 17) ∧ Behind base w g true 0 (dec fault) (half fs ⟨k, nm, dt, z⟩) w' := by
  obtain ⟨fl, hfl⟩ : ∃ fl, dec fault = fl := ⟨_, rfl⟩
  rw [hfl]
  have Hfl := Lib.hid hfl
  clear hfl
  have H := Lib.hid h
  obtain ⟨⟨d0, d1, d2, d3⟩, _⟩ := h.on.d.facts
  have hlt := h.on.d.lt
  have hb0 : Below w.heap.size w ((w.alloc (.cells #[fnv a, fnv b, fnv c] 60)).alloc (.cells (scells k nm dt z) 27)) := ((Below.refl _ w).alloc (Nat.le_refl _) _).alloc (by simp) _
  have hbx : Bx w a b c k nm dt z ((w.alloc (.cells #[fnv a, fnv b, fnv c] 60)).alloc (.cells (scells k nm dt z) 27)) := Bx.start
  have hO0 := h.keep hb0
  have hre := K.re _ _ _ _ hO0
  rw [hr] at hre
  have Hre := Lib.hid hre
  have Hb0 := Lib.hid hb0
  have HO0 := Lib.hid hO0
  have HB0 := Lib.hid hbx
  have ea := K.ea
  have eb := K.eb
  have ec := K.ec
  have HK := Lib.hid K
  have Hr := Lib.hid hr
  clear h hre hb0 K hr hO0 hbx
  go_enter Try.func29, Try.ntmps29
  go_wp2_with fail
  refine (Hre.out).mono ?_
  rintro e w1 ⟨rfl, hb⟩
  have hO1 := HO0.out.keep hb
  have Hb1 := Lib.hid (Hb0.out.trans (hb.mono Hb0.out.size))
  have HB1 := Lib.hid (HB0.out.below hb)
  have HO1 := Lib.hid hO1
  have hcf := comes_fault w1 g 64 _ _ fuse fault hO1.on.d f0 f1
  have Hcf := Lib.hid hcf
  clear hb hO1 hcf
  have hz : isZero fault = false := decide_eq_false hf
  rw [hz] at Hcf
  subst hu
  rw [Hfl.out] at Hcf
  clear hz hf
  go_wp2_with fail
  refine (Hcf.out).mono ?_
  rintro e w2 ⟨rfl, hD2, hg2⟩
  have hO2 := HO1.out.turn hD2 hg2
  have HO2 := Lib.hid hO2
  have Hb2 := Lib.hid ((Hb1.out.mono H.out.bw).trans (below_of_grown hg2 HO1.out.bw H.out.bg))
  have HB2 := Lib.hid (HB1.out.grown hg2 hlt)
  have hcu := comes_fuse w2 g 64 _ _ 0 fl hO2.on.d (by omega) (by omega)
  have Hcu := Lib.hid hcu
  clear hD2 hg2 hO2 hcu
  go_wp2_with fail
  refine (Hcu.out).mono ?_
  rw [show isZero 0 = true from rfl, show dec 0 = 0 from rfl]
  rintro e w3 ⟨rfl, hD3, hg3⟩
  have hO3 := HO2.out.turn hD3 hg3
  have HO3 := Lib.hid hO3
  have Hb3 := Lib.hid (Hb2.out.trans (below_of_grown hg3 HO2.out.bw H.out.bg))
  have HB3 := Lib.hid (HB2.out.grown hg3 hlt)
  obtain ⟨⟨e0, e1, e2, e3⟩, _, z1, _, _⟩ := hD3.facts
  have HO4 := Lib.hid (hO3.turn (hD3.set1 true) (grown_set _ _ _ _))
  have HB4 := Lib.hid (HB3.out.grown (grown_set w3 g 1 (.bool true)) hlt)
  have Hha := Lib.hid (HK.out.ha _ _ _ _ HO4.out Hr.out)
  have Hb4 := Lib.hid (Hb3.out.setCell (p := ⟨g, 1, none⟩) (by exact H.out.bg) (.bool true))
  obtain ⟨x0, x1, x2⟩ := box3 HB4.out.x
  obtain ⟨y0, y1, y2, y3⟩ := box4 HB4.out.y
  obtain ⟨v0, v1, v2⟩ := box3 HB3.out.x
  obtain ⟨u0, u1, u2, u3⟩ := box4 HB3.out.y
  clear hD3 hg3 hO3
  go_wp2_with fail
  refine (Hha.out).mono ?_
  rintro e w5 ⟨rfl, hB5⟩
  have HB5 := Lib.hid (hB5.from (B := 0) Hb4.out)
  clear hB5
  go_wp2
  go_ret
  exact ⟨rfl, HB5.out⟩

set_option maxHeartbeats 4000000 in
theorem run_5 (h : Own w g base ad n cap false fuse fault fs) (K : Kind3 g base ad n cap fs ⟨k, nm, dt, z⟩ a b c) (hr : ref fs ⟨k, nm, dt, z⟩ = 0) (hf : ¬ fault = 0) (hu : ¬ fuse = 0) (f0 : -9223372036854775808 ≤ fault) (f1 : fault ≤ 9223372036854775807)
    (u0 : -9223372036854775808 ≤ fuse) (u1 : fuse ≤ 9223372036854775807) :
    Calls Try.prog 29 #[.pointer (some ⟨g, 0, none⟩), chv a b c, .agg (scells k nm dt z)] w fun e w' => e = .returned (.int .i64 0) ∧ Behind base w g false (dec fuse) (dec fault) (eff fs ⟨k, nm, dt, z⟩) w' := by
  obtain ⟨fl, hfl⟩ : ∃ fl, dec fault = fl := ⟨_, rfl⟩
  obtain ⟨fu, hfu⟩ : ∃ fu, dec fuse = fu := ⟨_, rfl⟩
  rw [hfl, hfu]
  have Hfl := Lib.hid hfl
  have Hfu := Lib.hid hfu
  clear hfl hfu
  have H := Lib.hid h
  obtain ⟨⟨d0, d1, d2, d3⟩, _⟩ := h.on.d.facts
  have hlt := h.on.d.lt
  have hb0 : Below w.heap.size w ((w.alloc (.cells #[fnv a, fnv b, fnv c] 60)).alloc (.cells (scells k nm dt z) 27)) := ((Below.refl _ w).alloc (Nat.le_refl _) _).alloc (by simp) _
  have hbx : Bx w a b c k nm dt z ((w.alloc (.cells #[fnv a, fnv b, fnv c] 60)).alloc (.cells (scells k nm dt z) 27)) := Bx.start
  have hO0 := h.keep hb0
  have hre := K.re _ _ _ _ hO0
  rw [hr] at hre
  have Hre := Lib.hid hre
  have Hb0 := Lib.hid hb0
  have HO0 := Lib.hid hO0
  have HB0 := Lib.hid hbx
  have ea := K.ea
  have eb := K.eb
  have ec := K.ec
  have HK := Lib.hid K
  have Hr := Lib.hid hr
  clear h hre hb0 K hr hO0 hbx
  go_enter Try.func29, Try.ntmps29
  go_wp2_with fail
  refine (Hre.out).mono ?_
  rintro e w1 ⟨rfl, hb⟩
  have hO1 := HO0.out.keep hb
  have Hb1 := Lib.hid (Hb0.out.trans (hb.mono Hb0.out.size))
  have HB1 := Lib.hid (HB0.out.below hb)
  have HO1 := Lib.hid hO1
  have hcf := comes_fault w1 g 64 _ _ fuse fault hO1.on.d f0 f1
  have Hcf := Lib.hid hcf
  clear hb hO1 hcf
  have hz : isZero fault = false := decide_eq_false hf
  rw [hz] at Hcf
  have hzu : isZero fuse = false := decide_eq_false hu
  rw [Hfl.out] at Hcf
  have Hzu := Lib.hid hzu
  clear hz hf hu hzu
  go_wp2_with fail
  refine (Hcf.out).mono ?_
  rintro e w2 ⟨rfl, hD2, hg2⟩
  have hO2 := HO1.out.turn hD2 hg2
  have HO2 := Lib.hid hO2
  have Hb2 := Lib.hid ((Hb1.out.mono H.out.bw).trans (below_of_grown hg2 HO1.out.bw H.out.bg))
  have HB2 := Lib.hid (HB1.out.grown hg2 hlt)
  have hcu := comes_fuse w2 g 64 _ _ fuse fl hO2.on.d u0 u1
  rw [Hzu.out, Hfu.out] at hcu
  have Hcu := Lib.hid hcu
  clear hD2 hg2 hO2 hcu
  go_wp2_with fail
  refine (Hcu.out).mono ?_
  rintro e w3 ⟨rfl, hD3, hg3⟩
  have hO3 := HO2.out.turn hD3 hg3
  have Hb3 := Lib.hid (Hb2.out.trans (below_of_grown hg3 HO2.out.bw H.out.bg))
  have HB3 := Lib.hid (HB2.out.grown hg3 hlt)
  have Hdo := Lib.hid (HK.out.do_ _ _ _ _ hO3 Hr.out)
  obtain ⟨v0, v1, v2⟩ := box3 HB3.out.x
  obtain ⟨u0, u1, u2, u3⟩ := box4 HB3.out.y
  clear hD3 hg3 hO3
  go_wp2_with fail
  refine (Hdo.out).mono ?_
  rintro e w5 ⟨rfl, hB5⟩
  have HB5 := Lib.hid (hB5.from (B := 0) Hb3.out)
  clear hB5
  go_wp2
  go_ret
  exact ⟨rfl, HB5.out⟩
end
end Go.Proofs.Ytcefhcailhediaa
