/- QUEUE: THE WALKS OVER slices.Clone at entries, begin; a queue that is being changed. -/
import Derived.Test.YtkhmdofeonlnpaaGreatDoorGam
namespace Go.Proofs.YtkhmdofeonlnpaaGreatDoor
open Go.RowKit
set_option maxRecDepth 100000
set_option linter.unusedVariables false
set_option linter.unusedSimpArgs false

theorem Tryz.info39 : (Tryz.prog.info? 39).map (fun i => (i.zero, i.size, i.bytes)) = some (some (.agg #[.int .u64 0, .string ⟨#[]⟩, .bool false]), 3, 32) := by kernel_rfl
set_option maxHeartbeats 1000000 in
theorem eclone_some (w : World) (a : Addr) (cap n : Nat) (fs : List E) (hn : n = fs.length) (hf : Els w w.heap.size (some a) fs) (h64 : n ≤ 2000) :
    Calls Tryz.prog 123 #[.slice (some a) n cap] w fun e w' => ∃ v, e = .returned v ∧ ERow w' w.heap.size v fs ∧ Below w.heap.size w w' := by
  obtain ⟨i0, hi, hz0, hz1, hz2⟩ := info_parts Tryz.info39
  have hnews := esrc_cells hf ((Below.refl _ w).alloc (Nat.le_refl _) (.cells #[] 39))
  have Hnews := Lib.hid hnews
  have hl : (fs.flatMap ec).length = n * 3 := by rw [hn]; exact ec_len fs
  have Hl := Lib.hid hl
  have Hn := Lib.hid hn
  clear hn hnews hl
  have hown := World.ownsRow_lit (base := w.heap.size) (e := 39) (size := 3) w #[] 0 (Nat.le_refl _) (by simp [maxLen]) rfl
  have Hown := Lib.hid hown
  clear hown
  have hq : ∀ W, (binOp .eql 28 (.slice (some a) n cap) (.slice none 0 0)).run Tryz.prog W = .ok (.bool false) W := fun W => by kernel_rfl
  go_enter Tryz.func123, Tryz.ntmps123
  go_wp2_with (at_builtin; refine wpList_append_own_at _ rfl _ _ 28 rfl w.heap.size 39 i0 _ 3 32 Tryz.underlying28 hi hz0 hz1 hz2 rfl (by decide) (.slice (some ⟨w.heap.size, 0, none⟩) 0 0) 0 _ rfl Hown.out a n cap (fs.flatMap ec) rfl Hl.out Hnews.out (ec_one fs) (by simp [maxLen]; omega) (by omega) (by simp) ?_)
  intro v' w' h1 h2 _ _
  have Hb := Lib.hid (((Below.refl w.heap.size w).alloc (Nat.le_refl _) (.cells #[] 39)).grown h2 (by simp) (fun k hk => by simp [Value.ownBlock] at hk; omega))
  have Hr := Lib.hid (show ERow w' w.heap.size v' fs by have := h1; rw [Hn.out] at this; exact this)
  clear h1 h2
  go_wp2
  go_ret
  exact ⟨v', rfl, Hr.out, Hb.out⟩
theorem eclone_nil (w : World) : Calls Tryz.prog 123 #[.slice none 0 0] w fun e w' => e = .returned (.slice none 0 0) ∧ w = w' := by
  have hq : ∀ W, (binOp .eql 28 (.slice none 0 0) (.slice none 0 0)).run Tryz.prog W = .ok (.bool true) W := fun W => by kernel_rfl
  go_enter Tryz.func123, Tryz.ntmps123
  go_wp2
  go_ret
  exact ⟨rfl, rfl⟩
theorem eclone_any (w : World) (ad : Option Addr) (cap n : Nat) (fs : List E) (hi : EIn w w.heap.size ad n cap fs) (h64 : n ≤ 2000) :
    Calls Tryz.prog 123 #[.slice ad n cap] w fun e w' => ∃ v, e = .returned v ∧ ERow w' w.heap.size v fs ∧ Below w.heap.size w w' := by
  obtain ⟨hn, hc, hnil, hf⟩ := hi
  cases ad with
  | some a => exact eclone_some w a cap n fs hn hf h64
  | none =>
    have hc0 := hnil rfl
    subst hc0
    obtain rfl : n = 0 := by omega
    have hx : fs = [] := List.eq_nil_of_length_eq_zero hn.symm
    subst hx
    exact (eclone_nil w).mono fun e w' ⟨h1, h2⟩ => ⟨_, h1, World.ownsRow_nil _ _ _ _, by rw [h2]; exact Below.refl _ _⟩
/-- a queue that is being changed: its box, its lists elsewhere -/
structure QAt (w : World) (base g : Nat) (ad : Option Addr) (n cap : Nat) (u : Value) (q : Q) : Prop where
  h : w.heap[g]? = some (.cells (q.cells (.slice ad n cap) u) 139 (0, 0))
  l : LIn w ad n cap q.l
  vo : (Value.slice ad n cap).ownBlock ≠ some g
  row : ERow w base u q.es
  uo : u.ownBlock ≠ some g
  vu : ∀ b, (Value.slice ad n cap).ownBlock = some b → u.ownBlock ≠ some b
  vl : ∀ b, (Value.slice ad n cap).ownBlock = some b → b < w.heap.size
  vb : ∀ b, (Value.slice ad n cap).ownBlock = some b → base ≤ b
  bg : base ≤ g
  fit : ∀ e ∈ q.es, EFit e
  m : Num q.most
theorem QAt.lt {w : World} {base g : Nat} {ad : Option Addr} {n cap : Nat} {u : Value} {q : Q} (h : QAt w base g ad n cap u q) : g < w.heap.size := (Array.getElem?_eq_some_iff.1 h.h).1
theorem ERow.below {w w' : World} {base : Nat} {v : Value} {fs : List E} (h : ERow w base v fs) (hb : Below w.heap.size w w') : ERow w' base v fs :=
  h.kept (row := none) ⟨hb.os, hb.tape, hb.output, hb.size, fun k hk _ => hb.block k hk⟩ (by cases e : v.ownBlock <;> simp)
theorem QAt.under {w w' : World} {base g : Nat} {ad : Option Addr} {n cap : Nat} {u : Value} {q : Q} (h : QAt w base g ad n cap u q) (hb : Below w.heap.size w w') : QAt w' base g ad n cap u q :=
  ⟨(hb.block _ h.lt).trans h.h, h.l.under hb, h.vo, h.row.below hb, h.uo, h.vu, fun b e => Nat.lt_of_lt_of_le (h.vl b e) hb.size, h.vb, h.bg, h.fit, h.m⟩
/-- a store elsewhere -/
theorem QAt.far {w : World} {base g : Nat} {ad : Option Addr} {n cap : Nat} {u : Value} {q : Q} (h : QAt w base g ad n cap u q) {b o : Nat} {x : Value} (h1 : b ≠ g) (h2 : u.ownBlock ≠ some b) (h3 : (Value.slice ad n cap).ownBlock ≠ some b) : QAt (w.setCell ⟨b, o, none⟩ x) base g ad n cap u q :=
  ⟨(Below.heap_setCell w ⟨b, o, none⟩ x g (Ne.symm h1)).trans h.h, ⟨⟨(h.l.d.i.set h3).mono (by simp [World.setCell]), h.l.d.fit, h.l.d.u0, h.l.d.u1, h.l.d.f0, h.l.d.f1⟩, h.l.s0, h.l.s1, h.l.f0, h.l.f1, h.l.n0, h.l.n1⟩, h.vo, h.row.set_far x h2, h.uo, h.vu, fun b e => by have := h.vl b e; simpa [World.setCell] using this, h.vb, h.bg, h.fit, h.m⟩
theorem QAt.ul {w : World} {base g : Nat} {ad : Option Addr} {n cap : Nat} {u : Value} {q : Q} (h : QAt w base g ad n cap u q) : ∀ b, u.ownBlock = some b → base ≤ b ∧ b < w.heap.size := h.row.lt
/-- what lies elsewhere than in the queue's box and its entries is kept -/
structure Kq (g : Nat) (u : Value) (w w' : World) : Prop where
  os : w'.os = w.os
  tape : w'.tape = w.tape
  output : w'.output = w.output
  size : w.heap.size ≤ w'.heap.size
  block : ∀ k, k < w.heap.size → k ≠ g → u.ownBlock ≠ some k → w'.heap[k]? = w.heap[k]?
theorem Kq.refl (g : Nat) (u : Value) (w : World) : Kq g u w w := ⟨rfl, rfl, rfl, Nat.le_refl _, fun _ _ _ _ => rfl⟩
theorem Kq.of_below {g : Nat} {u : Value} {w w' : World} (h : Below w.heap.size w w') : Kq g u w w' := ⟨h.os, h.tape, h.output, h.size, fun k hk _ _ => h.block k hk⟩
theorem Kq.of_box {g : Nat} {u : Value} {w w' : World} (h : w.grownBy w' (some g)) : Kq g u w w' := ⟨h.os, h.tape, h.output, h.size, fun k hk h1 _ => h.block k hk (fun e => by injection e with e; exact h1 e)⟩
theorem Kq.of_row {g : Nat} {u : Value} {w w' : World} (h : w.grownBy w' u.ownBlock) : Kq g u w w' := ⟨h.os, h.tape, h.output, h.size, fun k hk _ h2 => h.block k hk (fun e => h2 e.symm)⟩
theorem Kq.far {g : Nat} {u : Value} {w w' : World} (h : Kq g u w w') {b o : Nat} {x : Value} (hb : w.heap.size ≤ b) : Kq g u w (w'.setCell ⟨b, o, none⟩ x) :=
  ⟨h.os, h.tape, h.output, by simp [World.setCell]; exact h.size, fun k hk h1 h2 => (Below.heap_setCell w' ⟨b, o, none⟩ x k (by simp only; omega)).trans (h.block k hk h1 h2)⟩
theorem Kq.trans {g : Nat} {u u1 : Value} {w w1 w2 : World} (h : Kq g u w w1) (h2 : Kq g u1 w1 w2) (hu : ∀ b, u1.ownBlock = some b → u.ownBlock = some b ∨ w.heap.size ≤ b) : Kq g u w w2 :=
  ⟨h2.os.trans h.os, h2.tape.trans h.tape, h2.output.trans h.output, Nat.le_trans h.size h2.size, fun k hk h3 h4 => (h2.block k (Nat.lt_of_lt_of_le hk h.size) h3 (fun e => by
    rcases hu k e with q | q
    · exact h4 q
    · omega)).trans (h.block k hk h3 h4)⟩
theorem Kq.alloc {g : Nat} {u : Value} {w w' : World} (h : Kq g u w w') (ob : Obj) : Kq g u w (w'.alloc ob) :=
  h.trans (Kq.of_below (u := .slice none 0 0) ((Below.refl _ w').alloc (Nat.le_refl _) ob)) (fun b e => by simp [Value.ownBlock] at e)
theorem Kq.below {g : Nat} {u : Value} {w0 w w' : World} {B : Nat} (h : Kq g u w w') (h0 : Below B w0 w) (hB : B ≤ w.heap.size) (hg : B ≤ g) (hu : ∀ b, u.ownBlock = some b → B ≤ b) : Below B w0 w' :=
  h0.trans ⟨h.os, h.tape, h.output, h.size, fun k hk => h.block k (by omega) (by omega) (fun e => by have := hu k e; omega)⟩
/-- the row's block is the call's own, or new -/
def OwnOr (w : World) (u u1 : Value) : Prop := ∀ b, u1.ownBlock = some b → u.ownBlock = some b ∨ w.heap.size ≤ b

set_option maxHeartbeats 4000000 in
theorem qbegin_any (w : World) (ad : Option Addr) (n cap : Nat) (ad2 : Option Addr) (n2 cap2 : Nat) (q : Q) (h : QIn w ad n cap ad2 n2 cap2 q) (h1 : n ≤ 1000) (h2 : n2 ≤ 2000) :
    Calls Tryz.prog 76 #[.agg (q.cells (.slice ad n cap) (.slice ad2 n2 cap2))] w fun e w' => ∃ g ad3 n3 cap3 u, e = .returned (.pointer (some ⟨g, 0, none⟩)) ∧ QAt w' w.heap.size g ad3 n3 cap3 u q ∧ (∀ b, (Value.slice ad3 n3 cap3).ownBlock = some b → w.heap.size ≤ b) ∧ Below w.heap.size w w' := by
  have hQ0 := h
  obtain ⟨l, es, most⟩ := q
  have hb0 : Below w.heap.size w (w.alloc (.cells (Q.cells ⟨l, es, most⟩ (.slice ad n cap) (.slice ad2 n2 cap2)) 30)) := (Below.refl _ w).alloc (Nat.le_refl _) _
  have hx := blk_new w (.cells (Q.cells ⟨l, es, most⟩ (.slice ad n cap) (.slice ad2 n2 cap2)) 30)
  have HQ := Lib.hid (h.under hb0)
  have HQ0 := Lib.hid hQ0
  have Hx := Lib.hid hx
  have Hb0 := Lib.hid hb0
  obtain ⟨⟨fs, down, fuse, fault⟩, size, fr, nx, broken⟩ := l
  obtain ⟨d0, d1, d2, d3, d4, d5, d6, d7, d8, d9⟩ := box10 hx
  clear h hb0 hx hQ0
  go_enter Tryz.func76, Tryz.ntmps76
  go_wp2_with fail
  refine (clone_any _ ad cap n fs HQ.out.l.d.i h1).mono ?_
  rintro e w1 ⟨v, rfl, hr, hb1⟩
  obtain ⟨ad1, cap1, hv⟩ := hr.form
  subst hv
  have hs0 : (w.alloc (.cells (Q.cells ⟨⟨⟨fs, down, fuse, fault⟩, size, fr, nx, broken⟩, es, most⟩ (.slice ad n cap) (.slice ad2 n2 cap2)) 30)).heap.size = w.heap.size + 1 := by simp
  have hnew : ∀ k, (Value.slice ad1 fs.length cap1).ownBlock = some k → w.heap.size < k ∧ k < w1.heap.size := fun k hk => ⟨by have := (hr.lt k hk).1; rw [hs0] at this; omega, (hr.lt k hk).2⟩
  have Hnew := Lib.hid hnew
  have HQ1 := Lib.hid (HQ.out.under hb1)
  have Hx1 := Lib.hid ((hb1.block _ (Array.getElem?_eq_some_iff.1 Hx.out).1).trans Hx.out)
  have Hb1 := Lib.hid (Hb0.out.trans (hb1.mono Hb0.out.size))
  have Hr := Lib.hid (hr.set_far (g := w.heap.size) (o := 0) (.slice ad1 fs.length cap1) (fun e => by have := (hnew _ e).1; omega))
  have Hi := Lib.hid (Inp.of_row hr)
  clear hr hb1 hnew hs0 d0 d1 d2 d3 d4 d5 d6 d7 d8 d9
  obtain ⟨d0, d1, d2, d3, d4, d5, d6, d7, d8, d9⟩ := box10 Hx1.out
  have hlx := (Array.getElem?_eq_some_iff.1 Hx1.out).1
  have f0 := frozen_of_row w1 w.heap.size 0 _ 30 Hx1.out
  go_upto_region 2 with (fail)
  obtain ⟨X, hX⟩ : ∃ X, X = w1.setCell ⟨w.heap.size, 0, none⟩ (.slice ad1 fs.length cap1) := ⟨_, rfl⟩
  rw [← hX]
  have HrX := Lib.hid (show FRow X _ (.slice ad1 fs.length cap1) fs from by rw [hX]; exact Hr.out)
  have HxX := Lib.hid (show X.heap[w.heap.size]? = some (.cells (qcells (.slice ad1 fs.length cap1) down fuse fault size fr nx broken (.slice ad2 n2 cap2) most) 30 (0, 0)) from by rw [hX]; exact heap_setCell_same _ _ 0 _ 30 _ Hx1.out)
  have HbX := Lib.hid (show Below w.heap.size w X from by rw [hX]; exact Hb1.out.setCell (Nat.le_refl _) _)
  have HeX := Lib.hid (show EIn X X.heap.size ad2 n2 cap2 es from HQ0.out.e.under HbX.out)
  have HsX := Lib.hid (show X.heap.size = w1.heap.size from by rw [hX]; simp [World.setCell])
  clear hX d0 d1 d2 d3 d4 d5 d6 d7 d8 d9 f0 hlx Hr Hx1 HQ1
  obtain ⟨d0, d1, d2, d3, d4, d5, d6, d7, d8, d9⟩ := box10 HxX.out
  have hlx := (Array.getElem?_eq_some_iff.1 HxX.out).1
  go_wp2_with fail
  refine (eclone_any X ad2 cap2 n2 es HeX.out h2).mono ?_
  rintro e w2 ⟨uv, rfl, hr2, hb2⟩
  obtain ⟨adu, capu, hu⟩ := hr2.form
  subst hu
  have Hr2 := Lib.hid hr2
  have Hb2 := Lib.hid (HbX.out.trans (hb2.mono HbX.out.size))
  have Hx2 := Lib.hid ((hb2.block _ hlx).trans HxX.out)
  have HF2 := Lib.hid (HrX.out.below hb2)
  have HXs := Lib.hid hb2.size
  have Hun := Lib.hid (show ∀ k, (Value.slice adu es.length capu).ownBlock = some k → w.heap.size < k ∧ X.heap.size ≤ k from fun k hk => ⟨by have := (hr2.lt k hk).1; omega, (hr2.lt k hk).1⟩)
  clear hr2 hb2 d0 d1 d2 d3 d4 d5 d6 d7 d8 d9 hlx
  obtain ⟨d0, d1, d2, d3, d4, d5, d6, d7, d8, d9⟩ := box10 Hx2.out
  have hlx := (Array.getElem?_eq_some_iff.1 Hx2.out).1
  have f8 := frozen_of_row w2 w.heap.size 8 _ 30 Hx2.out
  go_upto_region 3 with (fail)
  obtain ⟨Y, hY⟩ : ∃ Y, Y = w2.setCell ⟨w.heap.size, 8, none⟩ (.slice adu es.length capu) := ⟨_, rfl⟩
  rw [← hY]
  have HxY := Lib.hid (show Y.heap[w.heap.size]? = some (.cells (qcells (.slice ad1 fs.length cap1) down fuse fault size fr nx broken (.slice adu es.length capu) most) 30 (0, 0)) from by rw [hY]; exact heap_setCell_same _ _ 8 _ 30 _ Hx2.out)
  have HbY := Lib.hid (show Below w.heap.size w Y from by rw [hY]; exact Hb2.out.setCell (Nat.le_refl _) _)
  have HsY := Lib.hid (show Y.heap.size = w2.heap.size from by rw [hY]; simp [World.setCell])
  have HFY := Lib.hid (show FRow Y _ (.slice ad1 fs.length cap1) fs from by rw [hY]; exact HF2.out.set_far _ (fun e => by have := (Hnew.out _ e).1; omega))
  have HEY := Lib.hid (show ERow Y _ (.slice adu es.length capu) es from by rw [hY]; exact Hr2.out.set_far _ (fun e => by have := (Hun.out _ e).1; omega))
  clear hY d0 d1 d2 d3 d4 d5 d6 d7 d8 d9 hlx f8 Hr2 HF2 Hx2
  obtain ⟨d0, d1, d2, d3, d4, d5, d6, d7, d8, d9⟩ := box10 HxY.out
  have hlx := (Array.getElem?_eq_some_iff.1 HxY.out).1
  go_wp2
  go_ret
  have hb4 : Below Y.heap.size Y (Y.alloc (.cells (qcells (.slice ad1 fs.length cap1) down fuse fault size fr nx broken (.slice adu es.length capu) most) 139)) := (Below.refl _ Y).alloc (Nat.le_refl _) _
  obtain ⟨adq, capq, hvq, hIq⟩ := Inp.of_row HFY.out
  injection hvq with e1 _ e3
  subst e1 e3
  refine ⟨Y.heap.size, ad1, fs.length, cap1, (.slice adu es.length capu), rfl, ⟨blk_new Y _, ⟨⟨hIq.under hb4, HQ0.out.l.d.fit, HQ0.out.l.d.u0, HQ0.out.l.d.u1, HQ0.out.l.d.f0, HQ0.out.l.d.f1⟩, HQ0.out.l.s0, HQ0.out.l.s1, HQ0.out.l.f0, HQ0.out.l.f1, HQ0.out.l.n0, HQ0.out.l.n1⟩, ?_, ?_, ?_, ?_, ?_, ?_, ?_, HQ0.out.fit, HQ0.out.m⟩, ?_, HbY.out.trans (hb4.mono HbY.out.size)⟩
  · intro e; have h3 := (Hnew.out _ e).2; have h4 := HsX.out; have h5 := HXs.out; have h6 := HsY.out; omega
  · exact (World.ownsRow.mono HEY.out (by have := HbX.out.size; omega)).alloc _
  · intro e; have h3 := (HEY.out.lt _ e).2; omega
  · intro b e e2; have h3 := (Hnew.out _ e).2; have h4 := HsX.out; have h5 := (Hun.out _ e2).2; omega
  · intro b e; have h3 := (Hnew.out _ e).2; have h4 := HsX.out; have h5 := HXs.out; have h6 := HsY.out; simp; omega
  · intro b e; have := (Hnew.out _ e).1; omega
  · have := HbY.out.size; omega
  · intro b e; have := (Hnew.out _ e).1; omega
end Go.Proofs.YtkhmdofeonlnpaaGreatDoor

/- QUEUE: THE WALKS OVER fail.Unless, On; IndexFunc at entries, find, leased, lease, release. -/
namespace Go.Proofs.YtkhmdofeonlnpaaGreatDoor
open Go.RowKit
set_option maxRecDepth 100000
set_option linter.unusedVariables false
set_option linter.unusedSimpArgs false

abbrev pan (c : Int) : Ending := .panicked [{ v := .iface 35 (.int .i64 c), recovered := false }]
theorem unless_yes (e : Int) (w : World) : Calls Tryz.prog 78 #[.bool true, .int .i64 e] w fun en w' => en = .returned (.tuple #[]) ∧ w = w' := by
  go_enter Tryz.func78, Tryz.ntmps78
  go_wp2
  go_end0
  exact ⟨rfl, rfl⟩
theorem unless_no (e : Int) (w : World) : Calls Tryz.prog 78 #[.bool false, .int .i64 e] w fun en w' => en = pan e ∧ w = w' := by
  go_enter Tryz.func78, Tryz.ntmps78
  go_wp2
  exact ⟨rfl, rfl, rfl⟩
theorem on_ok (w : World) : Calls Tryz.prog 38 #[.int .i64 0] w fun en w' => en = .returned (.tuple #[]) ∧ w = w' := by
  go_enter Tryz.func38, Tryz.ntmps38
  go_wp2_with fail
  refine (unless_yes 0 w).mono ?_
  rintro e w' ⟨rfl, rfl⟩
  go_wp2
  go_end0
  exact ⟨rfl, rfl⟩
theorem on_no (c : Int) (hc : (c == 0) = false) (w : World) : Calls Tryz.prog 38 #[.int .i64 c] w fun en w' => en = pan c ∧ w = w' := by
  go_enter Tryz.func38, Tryz.ntmps38
  go_wp2_with fail
  refine (unless_no c w).mono ?_
  rintro e w' ⟨rfl, rfl⟩
  go_wp2
  exact ⟨rfl, rfl, rfl⟩
/-- how an operation ends: with its value, or with the error -/
def Ends (c : Int) (v : Value) (e : Ending) : Prop := (c = 0 ∧ e = .returned v) ∨ (c ≠ 0 ∧ e = pan c)

/-- a test of an entry: a closure -/
structure Test (C : Nat) (cap : Array Value) (p : E → Bool) (w : World) : Prop where
  ent : ∀ (args : Array Value) (W : World), (callFunc C args).run Tryz.prog W = .ok (.enter C args) W
  ok : ∀ (W : World) (e : E), Below w.heap.size w W → Calls Tryz.prog C (#[.agg #[.int .u64 (e.seq : Int), .string e.data, .bool e.leased]] ++ cap) W fun en w' => en = .returned (.bool (p e)) ∧ Below W.heap.size W w'
theorem Test.under {C : Nat} {cap : Array Value} {p : E → Bool} {w w' : World} (h : Test C cap p w) (hb : Below w.heap.size w w') : Test C cap p w' := ⟨h.ent, fun W e hW => h.ok W e (hb.trans (hW.mono hb.size))⟩
theorem test79 (w : World) : Test 81 #[] (fun e => !e.leased) w := ⟨fun args W => by kernel_rfl, fun W e _ => by
  show Calls Tryz.prog 81 #[.agg #[.int .u64 (e.seq : Int), .string e.data, .bool e.leased]] W _
  obtain ⟨s, d, b⟩ := e
  have hx := blk_new W (.cells #[.int .u64 (s : Int), .string d, .bool b] 39)
  have c2 := cell_of_row _ W.heap.size 2 _ 39 (0, 0) hx
  simp at c2
  clear hx
  cases b
  all_goals
    go_enter Tryz.func81, Tryz.ntmps81
    go_wp2
    go_ret
    exact ⟨rfl, (Below.refl _ W).alloc (Nat.le_refl _) _⟩⟩
theorem test107 (w : World) (bx s : Nat) (hbx : bx < w.heap.size) (hc : w.cell? ⟨bx, 0, none⟩ = some (.int .u64 (s : Int))) : Test 126 #[.pointer (some ⟨bx, 0, none⟩)] (fun e => e.leased && decide (e.seq = s)) w := ⟨fun args W => by kernel_rfl, fun W e hW => by
  show Calls Tryz.prog 126 #[.agg #[.int .u64 (e.seq : Int), .string e.data, .bool e.leased], .pointer (some ⟨bx, 0, none⟩)] W _
  obtain ⟨es, d, b⟩ := e
  have hx := blk_new W (.cells #[.int .u64 (es : Int), .string d, .bool b] 39)
  have c0 := cell_of_row _ W.heap.size 0 _ 39 (0, 0) hx
  have c2 := cell_of_row _ W.heap.size 2 _ 39 (0, 0) hx
  simp at c0 c2
  have hlb : bx < W.heap.size := Nat.lt_of_lt_of_le hbx hW.size
  have hcb : (W.alloc (.cells #[.int .u64 (es : Int), .string d, .bool b] 39)).cell? ⟨bx, 0, none⟩ = some (.int .u64 (s : Int)) := by
    refine (((Below.refl W.heap.size W).alloc (Nat.le_refl _) _).cell (p := ⟨bx, 0, none⟩) hlb).trans ?_
    exact (hW.cell (p := ⟨bx, 0, none⟩) hbx).trans hc
  clear hx hc
  cases b
  · go_enter Tryz.func126, Tryz.ntmps126
    go_wp2
    go_ret
    exact ⟨rfl, (Below.refl _ W).alloc (Nat.le_refl _) _⟩
  · by_cases h : es = s
    · have h1 : ((es : Int) == (s : Int)) = true := by simp [h]
      have h2 : (true && decide (es = s)) = true := by simp [h]
      show Calls Tryz.prog 126 _ W fun en w' => en = .returned (.bool (true && decide (es = s))) ∧ _
      rw [h2]
      clear h h2
      go_enter Tryz.func126, Tryz.ntmps126
      go_wp2
      go_ret
      exact ⟨rfl, (Below.refl _ W).alloc (Nat.le_refl _) _⟩
    · have h1 : ((es : Int) == (s : Int)) = false := by simp; omega
      have h2 : (true && decide (es = s)) = false := by simp [h]
      show Calls Tryz.prog 126 _ W fun en w' => en = .returned (.bool (true && decide (es = s))) ∧ _
      rw [h2]
      clear h h2
      go_enter Tryz.func126, Tryz.ntmps126
      go_wp2
      go_ret
      exact ⟨rfl, (Below.refl _ W).alloc (Nat.le_refl _) _⟩⟩

/-- the place, or -1 -/
def atI (o : Option Nat) : Int := match o with
  | some i => (i : Int)
  | none => -1
set_option maxHeartbeats 4000000 in
theorem index_any (w : World) (ad : Option Addr) (n cap : Nat) (es : List E) (he : EIn w w.heap.size ad n cap es) (h64 : n ≤ 2000) (C : Nat) (cp : Array Value) (p : E → Bool) (hT : Test C cp p w) :
    Calls Tryz.prog 125 #[.slice ad n cap, .func (.func C) #[] cp] w fun e w' => e = .returned (.int .i64 (atI (es.findIdx? p))) ∧ Below w.heap.size w w' := by
  have HE := Lib.hid he
  have Hn := Lib.hid he.1
  have HT := Lib.hid hT
  have hent := hT.ent
  clear he hT
  go_enter Tryz.func125, Tryz.ntmps125
  go_wp2
  go_loopw [8] (fun i wr => ∃ k : Nat, i = .int .i64 (k : Int) ∧ k ≤ n ∧ (∀ j e, j < k → es[j]? = some e → p e = false) ∧ Below w.heap.size w wr) (fun i _ => n - (intOf i).toNat)
  case atStart => exact ⟨0, rfl, Nat.zero_le _, fun j e hj => by omega, Below.refl _ _⟩
  case round =>
    obtain ⟨k, rfl, hk, hall, hbel⟩ := hrel
    have Hall := Lib.hid hall
    have Hbel := Lib.hid hbel
    clear hall hbel
    by_cases hlt : k < n
    · obtain ⟨e, he⟩ : ∃ e, es[k]? = some e := ⟨es[k]'(by have := Hn.out; omega), by simp⟩
      have hne : es ≠ [] := by rintro rfl; simp at he
      obtain ⟨g1, o1, rfl, hg1, hc1⟩ := (HE.out.2.2.2.keep Hbel.out) hne
      obtain ⟨q0, q1, q2⟩ := hc1 k e he
      have Hek := Lib.hid he
      clear he hc1 hne
      go_wp2_with fail
      refine (HT.out.ok _ e Hbel.out).mono ?_
      rintro en w1 ⟨rfl, hb1⟩
      have Hb1 := Lib.hid (Hbel.out.trans (hb1.mono Hbel.out.size))
      clear hb1 q0 q1 q2
      obtain ⟨b, hb⟩ : ∃ b, p e = b := ⟨_, rfl⟩
      rw [hb]
      have HB := Lib.hid hb
      clear hb
      cases b with
      | true =>
        have hfin : es.findIdx? p = some k := by
          rw [List.findIdx?_eq_some_iff_getElem]
          have hl : k < es.length := by have := Hn.out; omega
          refine ⟨hl, ?_, fun j hj => ?_⟩
          · have := (List.getElem?_eq_some_iff.1 Hek.out).2
            rw [this]; exact HB.out
          · have := Hall.out j _ hj (List.getElem?_eq_getElem (by omega))
            rw [this]; decide
        have Hfin := Lib.hid hfin
        clear hfin
        go_wp2
        go_ret
        exact ⟨by rw [Hfin.out]; rfl, Hb1.out⟩
      | false =>
        go_wp2
        go_roundw
        case rel =>
          refine ⟨k + 1, by go_num, by omega, fun j x hj hjx => ?_, Hb1.out⟩
          rcases Nat.lt_or_ge j k with q | q
          · exact Hall.out j x q hjx
          · obtain rfl : j = k := by omega
            rw [Hek.out] at hjx
            injection hjx with hjx
            subst hjx
            exact HB.out
        case measure => simp [intOf]; omega
    · have hkn : k = n := by omega
      have hfin : es.findIdx? p = none := by
        rw [List.findIdx?_eq_none_iff]
        intro x hx
        obtain ⟨j, hj, rfl⟩ := List.mem_iff_getElem.1 hx
        exact Hall.out j _ (by have := Hn.out; omega) (List.getElem?_eq_getElem hj)
      have Hfin := Lib.hid hfin
      clear hfin
      go_wp2
      go_ret
      exact ⟨by rw [Hfin.out]; rfl, Hbel.out⟩

/-- a place, or the error -/
def FnP (o : Option Nat) (why : Int) (w : World) (e : Ending) (w' : World) : Prop := ((∃ i, o = some i ∧ e = .returned (.int .i64 (i : Int))) ∨ (o = none ∧ e = pan why)) ∧ Below w.heap.size w w'
/-- find: the place, or the error -/
theorem qfind_any (w : World) (base g : Nat) (ad : Option Addr) (n cap : Nat) (u : Value) (q : Q) (h : QAt w base g ad n cap u q) (h64 : q.es.length ≤ 2000) (why : Int) (C : Nat) (cp : Array Value) (p : E → Bool) (hT : Test C cp p w) :
    Calls Tryz.prog 80 #[.pointer (some ⟨g, 0, none⟩), .int .i64 why, .func (.func C) #[] cp] w (FnP (q.es.findIdx? p) why w) := by
  have H := Lib.hid h
  have HT := Lib.hid hT
  obtain ⟨adu, capu, hu, hE⟩ := EIn.of_row h.row
  subst hu
  have HE := Lib.hid hE
  obtain ⟨N, hN⟩ : ∃ N, q.es.length = N := ⟨_, rfl⟩
  rw [hN] at hE h64
  have HN := Lib.hid hN
  obtain ⟨d0, d1, d2, d3, d4, d5, d6, d7, d8, d9⟩ := box10 h.h
  rw [hN] at d8
  have hlg := h.lt
  clear h hT hE hN
  go_enter Tryz.func80, Tryz.ntmps80
  go_wp2_with fail
  refine (index_any w adu N capu q.es (by rw [← HN.out]; exact HE.out) h64 C cp p HT.out).mono ?_
  rintro e w1 ⟨rfl, hb1⟩
  have Hb1 := Lib.hid hb1
  clear hb1 d0 d1 d2 d3 d4 d5 d6 d7 d8 d9
  cases hf : q.es.findIdx? p with
  | none =>
    have Hf := Lib.hid hf
    rw [show atI none = -1 from rfl]
    clear hf
    go_wp2_with fail
    refine (unless_no why w1).mono ?_
    rintro e w2 ⟨rfl, rfl⟩
    go_wp2
    exact ⟨rfl, .inr ⟨Hf.out, rfl⟩, Hb1.out⟩
  | some i =>
    have hi : i < N := by
      have := (List.findIdx?_eq_some_iff_getElem.1 hf).1
      rw [HN.out] at this; exact this
    have Hf := Lib.hid hf
    rw [show atI (some i) = (i : Int) from rfl]
    have hi0 : (0 : Int) ≤ (i : Int) := by omega
    clear hf
    go_wp2_with fail
    refine (unless_yes why w1).mono ?_
    rintro e w2 ⟨rfl, rfl⟩
    go_wp2
    go_ret
    exact ⟨.inl ⟨i, Hf.out, rfl⟩, Hb1.out⟩
/-- leased: where an entry is that is leased, and of that number -/
theorem leased_any (w : World) (base g : Nat) (ad : Option Addr) (n cap : Nat) (u : Value) (q : Q) (h : QAt w base g ad n cap u q) (h64 : q.es.length ≤ 2000) (s : Nat) (hs : s < 18446744073709551616) :
    Calls Tryz.prog 82 #[.pointer (some ⟨g, 0, none⟩), .int .u64 (s : Int)] w (FnP (heldAt q.es s) 19 w) := by
  have hb0 : Below w.heap.size w (w.alloc (.cells #[.int .u64 (s : Int)] 25)) := (Below.refl _ w).alloc (Nat.le_refl _) _
  have hx := blk_new w (.cells #[.int .u64 (s : Int)] 25)
  have hc := cell_of_one hx
  have hT := test107 (w.alloc (.cells #[.int .u64 (s : Int)] 25)) w.heap.size s (by simp) hc
  have HF := Lib.hid (qfind_any (w.alloc (.cells #[.int .u64 (s : Int)] 25)) base g ad n cap u q (h.under hb0) h64 19 126 #[.pointer (some ⟨w.heap.size, 0, none⟩)] (fun e => e.leased && decide (e.seq = s)) hT)
  have Hb0 := Lib.hid hb0
  clear hb0 hx hc hT h
  have hmf : ∀ (fn : Fn) (first cap : Array Value) (w : World), (Instr.makeFunc fn first cap).run Tryz.prog w = .ok (.func fn first cap) w := fun _ _ _ _ => rfl
  go_enter Tryz.func82, Tryz.ntmps82
  go_wp2_with fail
  refine HF.out.mono ?_
  rintro e w1 ⟨⟨i, hi, rfl⟩ | ⟨hi, rfl⟩, hb1⟩
  · have Hi := Lib.hid hi
    have Hb1 := Lib.hid (Hb0.out.trans (hb1.mono Hb0.out.size))
    clear hi hb1
    go_wp2
    go_ret
    exact ⟨.inl ⟨i, Hi.out, rfl⟩, Hb1.out⟩
  · have Hi := Lib.hid hi
    have Hb1 := Lib.hid (Hb0.out.trans (hb1.mono Hb0.out.size))
    clear hi hb1
    go_wp2
    exact ⟨rfl, .inr ⟨Hi.out, rfl⟩, Hb1.out⟩
theorem ec_set2 : ∀ (es : List E) (i : Nat) (f : E) (b : Bool), es[i]? = some f → (es.flatMap ec).set (i * 3 + 2) (.bool b) = (es.set i { f with leased := b }).flatMap ec
  | [], i, f, b, h => by simp at h
  | x :: t, 0, f, b, h => by
    simp at h
    subst h
    rw [List.set_cons_zero, List.flatMap_cons, List.flatMap_cons]
    rfl
  | x :: t, i + 1, f, b, h => by
    rw [List.set_cons_succ, List.flatMap_cons, List.flatMap_cons, List.set_append_right _ _ (by simp [ec]; omega), show (i + 1) * 3 + 2 - (ec x).length = i * 3 + 2 by simp [ec]; omega, ec_set2 t i f b (by simpa using h)]
/-- an entry's mark is stored -/
theorem QAt.mark {w : World} {base g : Nat} {ad : Option Addr} {n cap : Nat} {gu capu nu : Nat} {q : Q} (h : QAt w base g ad n cap (.slice (some ⟨gu, 0, none⟩) nu capu) q) {i : Nat} {e : E} (he : q.es[i]? = some e) (b : Bool) :
    QAt (w.setCell ⟨gu, i * 3 + 2, none⟩ (.bool b)) base g ad n cap (.slice (some ⟨gu, 0, none⟩) nu capu) ⟨q.l, q.es.set i { e with leased := b }, q.most⟩ := by
  have hne : q.es ≠ [] := by rintro e1; rw [e1] at he; simp at he
  obtain ⟨g', cap', hv, hbg, hgl, hc, hat, hfz, hset⟩ := h.row.blk hne
  injection hv with e1 e2 e3
  injection e1 with e1
  injection e1 with e1 _ _
  subst e1
  have hgg : g ≠ gu := fun e => h.uo (by rw [e]; rfl)
  obtain ⟨hr, hgr⟩ := hset (i * 3 + 2) (.bool b)
  refine ⟨(Below.heap_setCell w ⟨gu, _, none⟩ _ g hgg).trans h.h, ⟨⟨(h.l.d.i.set (fun e => h.vu _ e rfl)).mono (by simp [World.setCell]), h.l.d.fit, h.l.d.u0, h.l.d.u1, h.l.d.f0, h.l.d.f1⟩, h.l.s0, h.l.s1, h.l.f0, h.l.f1, h.l.n0, h.l.n1⟩, h.vo, ?_, h.uo, h.vu, fun b e => by have := h.vl b e; simpa [World.setCell] using this, h.vb, h.bg, ?_, h.m⟩
  · have h1 := hr
    unfold ERowAt at h1
    rw [ec_set2 q.es i e b he] at h1
    exact ERow.of_own h1
  · intro x hx
    rcases List.mem_or_eq_of_mem_set hx with q1 | q1
    · exact h.fit x q1
    · subst q1; exact h.fit e (List.mem_of_getElem? he)
/-- what an operation leaves: the queue, the list of its files, its entries, elsewhere all as it was -/
def Left (w : World) (base g : Nat) (u : Value) (q : Q) (w' : World) : Prop := ∃ ad n cap u', QAt w' base g ad n cap u' q ∧ Kq g u w w' ∧ OwnOr w u u'
theorem blk3 {w : World} {g : Nat} {x0 x1 x2 : Value} {t : TypeId} (h : w.heap[g]? = some (.cells #[x0, x1, x2] t (0, 0))) :
    (w.cell? ⟨g, 0, none⟩ = some x0 ∧ w.cell? ⟨g, 1, none⟩ = some x1 ∧ w.cell? ⟨g, 2, none⟩ = some x2) ∧ (w.frozen? ⟨g, 0, none⟩ = false ∧ w.frozen? ⟨g, 1, none⟩ = false ∧ w.frozen? ⟨g, 2, none⟩ = false) :=
  ⟨⟨cell_of_row w g 0 _ t (0, 0) h, cell_of_row w g 1 _ t (0, 0) h, cell_of_row w g 2 _ t (0, 0) h⟩, frozen_of_row w g 0 _ t h, frozen_of_row w g 1 _ t h, frozen_of_row w g 2 _ t h⟩
theorem put3 {w : World} {g : Nat} {x0 x1 x2 : Value} {t : TypeId} (h : w.heap[g]? = some (.cells #[x0, x1, x2] t (0, 0))) (v0 v1 v2 : Value) :
    (((w.setCell ⟨g, 0, none⟩ v0).setCell ⟨g, 1, none⟩ v1).setCell ⟨g, 2, none⟩ v2).heap[g]? = some (.cells #[v0, v1, v2] t (0, 0)) :=
  heap_setCell_same _ g 2 _ t _ (heap_setCell_same _ g 1 _ t _ (heap_setCell_same w g 0 _ t _ h))

end Go.Proofs.YtkhmdofeonlnpaaGreatDoor
