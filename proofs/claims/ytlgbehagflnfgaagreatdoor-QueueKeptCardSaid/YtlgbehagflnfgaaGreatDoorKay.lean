/- QUEUE: the package's variables, from what the row lists; texts that came in. -/
import Derived.Test.YtlgbehagflnfgaaGreatDoorKax
import Derived.Test.YtlgbehagflnfgaaGreatDoorRows
import Derived.Lib.LaidU8
import Derived.LaidLaws
import Derived.SliceStrings
import Derived.LaidMore
namespace Go.Proofs.YtlgbehagflnfgaaGreatDoor
open Go.RowKit Go.ChangeShapes Go.WideShapes Go.Deep Joins
set_option linter.unusedVariables false
set_option linter.unusedSimpArgs false
set_option maxRecDepth 100000
def nibZ : List Int := (List.range 16).map fun i => (nib i : Int)
theorem nib_data : (Rows.laid_penstock_segment_nibbles : DataW Unit) = Lib.tabData .u32 nibZ := by rfl
theorem iface_at {w : World} {name tn : String} {g : Nat} {d : DataW Unit} (hg : Tryz.prog.globalNamed name = some g) (hty : (Tryz.prog.globals[g]?).map (·.type) = some 184) (h : Lib.VarReads Tryz.prog w name (.iface tn d)) : ∃ te pe, w.cell? ⟨g, 0, none⟩ = some (.iface te pe) := by
 obtain ⟨g', t, cs, fuel, p, h1, h2, h3, h4⟩ := h
 obtain rfl := Option.some.inj (hg.symm.trans h1)
 obtain rfl := Option.some.inj (hty.symm.trans h2)
 obtain ⟨_, u, v, e, _, _⟩ := iface_of_trod (ms := #[("Error", 237)]) (by kernel_rfl) h4
 refine ⟨u, v, ?_⟩
 have h5 : w.var? Tryz.prog name = some ([Value.iface u v]).toArray := by rw [h3, ← e]
 have := World.var?_cell hg h5 0
 simpa using this
theorem seg_tabs {w : World} {l : List (String × DataW Unit)} (h : laidMet Tryz.prog l w) (h0 : ("penstock/segment.nibbles", Rows.laid_penstock_segment_nibbles) ∈ l)
  (h2 : ("strconv.ErrSyntax", Rows.laid_strconv_ErrSyntax) ∈ l) (h3 : ("strconv.ErrRange", Rows.laid_strconv_ErrRange) ∈ l) (h9 : ("internal/strconv.uint64pow10", Rows.laid_internal_strconv_uint64pow10) ∈ l) : Tabs w := by
 have e2 := iface_at (g := 0) (by kernel_rfl) (by kernel_rfl) (Lib.laidMet.reads h h2)
 have e3 := iface_at (g := 1) (by kernel_rfl) (by kernel_rfl) (Lib.laidMet.reads h h3)
 refine ⟨fun i hi => ?_, e2, e3, ?_⟩
 ·obtain ⟨g', t, cs, fuel, p, h1, h2, h3, h4⟩ := Lib.laidMet.reads h h0
  have hg : Tryz.prog.globalNamed "penstock/segment.nibbles" = some 2 := by kernel_rfl
  have hty : (Tryz.prog.globals[2]?).map (·.type) = some 219 := by kernel_rfl
  obtain rfl := Option.some.inj (hg.symm.trans h1)
  obtain rfl := Option.some.inj (hty.symm.trans h2)
  rw [nib_data] at h4
  have e := Lib.cells_of_tab (n := 16) (e := 182) (by kernel_rfl) (by kernel_rfl) (by kernel_rfl) (by kernel_rfl) h4
  have ht : Lib.TabIs Tryz.prog w "penstock/segment.nibbles" .u32 nibZ := by unfold Lib.TabIs; rw [h3, ← e]
  have := ht.cell hg i (by simp [nibZ]; exact hi)
  rw [this]
  simp [nibZ, hi]
 ·obtain ⟨g', t, cs, fuel, p, h1, h2, h3, h4⟩ := Lib.laidMet.reads h h9
  have hg : Tryz.prog.globalNamed "internal/strconv.uint64pow10" = some 4 := by kernel_rfl
  obtain rfl := Option.some.inj (hg.symm.trans h1)
  have h5 := h3
  simp only [World.var?, hg, Option.bind_some] at h5
  split at h5
  ·rename_i hh
   have := (Array.getElem?_eq_some_iff.1 hh).1
   omega
  ·cases h5
section
variable {H : Type} {enc : TypeId × Value → H} {w : World}
end
end Go.Proofs.YtlgbehagflnfgaaGreatDoor

/- QUEUE: ARGUMENTS OPENED: queues, steps. -/
namespace Go.Proofs.YtlgbehagflnfgaaGreatDoor
open Go.RowKit Go.ChangeShapes Go.WideShapes Go.Deep Joins
set_option linter.unusedVariables false
set_option linter.unusedSimpArgs false
set_option maxRecDepth 100000

theorem Tryz.cells25 : Tryz.prog.cellsOf 25 = 1 := by kernel_rfl
theorem Tryz.cells33 : Tryz.prog.cellsOf 33 = 3 := by kernel_rfl
section
variable {H : Type} {enc : TypeId × Value → H} {w : World}
theorem open_qstep {r : Reach} {b0 : Nat} {v : Value} {d : DataW H} {p : List MemPlace} (hv : Value.okWide Tryz.prog w r b0 33 v) (h : DataW.Trod enc Tryz.prog w 0 (fun _ => true) true 33 v d p) (hw : ∀ k ∈ d.weights Tryz.prog 33, k ≤ reachBytes) :
  ∃ k dt s, v = .agg (stepC k dt s) ∧ dt.size ≤ 9223372036854775000 ∧ s < 18446744073709551616 ∧ 0 ≤ k ∧ k ≤ 255 := by
 obtain ⟨v0, v1, v2, y0, y1, y2, n, rfl, rfl, _, h0, h1, h2⟩ := Joins.open_agg3 Tryz.underlying33 (by kernel_rfl) Tryz.cells33 hv h
 obtain ⟨k, e0, _, w0⟩ := DataW.trod_int Tryz.underlying31 h0
 obtain ⟨s1, e1, hy1, w1⟩ := DataW.trod_string Tryz.underlying9 h1
 obtain ⟨z, e2, _, w2⟩ := DataW.trod_int Tryz.underlying25 h2
 simp only [List.cons.injEq, and_true] at e0 e1 e2
 subst e0 e1 e2
 have b0 := bounds_u8 w0
 have b2 := bounds_u64 w2
 obtain ⟨m, rfl⟩ : ∃ m : Nat, z = (m : Int) := ⟨z.toNat, by omega⟩
 have hsz : s1.size ≤ reachBytes := by
  refine hw _ ?_
  subst hy1
  simp [DataW.weights, DataW.weightsEach, Tryz.underlying33]
 have h47 := reachBytes_lt
 exact ⟨k, s1, m, rfl, by omega, by omega, b0.1, b0.2⟩
end
end Go.Proofs.YtlgbehagflnfgaaGreatDoor

/- QUEUE: steps that came in, and the form's own reach. -/
namespace Go.Proofs.YtlgbehagflnfgaaGreatDoor
open Go.RowKit Go.ChangeShapes Go.WideShapes Go.Deep Joins
set_option linter.unusedVariables false
set_option linter.unusedSimpArgs false
set_option maxRecDepth 100000

/-- a step of a caller's -/
structure TS where
 k : Int
 d : ByteArray
 s : Nat
structure TFit (x : TS) : Prop where
 d : x.d.size ≤ 9223372036854775000
 s : x.s < 18446744073709551616
 k0 : 0 ≤ x.k
 k1 : x.k ≤ 255
structure At3t (w : World) (g off i : Nat) (x : TS) : Prop where
 q0 : w.cell? ⟨g, off + i * 3, none⟩ = some (.int .u8 x.k)
 q1 : w.cell? ⟨g, off + i * 3 + 1, none⟩ = some (.string x.d)
 q2 : w.cell? ⟨g, off + i * 3 + 2, none⟩ = some (.int .u64 (x.s : Int))
/-- at ad lie the steps -/
def Stp (w : World) (ad : Option Addr) (xs : List TS) : Prop := xs ≠ [] → ∃ g off, ad = some ⟨g, off, none⟩ ∧ g < w.heap.size ∧ ∀ i x, xs[i]? = some x → At3t w g off i x
theorem Stp.under {w w' : World} {ad : Option Addr} {xs : List TS} (h : Stp w ad xs) (hb : Below w.heap.size w w') : Stp w' ad xs := fun hne => by
 obtain ⟨g, off, e, hg, hi⟩ := h hne
 exact ⟨g, off, e, Nat.lt_of_lt_of_le hg hb.size, fun i x hx => ⟨(hb.cell (p := ⟨g, _, none⟩) hg).trans (hi i x hx).q0, (hb.cell (p := ⟨g, _, none⟩) hg).trans (hi i x hx).q1, (hb.cell (p := ⟨g, _, none⟩) hg).trans (hi i x hx).q2⟩⟩
theorem Tryz.bytes33 : Tryz.prog.bytesOf 33 = 32 := by kernel_rfl
section
variable {H : Type} {enc : TypeId × Value → H} {w : World}
theorem open_step1 {base : Nat} {spare : Nat → Bool} {held : Bool} {fuel : Nat} {cs : List Value} {x : DataW H × List MemPlace} (h : DataW.trod enc Tryz.prog w base spare held fuel 33 cs = some x) (hw : ∀ k ∈ x.1.weights Tryz.prog 33, k ≤ reachBytes) :
  ∃ f : TS, TFit f ∧ cs = [.int .u8 f.k, .string f.d, .int .u64 (f.s : Int)] := by
 obtain ⟨y0, y1, y2, n, rfl, hlen, h0, h1, h2⟩ := Deep.trod_struct3 Tryz.underlying33 h
 rw [Tryz.cells33] at hlen
 obtain ⟨c0, c1, c2, rfl⟩ := list3 hlen
 simp [show Tryz.prog.cellsOf 31 = 1 from by kernel_rfl, Tryz.cells25, Tryz.cells9] at h0 h1 h2
 obtain ⟨n0, e0, _, w0⟩ := DataW.trod_int Tryz.underlying31 h0
 obtain ⟨s1, e1, hy1, w1⟩ := DataW.trod_string Tryz.underlying9 h1
 obtain ⟨z, e2, _, w2⟩ := DataW.trod_int Tryz.underlying25 h2
 simp only [List.cons.injEq, and_true] at e0 e1 e2
 subst e0 e1 e2
 have b0 := bounds_u8 w0
 have b2 := bounds_u64 w2
 obtain ⟨m, rfl⟩ : ∃ m : Nat, z = (m : Int) := ⟨z.toNat, by omega⟩
 have hsz : s1.size ≤ reachBytes := by
  refine hw _ ?_
  simp only [DataW.weights, Tryz.underlying33]
  subst hy1
  simp [DataW.weights, DataW.weightsEach]
 have h47 := reachBytes_lt
 exact ⟨⟨n0, s1, m⟩, ⟨by show s1.size ≤ _; omega, by show m < _; omega, b0.1, b0.2⟩, rfl⟩
theorem weightsAll_mem {P : Program} {e : TypeId} : ∀ {l : List (DataW H)} {d : DataW H}, d ∈ l → ∀ k ∈ d.weights P e, k ∈ DataW.weightsAll P e l
 | a :: t, d, h, k, hk => by
  rw [DataW.weightsAll, List.mem_append]
  rcases List.mem_cons.1 h with q | q
  ·subst q; exact .inl hk
  ·exact .inr (weightsAll_mem q k hk)
theorem open_steps {v : Value} {d : DataW H} {p : List MemPlace} {r : Reach} {b0 : Nat} (hv : Value.okWide Tryz.prog w r b0 46 v) (h : DataW.Trod enc Tryz.prog w 0 (fun _ => true) true 46 v d p) (hw : ∀ k ∈ d.weights Tryz.prog 46, k ≤ reachBytes) :
  ∃ ad n cap xs, v = .slice ad n cap ∧ n = xs.length ∧ Stp w ad xs ∧ n ≤ 4398046511104 ∧ ∀ x ∈ xs, TFit x := by
 obtain ⟨ad0, len0, cap0, rfl⟩ := okWide_slice Tryz.underlying46 hv
 obtain ⟨fuel, hf⟩ := h
 rcases Deep.open_slice Tryz.underlying46 hf with ⟨hcs, _⟩ | ⟨a, len, cap, m, n, D, Pl, hcs, _, hl, hm, hmm, hx, hi⟩
 ·simp [Value.cells] at hcs
  obtain ⟨rfl, rfl, rfl⟩ := hcs
  exact ⟨none, 0, 0, [], rfl, rfl, fun h => absurd rfl h, by omega, fun f hf => by cases hf⟩
 ·simp [Value.cells] at hcs
  obtain ⟨rfl, rfl, rfl⟩ := hcs
  simp only [if_true] at hmm
  subst hmm
  rw [Tryz.cells33] at hi
  injection hx with hd _
  subst hd
  have h47 := reachBytes_lt
  have hbig := hw ((((List.range len0).map D).length + ((List.range (m - len0)).map fun j => D (len0 + j)).length) * Tryz.prog.bytesOf 33) (by simp [DataW.weights, Tryz.underlying46])
  rw [Tryz.bytes33] at hbig
  simp only [List.length_map, List.length_range] at hbig
  have hlb : len0 ≤ 4398046511104 := by omega
  by_cases h0 : len0 = 0
  ·subst h0
   exact ⟨_, 0, _, [], rfl, rfl, fun h => absurd rfl h, by omega, fun f hf => by cases hf⟩
  obtain ⟨b, off, spot⟩ := a
  have hs : spot = none := by
   obtain ⟨cs', hc, _⟩ := hi 0 (by omega)
   obtain ⟨_, hlc, hcell⟩ := World.cells?_some hc
   have hc0 := hcell 0 (by omega)
   have he : cs'[0]? = some (cs'[0]'(by omega)) := by simp
   rw [he] at hc0
   simpa [Addr.add] using World.cell?_spot hc0
  subst hs
  have hP : ∀ i, i < len0 → ∃ f : TS, TFit f ∧ b < w.heap.size ∧ At3t w b off i f := by
   intro i hil
   obtain ⟨cs', hc, ht⟩ := hi i (by omega)
   obtain ⟨f, hfit, rfl⟩ := open_step1 ht (fun k hk => hw k (by
    rw [DataW.weights, Tryz.underlying46]
    exact List.mem_cons_of_mem _ (List.mem_append_left _ (weightsAll_mem (d := D i) (List.mem_map.2 ⟨i, List.mem_range.2 hil, rfl⟩) k hk))))
   obtain ⟨_, _, hcell⟩ := World.cells?_some hc
   have hc0 := hcell 0 (by omega)
   have hc1 := hcell 1 (by omega)
   have hc2 := hcell 2 (by omega)
   simp only [Addr.add_lit] at hc0 hc1 hc2
   exact ⟨f, hfit, World.block_lt_of_cell? w _ hc0, hc0, hc1, hc2⟩
  obtain ⟨xs, hfl, hfs⟩ := list_choose len0 hP
  refine ⟨_, _, _, xs, rfl, hfl.symm, fun hne => ?_, hlb, fun f hf => ?_⟩
  ·have h0 : 0 < xs.length := List.length_pos_iff.2 hne
   obtain ⟨_, hb, _⟩ := hfs 0 xs[0] (by simp)
   exact ⟨b, off, rfl, hb, fun i f hf => (hfs i f hf).2.2⟩
  ·obtain ⟨i, hi'⟩ := List.getElem?_of_mem hf
   exact (hfs i f hi').1
end
end Go.Proofs.YtlgbehagflnfgaaGreatDoor

/- QUEUE, MATHEMATICS: what was put is leased and acked in order. -/
namespace Go.Proofs.YtlgbehagflnfgaaGreatDoor
open Go.RowKit
set_option maxRecDepth 100000
set_option linter.unusedVariables false
set_option linter.unusedSimpArgs false

end Go.Proofs.YtlgbehagflnfgaaGreatDoor

/- QUEUE: texts of the call's own; a queue's variable beside them. -/
namespace Go.Proofs.YtlgbehagflnfgaaGreatDoor
open Go.RowKit
set_option maxRecDepth 100000
set_option linter.unusedVariables false
set_option linter.unusedSimpArgs false

/-- the slice v of the call's own has the texts ss -/
def SRow (w : World) (base : Nat) (v : Value) (ss : List ByteArray) : Prop := w.ownsRow base 9 1 v ss.length (ss.map Value.string)
theorem SRow.lt {w : World} {base : Nat} {v : Value} {ss : List ByteArray} (h : SRow w base v ss) : ∀ k, v.ownBlock = some k → base ≤ k ∧ k < w.heap.size := World.ownsRow.lt h
theorem SRow.kept {w w' : World} {base : Nat} {v : Value} {ss : List ByteArray} {row : Option Nat} (h : SRow w base v ss) (hg : w.grownBy w' row) (hne : v.ownBlock = none ∨ v.ownBlock ≠ row) : SRow w' base v ss := World.ownsRow.kept h hg hne
theorem SRow.under {w w' : World} {base : Nat} {v : Value} {ss : List ByteArray} (h : SRow w base v ss) (hb : Below w.heap.size w w') : SRow w' base v ss :=
 h.kept (row := none) ⟨hb.os, hb.tape, hb.output, hb.size, fun k hk _ => hb.block k hk⟩ (by cases e : v.ownBlock <;> simp)
theorem QV.lts {w W : World} {g : Nat} {q : Q} {ad : Option Addr} {n cap : Nat} {be : Option Addr} {m cp : Nat} (h : QV w W g q ad n cap be m cp) : (q.l.d.files ≠ [] → ∀ b, (Value.slice ad n cap).ownBlock = some b → b < W.heap.size) ∧ (q.es ≠ [] → ∀ b, (Value.slice be m cp).ownBlock = some b → b < W.heap.size) := by
 refine ⟨fun hne b e => h.i.l.d.i.own_lt hne b e, fun hne b e => ?_⟩
 obtain ⟨g, off, rfl, hg, _⟩ := h.i.e.2.2.2 hne
 simp [Value.ownBlock] at e
 omega
/-- a slice of ours grows -/
theorem QV.grown {w W W' : World} {g : Nat} {q : Q} {ad : Option Addr} {n cap : Nat} {be : Option Addr} {m cp : Nat} (h : QV w W g q ad n cap be m cp) {row : Option Nat} (hg : W.grownBy W' row)
  (hr : ∀ r, row = some r → w.heap.size ≤ r ∧ r ≠ g ∧ (q.l.d.files ≠ [] → (Value.slice ad n cap).ownBlock ≠ some r) ∧ (q.es ≠ [] → (Value.slice be m cp).ownBlock ≠ some r)) : QV w W' g q ad n cap be m cp := by
 obtain ⟨l1, l2⟩ := h.lts
 have hgl := (Array.getElem?_eq_some_iff.1 h.h).1
 refine ⟨(hg.block g hgl (fun e => (hr g e.symm).2.1 rfl)).trans h.h, ⟨⟨⟨(h.i.l.d.i.same2 (fun hne b e => hg.block b (l1 hne b e) (fun er => (hr b er.symm).2.2.1 hne e))).mono hg.size, h.i.l.d.fit, h.i.l.d.u0, h.i.l.d.u1, h.i.l.d.f0, h.i.l.d.f1⟩, h.i.l.s0, h.i.l.s1, h.i.l.f0, h.i.l.f1, h.i.l.n0, h.i.l.n1⟩, ?_, h.i.fit, h.i.m⟩, ?_, h.g⟩
 ·refine EIn.mono (B := W.heap.size) ?_ hg.size
  by_cases he : q.es = []
  ·refine ⟨h.i.e.1, h.i.e.2.1, h.i.e.2.2.1, ?_⟩
   rw [he]; exact Els.nil _ _ _
  ·exact h.i.e.same (fun b e => hg.block b (l2 he b e) (fun er => (hr b er.symm).2.2.2 he e))
 ·exact ⟨hg.os.trans h.b.os, hg.tape.trans h.b.tape, hg.output.trans h.b.output, Nat.le_trans h.b.size hg.size, fun k hk => (hg.block k (Nat.lt_of_lt_of_le hk h.b.size) (fun e => by have := (hr k e.symm).1; omega)).trans (h.b.block k hk)⟩
end Go.Proofs.YtlgbehagflnfgaaGreatDoor

/- QUEUE: THE WALK OVER QueueOrder. -/
namespace Go.Proofs.YtlgbehagflnfgaaGreatDoor
open Go.RowKit
set_option maxRecDepth 100000
set_option linter.unusedVariables false
set_option linter.unusedSimpArgs false

theorem openQ_bad {size most : Int} (h : ¬ ((1 ≤ size ∧ size ≤ 262144) ∧ 1 ≤ most ∧ most ≤ 1024)) : (openQ ⟨[], false, -1, -1⟩ size most).2 = 2 := by
 unfold openQ
 rw [if_neg (fun h => h right_nil)]
 by_cases hm : 1 ≤ most ∧ most ≤ 1024
 ·have hs : ¬ (1 ≤ size ∧ size ≤ 262144) := fun hs => h ⟨hs, hm⟩
  have ho : (openM ⟨[], false, -1, -1⟩ size).2.2 = 2 := by
   unfold openM
   rw [if_neg (fun h => h right_nil), if_pos hs]
  rw [if_neg (fun h => h hm), if_pos (by rw [ho]; decide), ho]
 ·rw [if_pos hm]
end Go.Proofs.YtlgbehagflnfgaaGreatDoor

/- QUEUE: THE WALK OVER QueueKept. -/
namespace Go.Proofs.YtlgbehagflnfgaaGreatDoor
open Go.RowKit
set_option maxRecDepth 100000
set_option linter.unusedVariables false
set_option linter.unusedSimpArgs false

theorem ki_mono {size most : Int} {i j : Nat} {want : List E} {q : Q} (h : KI size most i want q) (hij : i ≤ j) : KI size most j want q := by
 obtain ⟨fs, fr, rs, hg, h1, h2⟩ := h
 exact ⟨fs, fr, rs, hg.mono (by omega), h1, h2⟩
theorem ki_len {size most : Int} {i : Nat} {want : List E} {q : Q} (h : KI size most i want q) : want.length ≤ 1024 := by
 obtain ⟨fs, fr, rs, hg, h1, h2⟩ := h
 rw [h1, ← hg.es, List.length_map]; exact hg.ln
/-- a queue's lists do not lie in that block -/
def Ng (g : Nat) (ad : Option Addr) (n cap : Nat) (be : Option Addr) (m cp : Nat) (q : Q) : Prop := (q.l.d.files ≠ [] → (Value.slice ad n cap).ownBlock ≠ some g) ∧ (q.es ≠ [] → (Value.slice be m cp).ownBlock ≠ some g)
theorem QV.fuse {w W : World} {g : Nat} {q : Q} {ad : Option Addr} {n cap : Nat} {be : Option Addr} {m cp : Nat} (h : QV w W g q ad n cap be m cp) (hn : Ng g ad n cap be m cp q) {fuse fault : Int} (hu : Num fuse) (ha : Num fault) {G : World} (hG : G = (W.setCell ⟨g, 2, none⟩ (.int .i64 fuse)).setCell ⟨g, 3, none⟩ (.int .i64 fault)) :
  QV w G g (fuseQ q fuse fault) ad n cap be m cp ∧ (∀ b, b ≠ g → G.heap[b]? = W.heap[b]?) ∧ G.heap.size = W.heap.size := by
 have hoth : ∀ b, b ≠ g → G.heap[b]? = W.heap[b]? := fun b hb => by
  rw [hG]
  exact (Below.heap_setCell _ ⟨g, 3, none⟩ _ b hb).trans (Below.heap_setCell W ⟨g, 2, none⟩ _ b hb)
 have hsz : G.heap.size = W.heap.size := by rw [hG]; simp [World.setCell]
 refine ⟨⟨?_, ⟨⟨⟨(h.i.l.d.i.same2 (fun hne b e => hoth b (fun e2 => hn.1 hne (e2 ▸ e)))).mono (Nat.le_of_eq hsz.symm), h.i.l.d.fit, hu.1, hu.2, ha.1, ha.2⟩, h.i.l.s0, h.i.l.s1, h.i.l.f0, h.i.l.f1, h.i.l.n0, h.i.l.n1⟩, ?_, h.i.fit, h.i.m⟩, ?_, h.g⟩, hoth, hsz⟩
 ·rw [hG]
  exact heap_setCell_same _ g 3 _ 30 _ (heap_setCell_same W g 2 _ 30 _ h.h)
 ·refine EIn.mono (B := W.heap.size) ?_ (Nat.le_of_eq hsz.symm)
  by_cases he : q.es = []
  ·refine ⟨h.i.e.1, h.i.e.2.1, h.i.e.2.2.1, ?_⟩
   show Els G W.heap.size be q.es
   rw [he]; exact Els.nil _ _ _
  ·exact h.i.e.same (fun b e => hoth b (fun e2 => hn.2 he (e2 ▸ e)))
 ·rw [hG]
  exact (h.b.setCell (p := ⟨g, 2, none⟩) h.g _).setCell (p := ⟨g, 3, none⟩) h.g _
set_option maxHeartbeats 4000000 in
theorem kept_any (w : World) (size most : Int) (adS : Option Addr) (N capS : Nat) (xs : List TS) (fuse fault : Int) (kl : Int) (dl : ByteArray) (sl : Nat) (adK : Option Addr) (nk capK : Nat) (ks : List Int) (hsz : Num size) (hmo : Num most) (hfu : Num fuse) (hfa : Num fault)
  (hN : N = xs.length) (hNb : N ≤ 4398046511104) (hS : Stp w adS xs) (hSf : ∀ x ∈ xs, TFit x) (hdl : dl.size ≤ 9223372036854775000) (hsl : sl < 18446744073709551616) (hk : Ints w w.heap.size adK ks) (hnk : nk = ks.length) (hnk63 : nk ≤ 9223372036854775807) (hT : Tabs w) (hw : 3 < w.heap.size) :
  Calls Tryz.prog 4 #[.int .i64 size, .int .i64 most, .slice adS N capS, .int .i64 fuse, .int .i64 fault, .agg (stepC kl dl sl), .slice adK nk capK] w fun e w' => e = .returned (.bool true) ∧ Below w.heap.size w w' := by
 obtain ⟨W0, hW0⟩ : ∃ W, W = w.alloc (.cells (stepC kl dl sl) 33) := ⟨_, rfl⟩
 have hb0 : Below w.heap.size w W0 := by rw [hW0]; exact (Below.refl _ w).alloc (Nat.le_refl _) _
 have HL := Lib.hid (show Blk W0 w.heap.size (stepC kl dl sl) 33 from by rw [hW0]; exact blk_new w _)
 have HT := Lib.hid hT
 have HB := Lib.hid hb0
 have HD := Lib.hid hS
 have HN := Lib.hid hN
 have HSf := Lib.hid hSf
 have Hsz := Lib.hid hsz
 have Hmo := Lib.hid hmo
 have Hfu := Lib.hid hfu
 have Hfa := Lib.hid hfa
 have HK := Lib.hid (show IntsW w adK ks from hk)
 have Hnk := Lib.hid (And.intro hnk hnk63)
 have Hsl := Lib.hid (And.intro hdl hsl)
 clear hT hb0 hS hN hSf hsz hmo hfu hfa hk hnk hnk63 hdl hsl
 go_enter Tryz.func4, Tryz.ntmps4
 go_upto_region 1 with (fail)
 rw [← hW0]
 clear hW0
 go_wp2_with fail
 refine (qlives_any W0 (HT.out.under HB.out) (by have := HB.out.size; omega)).mono ?_
 rintro e w0 ⟨rfl, hb⟩
 replace HL := Lib.hid (HL.out.under hb)
 replace HB := Lib.hid (HB.out.trans (hb.mono HB.out.size))
 clear hb
 go_wp2_with fail
 refine (qwhole_any w0).mono ?_
 rintro e w1 ⟨rfl, hb⟩
 replace HL := Lib.hid (HL.out.under hb)
 replace HB := Lib.hid (HB.out.trans (hb.mono HB.out.size))
 clear hb
 obtain ⟨a, ha⟩ : ∃ a, openQ ⟨[], false, -1, -1⟩ size most = a := ⟨_, rfl⟩
 obtain ⟨⟨⟨⟨fs0, dn0, fu0, fa0⟩, sz0, fr0, nx0, br0⟩, es0, mo0⟩, er⟩ := a
 have HA := Lib.hid ha
 clear ha
 go_wp2_with fail
 refine (qopen_any w1 none 0 0 ⟨[], false, -1, -1⟩ size most (DIn.nothing w1 (fu := -1) (fa := -1) (by unfold Num; omega) (by unfold Num; omega)) Hsz.out Hmo.out (HT.out.under HB.out) (by have := HB.out.size; omega)).mono ?_
 rintro e w2 hP
 rw [HA.out] at hP
 obtain ⟨hb, ad0, n0, cap0, be0, m0, cp0, rfl, hq⟩ := hP
 replace HL := Lib.hid (HL.out.under hb)
 replace HB := Lib.hid (HB.out.trans (hb.mono HB.out.size))
 clear hb
 have HLw2 := Lib.hid HL.out
 obtain ⟨W2, hW⟩ : ∃ W, W = w2.alloc (.cells #[.slice ad0 n0 cap0, .bool dn0, .int .i64 fu0, .int .i64 fa0, .int .i64 sz0, .int .u64 fr0, .int .u64 nx0, .bool br0, .slice be0 m0 cp0, .int .i64 mo0] 30) := ⟨_, rfl⟩
 have hbW : Below w2.heap.size w2 W2 := by rw [hW]; exact (Below.refl _ w2).alloc (Nat.le_refl _) _
 have HV := Lib.hid (show QV w W2 w2.heap.size ⟨⟨⟨fs0, dn0, fu0, fa0⟩, sz0, fr0, nx0, br0⟩, es0, mo0⟩ ad0 n0 cap0 be0 m0 cp0 from ⟨by rw [hW]; exact blk_new w2 _, hq.under hbW, HB.out.trans (hbW.mono HB.out.size), HB.out.size⟩)
 replace HL := Lib.hid (HL.out.under hbW)
 replace HB := Lib.hid (HB.out.trans (hbW.mono HB.out.size))
 have HbW2 := Lib.hid hbW
 clear hbW hq
 go_upto_region 4 with (fail)
 rw [← hW]
 clear hW
 by_cases hm : (1 ≤ size ∧ size ≤ 262144) ∧ 1 ≤ most ∧ most ≤ 1024
 rotate_left
 ·have e := openQ_bad hm
  rw [HA.out] at e
  simp only at e
  subst e
  clear HA HV hm
  go_wp2
  go_ret
  exact ⟨rfl, HB.out⟩
 have e := HA.out.symm.trans (openQ_nil hm.1 hm.2)
 simp only [Prod.mk.injEq] at e
 obtain ⟨hq0, rfl⟩ := e
 have hKI := ki_zero hm.1 hm.2
 rw [← hq0] at hKI
 have HKI := Lib.hid hKI
 have Hm := Lib.hid hm
 have HNg := Lib.hid (show Ng w2.heap.size ad0 n0 cap0 be0 m0 cp0 ⟨⟨⟨fs0, dn0, fu0, fa0⟩, sz0, fr0, nx0, br0⟩, es0, mo0⟩ from by rw [hq0]; exact ⟨fun h => absurd rfl h, fun h => absurd rfl h⟩)
 clear hKI hq0 HA hm
 have HGB := Lib.hid (Array.getElem?_eq_some_iff.1 HV.out.h).1
 have HER := Lib.hid (show ERow W2 W2.heap.size (.slice none 0 0) [] from World.ownsRow_nil _ _ _ _)
 have HWB := Lib.hid HV.out.b
 have hlg : w.heap.size < w2.heap.size := by have := HLw2.out.lt; exact this
 obtain ⟨B, hB⟩ : ∃ B, W2.heap.size = B := ⟨_, rfl⟩
 rw [hB] at HER HGB
 have HBW := Lib.hid (Nat.le_of_eq hB.symm)
 have hwB : w.heap.size ≤ B := by rw [← hB]; exact HWB.out.size
 have hgB := HGB.out
 clear hB HWB HGB
 go_wp2
 go_loopw [17, 45] (fun v i wr => ∃ (j : Nat) (q : Q) (ad0 : Option Addr) (n0 cap0 : Nat) (be0 : Option Addr) (m0 cp0 : Nat) (want : List E), i = .int .i64 (j : Int) ∧ j ≤ N ∧ KI size most j want q ∧ QV w wr w2.heap.size q ad0 n0 cap0 be0 m0 cp0 ∧ ERow wr B v want ∧ Ng w2.heap.size ad0 n0 cap0 be0 m0 cp0 q ∧ B ≤ wr.heap.size ∧ Blk wr w.heap.size (stepC kl dl sl) 33) (fun v i _ => N - (intOf i).toNat)
 case atStart => exact ⟨0, _, _, _, _, _, _, _, [], rfl, Nat.zero_le _, HKI.out, HV.out, HER.out, HNg.out, HBW.out, HL.out⟩
 case round =>
  clear HKI HV HER HNg HL
  obtain ⟨j, q, ad0, n0, cap0, be0, m0, cp0, want, rfl, hj, hki, hv, her, hng, hBw, hL⟩ := hrel
  obtain ⟨⟨⟨fs0, dn0, fu0, fa0⟩, sz0, fr0, nx0, br0⟩, es0, mo0⟩ := q
  have HV := Lib.hid hv
  have HKI := Lib.hid hki
  have HER := Lib.hid her
  have HNg := Lib.hid hng
  have HL := Lib.hid hL
  have HB := Lib.hid HV.out.b
  clear hv hki her hng hL
  by_cases hlt : j < N
  ·have hjN : (j : Int) < (N : Int) := by omega
   obtain ⟨x, hx⟩ : ∃ x, xs[j]? = some x := ⟨xs[j]'(by have := HN.out; omega), by simp⟩
   have hfit := HSf.out x (List.mem_of_getElem? hx)
   have hxn : xs ≠ [] := by rintro rfl; simp at hx
   obtain ⟨gd, od, rfl, hgd, hcd⟩ := (HD.out.under HV.out.b) hxn
   obtain ⟨p0, p1, p2⟩ := hcd j x hx
   obtain ⟨xk, xd, xs1⟩ := x
   have Hfit := Lib.hid hfit
   clear hcd hx hxn hfit
   simp only at p0 p1 p2
   obtain ⟨a, ha⟩ : ∃ a, ansQ ⟨⟨⟨fs0, dn0, fu0, fa0⟩, sz0, fr0, nx0, br0⟩, es0, mo0⟩ (qsOf xk xd xs1) = a := ⟨_, rfl⟩
   obtain ⟨⟨⟨⟨fs1, dn1, fu1, fa1⟩, sz1, fr1, nx1, br1⟩, es1, mo1⟩, ⟨se1, da1, le1⟩, c⟩ := a
   have HA := Lib.hid ha
   clear ha
   obtain ⟨V, hV⟩ : ∃ W, W = wr.alloc (.cells (stepC xk xd xs1) 33) := ⟨_, rfl⟩
   have hbV : Below wr.heap.size wr V := by rw [hV]; exact (Below.refl _ wr).alloc (Nat.le_refl _) _
   have HS := Lib.hid (show Blk V wr.heap.size (stepC xk xd xs1) 33 from by rw [hV]; exact blk_new wr _)
   have HbV := Lib.hid hbV
   have HVr := Lib.hid HV.out
   have hgw : w2.heap.size < wr.heap.size := (Array.getElem?_eq_some_iff.1 HV.out.h).1
   replace HV := Lib.hid (HV.out.under hbV)
   replace HL := Lib.hid (HL.out.under hbV)
   replace HER := Lib.hid (HER.out.below hbV)
   replace HB := Lib.hid (HB.out.trans (hbV.mono HB.out.size))
   clear hbV
   go_upto_region 10 with (fail)
   rw [← hV]
   clear hV p0 p1 p2 hgd
   obtain ⟨c0, c1, c2, c3, c4, c5, c6, c7, c8, c9⟩ := box10 HV.out.h
   have hlc := (Array.getElem?_eq_some_iff.1 HV.out.h).1
   obtain ⟨s0, s1, s2⟩ := box3 HS.out
   have hls := HS.out.lt
   go_wp2_with fail
   refine (do13_any V ad0 n0 cap0 be0 m0 cp0 _ HV.out.i (HT.out.under HB.out) (by have := HB.out.size; omega) xk xd xs1 Hfit.out.s Hfit.out.d).mono ?_
   rintro e w5 hP
   rw [HA.out] at hP
   obtain ⟨hb, ad1, n1, cap1, be1, m1, cp1, rfl, hq, ho, hp⟩ := hP
   clear c0 c1 c2 c3 c4 c5 c6 c7 c8 c9 hlc
   clear s0 s1 s2 hls
   have Ho := Lib.hid ho
   have Hp := Lib.hid hp
   have Hb5 := Lib.hid hb
   replace HV := Lib.hid (HV.out.under hb)
   replace HL := Lib.hid (HL.out.under hb)
   replace HER := Lib.hid (HER.out.below hb)
   replace HS := Lib.hid (HS.out.under hb)
   replace HB := Lib.hid (HB.out.trans (hb.mono HB.out.size))
   clear hb ho hp
   obtain ⟨W5, hW⟩ : ∃ W, W = (w5.alloc (.cells #[.slice ad1 n1 cap1, .bool dn1, .int .i64 fu1, .int .i64 fa1, .int .i64 sz1, .int .u64 fr1, .int .u64 nx1, .bool br1, .slice be1 m1 cp1, .int .i64 mo1] 30)).alloc (.cells #[.int .u64 (se1 : Int), .string da1, .bool le1] 39) := ⟨_, rfl⟩
   have hbW : Below w5.heap.size w5 W5 := by rw [hW]; exact ((Below.refl _ w5).alloc (Nat.le_refl _) _).alloc (by simp) _
   have HP := Lib.hid (show QV w W5 w5.heap.size ⟨⟨⟨fs1, dn1, fu1, fa1⟩, sz1, fr1, nx1, br1⟩, es1, mo1⟩ ad1 n1 cap1 be1 m1 cp1 from ⟨by rw [hW]; exact blk_alloc (blk_new w5 _) _, hq.under hbW, HB.out.trans (hbW.mono HB.out.size), HB.out.size⟩)
   have HE := Lib.hid (show Blk W5 (w5.heap.size + 1) #[.int .u64 (se1 : Int), .string da1, .bool le1] 39 from by rw [hW]; exact blk_at (by simp))
   replace HV := Lib.hid (HV.out.under hbW)
   replace HL := Lib.hid (HL.out.under hbW)
   replace HER := Lib.hid (HER.out.below hbW)
   replace HS := Lib.hid (HS.out.under hbW)
   replace HB := Lib.hid (HB.out.trans (hbW.mono HB.out.size))
   have HbW5 := Lib.hid hbW
   clear hbW hq
   go_upto_region 11 with (fail)
   rw [← hW]
   clear hW
   have hB7 : Below wr.heap.size wr W5 := (HbV.out.trans (Hb5.out.mono HbV.out.size)).trans (HbW5.out.mono (by have := HbV.out.size; have := Hb5.out.size; omega))
   have HB7 := Lib.hid hB7
   have hBW5 : B ≤ W5.heap.size := by have := hB7.size; omega
   have hgV : wr.heap.size ≤ V.heap.size := HbV.out.size
   have hg5 : w2.heap.size < w5.heap.size := by have := HbV.out.size; have := Hb5.out.size; omega
   clear hB7
   by_cases hc : c = 0
   rotate_left
   ·have HK2 := Lib.hid (ki_mono HKI.out (Nat.le_succ j))
    go_wp2
    go_roundw
    case rel => exact ⟨j + 1, _, ad0, n0, cap0, be0, m0, cp0, want, by go_num, by omega, HK2.out, HV.out, HER.out, HNg.out, hBW5, HL.out⟩
    case measure => simp [intOf]; omega
   subst hc
   have hki2 := ki_step HKI.out (by omega) xk xd xs1 (by rw [HA.out])
   rw [HA.out] at hki2
   have HK2 := Lib.hid (show KI size most (j + 1) (aftE xk xd xs1 se1 want) ⟨⟨⟨fs1, dn1, fu1, fa1⟩, sz1, fr1, nx1, br1⟩, es1, mo1⟩ from hki2)
   have hwl := ki_len HKI.out
   have HNg2 := Lib.hid (show Ng w2.heap.size ad1 n1 cap1 be1 m1 cp1 ⟨⟨⟨fs1, dn1, fu1, fa1⟩, sz1, fr1, nx1, br1⟩, es1, mo1⟩ from ⟨fun _ h => by have := Ho.out _ h; omega, fun _ h => by have := Hp.out _ h; omega⟩)
   clear hki2
   obtain ⟨d0, d1, d2, d3, d4, d5, d6, d7, d8, d9⟩ := box10 HP.out.h
   have hld := (Array.getElem?_eq_some_iff.1 HP.out.h).1
   obtain ⟨y0, y1, y2, y3, y4, y5, y6, y7, y8, y9⟩ := box10 HV.out.h
   have hly := (Array.getElem?_eq_some_iff.1 HV.out.h).1
   obtain ⟨z0, z1, z2, z3, z4, z5, z6, z7, z8, z9⟩ := frz10 HV.out.h
   go_upto_region 13 with (fail)
   obtain ⟨G, hG⟩ : ∃ G, G = ((((((((((W5).setCell ⟨w2.heap.size, 0, none⟩ (.slice ad1 n1 cap1)).setCell ⟨w2.heap.size, 1, none⟩ (.bool dn1)).setCell ⟨w2.heap.size, 2, none⟩ (.int .i64 fu1)).setCell ⟨w2.heap.size, 3, none⟩ (.int .i64 fa1)).setCell ⟨w2.heap.size, 4, none⟩ (.int .i64 sz1)).setCell ⟨w2.heap.size, 5, none⟩ (.int .u64 fr1)).setCell ⟨w2.heap.size, 6, none⟩ (.int .u64 nx1)).setCell ⟨w2.heap.size, 7, none⟩ (.bool br1)).setCell ⟨w2.heap.size, 8, none⟩ (.slice be1 m1 cp1)).setCell ⟨w2.heap.size, 9, none⟩ (.int .i64 mo1) := ⟨_, rfl⟩
   rw [← hG]
   have HV2 := Lib.hid (HVr.out.put HB7.out HP.out.i (fun b e => by have := Ho.out b e; omega) (fun b e => by have := Hp.out b e; omega) hG)
   have hgr : W5.grownBy G (some w2.heap.size) := by rw [hG]; exact put10_grown _ _ _ _ _ _ _ _ _ _ _ _
   have hGs : G.heap.size = W5.heap.size := by rw [hG]; exact put10_size _ _ _ _ _ _ _ _ _ _ _ _
   have hoth : ∀ b, b ≠ w2.heap.size → G.heap[b]? = W5.heap[b]? := fun b hb => by rw [hG]; exact put10_other hb _ _ _ _ _ _ _ _ _ _
   have HE2 := Lib.hid (HER.out.kept hgr (by
    cases e : u17.ownBlock with
    | none => exact .inl rfl
    | some b => exact .inr (fun h => by injection h with h; have := (HER.out.lt b e).1; omega)))
   have HL2 := Lib.hid (show Blk G w.heap.size (stepC kl dl sl) 33 from (hoth _ (by omega)).trans HL.out)
   have HS2 := Lib.hid (show Blk G wr.heap.size (stepC xk xd xs1) 33 from (hoth _ (by omega)).trans HS.out)
   have HF2 := Lib.hid (show Blk G (w5.heap.size + 1) #[.int .u64 (se1 : Int), .string da1, .bool le1] 39 from (hoth _ (by omega)).trans HE.out)
   have HBG := Lib.hid HV2.out.b
   clear d0 d1 d2 d3 d4 d5 d6 d7 d8 d9 hld y0 y1 y2 y3 y4 y5 y6 y7 y8 y9 hly z0 z1 z2 z3 z4 z5 z6 z7 z8 z9 hG hgr hoth
   obtain ⟨adv, capv, rfl, hei⟩ := EIn.of_row HE2.out
   have Hei := Lib.hid hei
   clear hei
   obtain ⟨s0, s1, s2⟩ := box3 HS2.out
   have hls := HS2.out.lt
   obtain ⟨x0, x1, x2⟩ := box3 HF2.out
   have hlx := HF2.out.lt
   go_wp2_with fail
   refine (after_any G adv want.length capv want Hei.out xk xd xs1 ⟨se1, da1, le1⟩ (by omega)).mono ?_
   rintro e w6 ⟨hb, v', rfl, hrow⟩
   have HV3 := Lib.hid (HV2.out.under hb)
   have HL3 := Lib.hid (HL2.out.under hb)
   have HR3 := Lib.hid (ERow.base hrow (show B ≤ G.heap.size by omega))
   have hB6 : B ≤ w6.heap.size := by have := hb.size; omega
   clear s0 s1 s2 hls x0 x1 x2 hlx hb hrow
   go_wp2
   go_roundw
   case rel => exact ⟨j + 1, _, ad1, n1, cap1, be1, m1, cp1, _, by go_num, by omega, HK2.out, HV3.out, HR3.out, HNg2.out, hB6, HL3.out⟩
   case measure => simp [intOf]; omega
  ·have hjN : ¬ (j : Int) < (N : Int) := by omega
   obtain ⟨nx, hnx, hQR, hRf, r, hop, hQRr, hc0, hc1⟩ := kept_last HKI.out (by omega) Hfu.out Hfa.out kl dl sl Hsl.out.2 ks
   replace hnx : nx0 = (nx : Int) := hnx
   subst hnx
   obtain ⟨a, ha⟩ : ∃ a, ansQ (fuseQ ⟨⟨⟨fs0, dn0, fu0, fa0⟩, sz0, fr0, (nx : Int), br0⟩, es0, mo0⟩ fuse fault) (qsOf kl dl sl) = a := ⟨_, rfl⟩
   rw [ha] at hRf hop hc0 hc1
   obtain ⟨⟨⟨⟨fs1, dn1, fu1, fa1⟩, sz1, fr1, nx1, br1⟩, es1, mo1⟩, ⟨se1, da1, le1⟩, c⟩ := a
   obtain ⟨⟨⟨fs4, dn4, fu4, fa4⟩, sz4, fr4, nx4, br4⟩, es4, mo4⟩ := r
   have HA := Lib.hid ha
   have HRf := Lib.hid (show Right fs1 from hRf)
   have Hop := Lib.hid (show openQ ⟨crashL ks fs1, false, -1, -1⟩ size most = (⟨⟨⟨fs4, dn4, fu4, fa4⟩, sz4, fr4, nx4, br4⟩, es4, mo4⟩, 0) from hop)
   have HQr := Lib.hid hQRr
   have Hc0 := Lib.hid (show c = 0 → sameE es4 (aftE kl dl sl se1 want) = true from hc0)
   have Hc1 := Lib.hid (show c ≠ 0 → sameE es4 want = true ∨ (¬ Soft (fuseQ ⟨⟨⟨fs0, dn0, fu0, fa0⟩, sz0, fr0, (nx : Int), br0⟩, es0, mo0⟩ fuse fault) c ∧ sameE es4 (aftE kl dl sl nx want) = true) from hc1)
   have hwl := ki_len HKI.out
   obtain ⟨adv, capv, rfl, _⟩ := EIn.of_row HER.out
   clear ha hRf hop hQRr hc0 hc1 hQR hlt HKI hj
   obtain ⟨c0, c1, c2, c3, c4, c5, c6, c7, c8, c9⟩ := box10 HV.out.h
   have hlc := (Array.getElem?_eq_some_iff.1 HV.out.h).1
   obtain ⟨z0, z1, z2, z3, z4, z5, z6, z7, z8, z9⟩ := frz10 HV.out.h
   go_upto_region 16 with (fail)
   obtain ⟨G, hG⟩ : ∃ G, G = (wr.setCell ⟨w2.heap.size, 2, none⟩ (.int .i64 fuse)).setCell ⟨w2.heap.size, 3, none⟩ (.int .i64 fault) := ⟨_, rfl⟩
   rw [← hG]
   obtain ⟨hv2, hoth, hGs⟩ := HV.out.fuse HNg.out Hfu.out Hfa.out hG
   have HE2 := Lib.hid (show ERow G B (.slice adv want.length capv) want from HER.out.kept (row := some w2.heap.size) ⟨by rw [hG]; rfl, by rw [hG]; rfl, by rw [hG]; rfl, Nat.le_of_eq hGs.symm, fun k _ hk => hoth k (fun e => hk (by rw [e]))⟩ (by
    cases e : (Value.slice adv want.length capv).ownBlock with
    | none => exact .inl rfl
    | some b => exact .inr (fun h => by injection h with h; have := (HER.out.lt b e).1; omega)))
   have HL2 := Lib.hid (show Blk G w.heap.size (stepC kl dl sl) 33 from (hoth _ (by omega)).trans HL.out)
   replace HV := Lib.hid hv2
   replace HL := HL2
   replace HER := HE2
   replace HB := Lib.hid HV.out.b
   clear c0 c1 c2 c3 c4 c5 c6 c7 c8 c9 hlc z0 z1 z2 z3 z4 z5 z6 z7 z8 z9 hG hv2 hoth hGs HL2 HE2 HNg
   obtain ⟨c0, c1, c2, c3, c4, c5, c6, c7, c8, c9⟩ := box10 HV.out.h
   have hlc := (Array.getElem?_eq_some_iff.1 HV.out.h).1
   obtain ⟨s0, s1, s2⟩ := box3 HL.out
   have hls := HL.out.lt
   go_wp2_with fail
   refine (do13_any G ad0 n0 cap0 be0 m0 cp0 _ HV.out.i (HT.out.under HB.out) (by have := HB.out.size; omega) kl dl sl Hsl.out.2 Hsl.out.1).mono ?_
   rintro e w5 hP
   rw [show ansQ _ (qsOf kl dl sl) = _ from HA.out] at hP
   obtain ⟨hb, ad1, n1, cap1, be1, m1, cp1, rfl, hq, ho, hp⟩ := hP
   clear c0 c1 c2 c3 c4 c5 c6 c7 c8 c9 hlc
   clear s0 s1 s2 hls
   replace HV := Lib.hid (HV.out.under hb)
   replace HL := Lib.hid (HL.out.under hb)
   replace HER := Lib.hid (HER.out.below hb)
   replace HB := Lib.hid (HB.out.trans (hb.mono HB.out.size))
   clear hb ho hp
   obtain ⟨W5, hW⟩ : ∃ W, W = (w5.alloc (.cells #[.slice ad1 n1 cap1, .bool dn1, .int .i64 fu1, .int .i64 fa1, .int .i64 sz1, .int .u64 fr1, .int .u64 nx1, .bool br1, .slice be1 m1 cp1, .int .i64 mo1] 30)).alloc (.cells #[.int .u64 (se1 : Int), .string da1, .bool le1] 39) := ⟨_, rfl⟩
   have hbW : Below w5.heap.size w5 W5 := by rw [hW]; exact ((Below.refl _ w5).alloc (Nat.le_refl _) _).alloc (by simp) _
   have HP := Lib.hid (show QV w W5 w5.heap.size ⟨⟨⟨fs1, dn1, fu1, fa1⟩, sz1, fr1, nx1, br1⟩, es1, mo1⟩ ad1 n1 cap1 be1 m1 cp1 from ⟨by rw [hW]; exact blk_alloc (blk_new w5 _) _, hq.under hbW, HB.out.trans (hbW.mono HB.out.size), HB.out.size⟩)
   have HE := Lib.hid (show Blk W5 (w5.heap.size + 1) #[.int .u64 (se1 : Int), .string da1, .bool le1] 39 from by rw [hW]; exact blk_at (by simp))
   replace HV := Lib.hid (HV.out.under hbW)
   replace HL := Lib.hid (HL.out.under hbW)
   replace HER := Lib.hid (HER.out.below hbW)
   replace HB := Lib.hid (HB.out.trans (hbW.mono HB.out.size))
   have HbW5 := Lib.hid hbW
   clear hbW hq
   go_upto_region 17 with (fail)
   rw [← hW]
   clear hW
   obtain ⟨_, _, hex, hei⟩ := EIn.of_row HER.out
   injection hex with q1 q2 q3
   subst q1 q3
   have Hei := Lib.hid (show EIn W5 W5.heap.size adv want.length capv want from hei)
   clear hei q2
   obtain ⟨c0, c1, c2, c3, c4, c5, c6, c7, c8, c9⟩ := box10 HV.out.h
   have hlc := (Array.getElem?_eq_some_iff.1 HV.out.h).1
   obtain ⟨s0, s1, s2⟩ := box3 HL.out
   have hls := HL.out.lt
   go_wp2_with fail
   refine (after_any W5 adv want.length capv want Hei.out kl dl sl ⟨nx, ⟨#[]⟩, false⟩ (by omega)).mono ?_
   rintro e w6 ⟨hb, vb, rfl, hrow⟩
   clear c0 c1 c2 c3 c4 c5 c6 c7 c8 c9 hlc
   clear s0 s1 s2 hls
   replace HV := Lib.hid (HV.out.under hb)
   replace HL := Lib.hid (HL.out.under hb)
   replace HER := Lib.hid (HER.out.below hb)
   replace HP := Lib.hid (HP.out.under hb)
   replace HE := Lib.hid (HE.out.under hb)
   replace HB := Lib.hid (HB.out.trans (hb.mono HB.out.size))
   replace Hei := Lib.hid (show EIn w6 w6.heap.size adv want.length capv want from (Hei.out.keep hb).mono hb.size)
   have HRb := Lib.hid (show ERow w6 W5.heap.size vb (aftE kl dl sl nx want) from hrow)
   have haf : (aftE kl dl sl nx want).length ≤ 1000000 := by
    unfold aftE
    rw [List.length_append]
    have h1 : (want.filter (aftP kl sl)).length ≤ 1024 := Nat.le_trans (List.length_filter_le _ _) hwl
    split <;> simp <;> omega
   clear hb hrow
   by_cases hc : c = 0
   ·have hsc := Hc0.out hc
    have Hsc := Lib.hid hsc
    clear hsc Hc0 Hc1
    subst hc
    obtain ⟨s0, s1, s2⟩ := box3 HL.out
    have hls := HL.out.lt
    obtain ⟨x0, x1, x2⟩ := box3 HE.out
    have hlx := HE.out.lt
    go_wp2_with fail
    refine (after_any w6 adv want.length capv want Hei.out kl dl sl ⟨se1, da1, le1⟩ (by omega)).mono ?_
    rintro e w7 ⟨hb, vz, rfl, hrow⟩
    obtain ⟨adz, capz, rfl, hz1⟩ := EIn.of_row hrow
    have HX := Lib.hid hz1
    have hz : (aftE kl dl sl se1 want).length ≤ 1000000 := by
     unfold aftE
     rw [List.length_append]
     have h1 : (want.filter (aftP kl sl)).length ≤ 1024 := Nat.le_trans (List.length_filter_le _ _) hwl
     split <;> simp <;> omega
    replace HP := Lib.hid (HP.out.under hb)
    replace HB := Lib.hid (HB.out.trans (hb.mono HB.out.size))
    clear hb hrow hz1 s0 s1 s2 hls x0 x1 x2 hlx
    obtain ⟨d0, d1, d2, d3, d4, d5, d6, d7, d8, d9⟩ := box10 HP.out.h
    have hld := (Array.getElem?_eq_some_iff.1 HP.out.h).1
    have HK2 := Lib.hid (HK.out.under HB.out)
    go_wp2_with fail
    refine (Crash_any w7 ad1 n1 cap1 dn1 fu1 fa1 fs1 HP.out.i.l.d adK nk capK ks HK2.out Hnk.out.1 Hnk.out.2).mono ?_
    rw [crv_right (d := ⟨fs1, dn1, fu1, fa1⟩) HRf.out]
    rintro e w8 ⟨ad5, n5, cap5, rfl, hi, hb, _⟩
    clear d0 d1 d2 d3 d4 d5 d6 d7 d8 d9 hld
    replace HP := Lib.hid (HP.out.under hb)
    replace HX := Lib.hid ((HX.out.keep hb).mono hb.size)
    replace HB := Lib.hid (HB.out.trans (hb.mono HB.out.size))
    have Hd := Lib.hid (show DIn w8 ad5 n5 cap5 (-1) (-1) (crashL ks fs1) from ⟨hi, fun f hf => okF_fit ((right_crash HRf.out ks).ok f hf), by omega, by omega, by omega, by omega⟩)
    clear hi hb HK2
    simp only
    obtain ⟨W8, hW⟩ : ∃ W, W = w8.alloc (.cells (dcells (.slice ad5 n5 cap5) false (-1) (-1)) 24) := ⟨_, rfl⟩
    have hbW : Below w8.heap.size w8 W8 := by rw [hW]; exact (Below.refl _ w8).alloc (Nat.le_refl _) _
    have HDk := Lib.hid (show Blk W8 w8.heap.size (dcells (.slice ad5 n5 cap5) false (-1) (-1)) 24 from by rw [hW]; exact blk_new w8 _)
    replace HP := Lib.hid (HP.out.under hbW)
    replace HX := Lib.hid ((HX.out.keep hbW).mono hbW.size)
    replace Hd := Lib.hid (Hd.out.under hbW)
    replace HB := Lib.hid (HB.out.trans (hbW.mono HB.out.size))
    clear hbW
    go_upto_region 24 with (fail)
    rw [← hW]
    clear hW
    obtain ⟨c0, c1, c2, c3⟩ := box4' HDk.out
    have hlc := HDk.out.lt
    go_wp2_with fail
    refine (qopen_any W8 ad5 n5 cap5 ⟨crashL ks fs1, false, -1, -1⟩ size most Hd.out Hsz.out Hmo.out (HT.out.under HB.out) (by have := HB.out.size; omega)).mono ?_
    rintro e w9 hP
    rw [Hop.out] at hP
    obtain ⟨hb, ad4, n4, cap4, be4, m4, cp4, rfl, hq⟩ := hP
    clear c0 c1 c2 c3 hlc
    replace HP := Lib.hid (HP.out.under hb)
    replace HX := Lib.hid ((HX.out.keep hb).mono hb.size)
    replace Hd := Lib.hid (Hd.out.under hb)
    replace HB := Lib.hid (HB.out.trans (hb.mono HB.out.size))
    clear hb Hd HDk
    obtain ⟨W9, hW⟩ : ∃ W, W = w9.alloc (.cells #[.slice ad4 n4 cap4, .bool dn4, .int .i64 fu4, .int .i64 fa4, .int .i64 sz4, .int .u64 fr4, .int .u64 nx4, .bool br4, .slice be4 m4 cp4, .int .i64 mo4] 30) := ⟨_, rfl⟩
    have hbW : Below w9.heap.size w9 W9 := by rw [hW]; exact (Below.refl _ w9).alloc (Nat.le_refl _) _
    have HQ := Lib.hid (show QV w W9 w9.heap.size ⟨⟨⟨fs4, dn4, fu4, fa4⟩, sz4, fr4, nx4, br4⟩, es4, mo4⟩ ad4 n4 cap4 be4 m4 cp4 from ⟨by rw [hW]; exact blk_new w9 _, hq.under hbW, HB.out.trans (hbW.mono HB.out.size), HB.out.size⟩)
    replace HP := Lib.hid (HP.out.under hbW)
    replace HX := Lib.hid ((HX.out.keep hbW).mono hbW.size)
    replace HB := Lib.hid (HB.out.trans (hbW.mono HB.out.size))
    have HbW9 := Lib.hid hbW
    clear hbW hq
    go_upto_region 25 with (fail)
    rw [← hW]
    clear hW
    obtain ⟨d0, d1, d2, d3, d4, d5, d6, d7, d8, d9⟩ := box10 HQ.out.h
    have hld := (Array.getElem?_eq_some_iff.1 HQ.out.h).1
    go_wp2_with fail
    refine (qcheck_any W9 _ _ _ _ _ _ _ HQ.out.i).mono ?_
    rintro e w10 ⟨er, rfl, hcase, hb⟩
    replace HP := Lib.hid (HP.out.under hb)
    replace HX := Lib.hid ((HX.out.keep hb).mono hb.size)
    replace HQ := Lib.hid (HQ.out.under hb)
    replace HB := Lib.hid (HB.out.trans (hb.mono HB.out.size))
    clear hb
    obtain rfl : er = 0 := by
     rcases hcase with ⟨_, h⟩ | ⟨h, _⟩
     ·exact h
     ·exact absurd HQr.out h
    clear hcase
    clear d0 d1 d2 d3 d4 d5 d6 d7 d8 d9 hld
    obtain ⟨d0, d1, d2, d3, d4, d5, d6, d7, d8, d9⟩ := box10 HQ.out.h
    have hld := (Array.getElem?_eq_some_iff.1 HQ.out.h).1
    have hsm := same_any w10 be4 adz cp4 capz es4 (aftE kl dl sl se1 want) HQ.out.i.e.2.2.2 HX.out.2.2.2 (by have h2 := HQr.out.2.2.1; simp only at h2; omega) (by first | omega | exact Nat.le_trans hz (by omega))
    rw [show es4.length = m4 from HQ.out.i.e.1.symm] at hsm
    have Hsm := Lib.hid hsm
    clear hsm
    go_wp2_with fail
    refine Hsm.out.mono ?_
    rintro e w11 ⟨rfl, hb⟩
    replace HP := Lib.hid (HP.out.under hb)
    replace HX := Lib.hid ((HX.out.keep hb).mono hb.size)
    replace HQ := Lib.hid (HQ.out.under hb)
    replace HB := Lib.hid (HB.out.trans (hb.mono HB.out.size))
    clear hb Hsm
    clear d0 d1 d2 d3 d4 d5 d6 d7 d8 d9 hld
    obtain ⟨d0, d1, d2, d3, d4, d5, d6, d7, d8, d9⟩ := box10 HQ.out.h
    have hld := (Array.getElem?_eq_some_iff.1 HQ.out.h).1
    rw [Hsc.out]
    go_wp2
    go_ret
    exact ⟨rfl, HB.out⟩
   ·have HX := Hei
    obtain ⟨adb, capb, rfl, hb1⟩ := EIn.of_row HRb.out
    have HY := Lib.hid hb1
    clear hb1
    have hm0 : (m0 : Int) = (es0.length : Int) := by have h1 : m0 = es0.length := HV.out.i.e.1; omega
    obtain ⟨c0, c1, c2, c3, c4, c5, c6, c7, c8, c9⟩ := box10 HV.out.h
    have hlc := (Array.getElem?_eq_some_iff.1 HV.out.h).1
    rcases Hc1.out hc with hs1 | ⟨hns, hs2⟩
    ·by_cases g8 : c = 8
     ·subst g8
      by_cases gm : mo0 ≤ (m0 : Int)
      ·go_upto_region 23 with (fail)
       clear c0 c1 c2 c3 c4 c5 c6 c7 c8 c9 hlc
       obtain ⟨d0, d1, d2, d3, d4, d5, d6, d7, d8, d9⟩ := box10 HP.out.h
       have hld := (Array.getElem?_eq_some_iff.1 HP.out.h).1
       have HK2 := Lib.hid (HK.out.under HB.out)
       go_wp2_with fail
       refine (Crash_any w6 ad1 n1 cap1 dn1 fu1 fa1 fs1 HP.out.i.l.d adK nk capK ks HK2.out Hnk.out.1 Hnk.out.2).mono ?_
       rw [crv_right (d := ⟨fs1, dn1, fu1, fa1⟩) HRf.out]
       rintro e w8 ⟨ad5, n5, cap5, rfl, hi, hb, _⟩
       clear d0 d1 d2 d3 d4 d5 d6 d7 d8 d9 hld
       replace HP := Lib.hid (HP.out.under hb)
       replace HX := Lib.hid ((HX.out.keep hb).mono hb.size)
       replace HB := Lib.hid (HB.out.trans (hb.mono HB.out.size))
       have Hd := Lib.hid (show DIn w8 ad5 n5 cap5 (-1) (-1) (crashL ks fs1) from ⟨hi, fun f hf => okF_fit ((right_crash HRf.out ks).ok f hf), by omega, by omega, by omega, by omega⟩)
       clear hi hb HK2
       simp only
       obtain ⟨W8, hW⟩ : ∃ W, W = w8.alloc (.cells (dcells (.slice ad5 n5 cap5) false (-1) (-1)) 24) := ⟨_, rfl⟩
       have hbW : Below w8.heap.size w8 W8 := by rw [hW]; exact (Below.refl _ w8).alloc (Nat.le_refl _) _
       have HDk := Lib.hid (show Blk W8 w8.heap.size (dcells (.slice ad5 n5 cap5) false (-1) (-1)) 24 from by rw [hW]; exact blk_new w8 _)
       replace HP := Lib.hid (HP.out.under hbW)
       replace HX := Lib.hid ((HX.out.keep hbW).mono hbW.size)
       replace Hd := Lib.hid (Hd.out.under hbW)
       replace HB := Lib.hid (HB.out.trans (hbW.mono HB.out.size))
       clear hbW
       go_upto_region 24 with (fail)
       rw [← hW]
       clear hW
       obtain ⟨c0, c1, c2, c3⟩ := box4' HDk.out
       have hlc := HDk.out.lt
       go_wp2_with fail
       refine (qopen_any W8 ad5 n5 cap5 ⟨crashL ks fs1, false, -1, -1⟩ size most Hd.out Hsz.out Hmo.out (HT.out.under HB.out) (by have := HB.out.size; omega)).mono ?_
       rintro e w9 hP
       rw [Hop.out] at hP
       obtain ⟨hb, ad4, n4, cap4, be4, m4, cp4, rfl, hq⟩ := hP
       clear c0 c1 c2 c3 hlc
       replace HP := Lib.hid (HP.out.under hb)
       replace HX := Lib.hid ((HX.out.keep hb).mono hb.size)
       replace Hd := Lib.hid (Hd.out.under hb)
       replace HB := Lib.hid (HB.out.trans (hb.mono HB.out.size))
       clear hb Hd HDk
       obtain ⟨W9, hW⟩ : ∃ W, W = w9.alloc (.cells #[.slice ad4 n4 cap4, .bool dn4, .int .i64 fu4, .int .i64 fa4, .int .i64 sz4, .int .u64 fr4, .int .u64 nx4, .bool br4, .slice be4 m4 cp4, .int .i64 mo4] 30) := ⟨_, rfl⟩
       have hbW : Below w9.heap.size w9 W9 := by rw [hW]; exact (Below.refl _ w9).alloc (Nat.le_refl _) _
       have HQ := Lib.hid (show QV w W9 w9.heap.size ⟨⟨⟨fs4, dn4, fu4, fa4⟩, sz4, fr4, nx4, br4⟩, es4, mo4⟩ ad4 n4 cap4 be4 m4 cp4 from ⟨by rw [hW]; exact blk_new w9 _, hq.under hbW, HB.out.trans (hbW.mono HB.out.size), HB.out.size⟩)
       replace HP := Lib.hid (HP.out.under hbW)
       replace HX := Lib.hid ((HX.out.keep hbW).mono hbW.size)
       replace HB := Lib.hid (HB.out.trans (hbW.mono HB.out.size))
       have HbW9 := Lib.hid hbW
       clear hbW hq
       go_upto_region 25 with (fail)
       rw [← hW]
       clear hW
       obtain ⟨d0, d1, d2, d3, d4, d5, d6, d7, d8, d9⟩ := box10 HQ.out.h
       have hld := (Array.getElem?_eq_some_iff.1 HQ.out.h).1
       go_wp2_with fail
       refine (qcheck_any W9 _ _ _ _ _ _ _ HQ.out.i).mono ?_
       rintro e w10 ⟨er, rfl, hcase, hb⟩
       replace HP := Lib.hid (HP.out.under hb)
       replace HX := Lib.hid ((HX.out.keep hb).mono hb.size)
       replace HQ := Lib.hid (HQ.out.under hb)
       replace HB := Lib.hid (HB.out.trans (hb.mono HB.out.size))
       clear hb
       obtain rfl : er = 0 := by
        rcases hcase with ⟨_, h⟩ | ⟨h, _⟩
        ·exact h
        ·exact absurd HQr.out h
       clear hcase
       clear d0 d1 d2 d3 d4 d5 d6 d7 d8 d9 hld
       obtain ⟨d0, d1, d2, d3, d4, d5, d6, d7, d8, d9⟩ := box10 HQ.out.h
       have hld := (Array.getElem?_eq_some_iff.1 HQ.out.h).1
       have hsm := same_any w10 be4 adv cp4 capv es4 (want) HQ.out.i.e.2.2.2 HX.out.2.2.2 (by have h2 := HQr.out.2.2.1; simp only at h2; omega) (by omega)
       rw [show es4.length = m4 from HQ.out.i.e.1.symm] at hsm
       have Hsm := Lib.hid hsm
       clear hsm
       go_wp2_with fail
       refine Hsm.out.mono ?_
       rintro e w11 ⟨rfl, hb⟩
       replace HP := Lib.hid (HP.out.under hb)
       replace HX := Lib.hid ((HX.out.keep hb).mono hb.size)
       replace HQ := Lib.hid (HQ.out.under hb)
       replace HB := Lib.hid (HB.out.trans (hb.mono HB.out.size))
       clear hb Hsm
       clear d0 d1 d2 d3 d4 d5 d6 d7 d8 d9 hld
       obtain ⟨d0, d1, d2, d3, d4, d5, d6, d7, d8, d9⟩ := box10 HQ.out.h
       have hld := (Array.getElem?_eq_some_iff.1 HQ.out.h).1
       rw [hs1]
       go_wp2
       go_ret
       exact ⟨rfl, HB.out⟩
      ·go_upto_region 23 with (fail)
       clear c0 c1 c2 c3 c4 c5 c6 c7 c8 c9 hlc
       obtain ⟨d0, d1, d2, d3, d4, d5, d6, d7, d8, d9⟩ := box10 HP.out.h
       have hld := (Array.getElem?_eq_some_iff.1 HP.out.h).1
       have HK2 := Lib.hid (HK.out.under HB.out)
       go_wp2_with fail
       refine (Crash_any w6 ad1 n1 cap1 dn1 fu1 fa1 fs1 HP.out.i.l.d adK nk capK ks HK2.out Hnk.out.1 Hnk.out.2).mono ?_
       rw [crv_right (d := ⟨fs1, dn1, fu1, fa1⟩) HRf.out]
       rintro e w8 ⟨ad5, n5, cap5, rfl, hi, hb, _⟩
       clear d0 d1 d2 d3 d4 d5 d6 d7 d8 d9 hld
       replace HP := Lib.hid (HP.out.under hb)
       replace HX := Lib.hid ((HX.out.keep hb).mono hb.size)
       replace HB := Lib.hid (HB.out.trans (hb.mono HB.out.size))
       have Hd := Lib.hid (show DIn w8 ad5 n5 cap5 (-1) (-1) (crashL ks fs1) from ⟨hi, fun f hf => okF_fit ((right_crash HRf.out ks).ok f hf), by omega, by omega, by omega, by omega⟩)
       clear hi hb HK2
       simp only
       obtain ⟨W8, hW⟩ : ∃ W, W = w8.alloc (.cells (dcells (.slice ad5 n5 cap5) false (-1) (-1)) 24) := ⟨_, rfl⟩
       have hbW : Below w8.heap.size w8 W8 := by rw [hW]; exact (Below.refl _ w8).alloc (Nat.le_refl _) _
       have HDk := Lib.hid (show Blk W8 w8.heap.size (dcells (.slice ad5 n5 cap5) false (-1) (-1)) 24 from by rw [hW]; exact blk_new w8 _)
       replace HP := Lib.hid (HP.out.under hbW)
       replace HX := Lib.hid ((HX.out.keep hbW).mono hbW.size)
       replace Hd := Lib.hid (Hd.out.under hbW)
       replace HB := Lib.hid (HB.out.trans (hbW.mono HB.out.size))
       clear hbW
       go_upto_region 24 with (fail)
       rw [← hW]
       clear hW
       obtain ⟨c0, c1, c2, c3⟩ := box4' HDk.out
       have hlc := HDk.out.lt
       go_wp2_with fail
       refine (qopen_any W8 ad5 n5 cap5 ⟨crashL ks fs1, false, -1, -1⟩ size most Hd.out Hsz.out Hmo.out (HT.out.under HB.out) (by have := HB.out.size; omega)).mono ?_
       rintro e w9 hP
       rw [Hop.out] at hP
       obtain ⟨hb, ad4, n4, cap4, be4, m4, cp4, rfl, hq⟩ := hP
       clear c0 c1 c2 c3 hlc
       replace HP := Lib.hid (HP.out.under hb)
       replace HX := Lib.hid ((HX.out.keep hb).mono hb.size)
       replace Hd := Lib.hid (Hd.out.under hb)
       replace HB := Lib.hid (HB.out.trans (hb.mono HB.out.size))
       clear hb Hd HDk
       obtain ⟨W9, hW⟩ : ∃ W, W = w9.alloc (.cells #[.slice ad4 n4 cap4, .bool dn4, .int .i64 fu4, .int .i64 fa4, .int .i64 sz4, .int .u64 fr4, .int .u64 nx4, .bool br4, .slice be4 m4 cp4, .int .i64 mo4] 30) := ⟨_, rfl⟩
       have hbW : Below w9.heap.size w9 W9 := by rw [hW]; exact (Below.refl _ w9).alloc (Nat.le_refl _) _
       have HQ := Lib.hid (show QV w W9 w9.heap.size ⟨⟨⟨fs4, dn4, fu4, fa4⟩, sz4, fr4, nx4, br4⟩, es4, mo4⟩ ad4 n4 cap4 be4 m4 cp4 from ⟨by rw [hW]; exact blk_new w9 _, hq.under hbW, HB.out.trans (hbW.mono HB.out.size), HB.out.size⟩)
       replace HP := Lib.hid (HP.out.under hbW)
       replace HX := Lib.hid ((HX.out.keep hbW).mono hbW.size)
       replace HB := Lib.hid (HB.out.trans (hbW.mono HB.out.size))
       have HbW9 := Lib.hid hbW
       clear hbW hq
       go_upto_region 25 with (fail)
       rw [← hW]
       clear hW
       obtain ⟨d0, d1, d2, d3, d4, d5, d6, d7, d8, d9⟩ := box10 HQ.out.h
       have hld := (Array.getElem?_eq_some_iff.1 HQ.out.h).1
       go_wp2_with fail
       refine (qcheck_any W9 _ _ _ _ _ _ _ HQ.out.i).mono ?_
       rintro e w10 ⟨er, rfl, hcase, hb⟩
       replace HP := Lib.hid (HP.out.under hb)
       replace HX := Lib.hid ((HX.out.keep hb).mono hb.size)
       replace HQ := Lib.hid (HQ.out.under hb)
       replace HB := Lib.hid (HB.out.trans (hb.mono HB.out.size))
       clear hb
       obtain rfl : er = 0 := by
        rcases hcase with ⟨_, h⟩ | ⟨h, _⟩
        ·exact h
        ·exact absurd HQr.out h
       clear hcase
       clear d0 d1 d2 d3 d4 d5 d6 d7 d8 d9 hld
       obtain ⟨d0, d1, d2, d3, d4, d5, d6, d7, d8, d9⟩ := box10 HQ.out.h
       have hld := (Array.getElem?_eq_some_iff.1 HQ.out.h).1
       have hsm := same_any w10 be4 adv cp4 capv es4 (want) HQ.out.i.e.2.2.2 HX.out.2.2.2 (by have h2 := HQr.out.2.2.1; simp only at h2; omega) (by omega)
       rw [show es4.length = m4 from HQ.out.i.e.1.symm] at hsm
       have Hsm := Lib.hid hsm
       clear hsm
       go_wp2_with fail
       refine Hsm.out.mono ?_
       rintro e w11 ⟨rfl, hb⟩
       replace HP := Lib.hid (HP.out.under hb)
       replace HX := Lib.hid ((HX.out.keep hb).mono hb.size)
       replace HQ := Lib.hid (HQ.out.under hb)
       replace HB := Lib.hid (HB.out.trans (hb.mono HB.out.size))
       clear hb Hsm
       clear d0 d1 d2 d3 d4 d5 d6 d7 d8 d9 hld
       obtain ⟨d0, d1, d2, d3, d4, d5, d6, d7, d8, d9⟩ := box10 HQ.out.h
       have hld := (Array.getElem?_eq_some_iff.1 HQ.out.h).1
       rw [hs1]
       go_wp2
       go_ret
       exact ⟨rfl, HB.out⟩
     by_cases gs : c = 4 ∨ c = 19 ∨ c = 7 ∨ c = 5
     ·rcases gs with rfl | rfl | rfl | rfl
      all_goals
       go_upto_region 23 with (fail)
       clear c0 c1 c2 c3 c4 c5 c6 c7 c8 c9 hlc
       obtain ⟨d0, d1, d2, d3, d4, d5, d6, d7, d8, d9⟩ := box10 HP.out.h
       have hld := (Array.getElem?_eq_some_iff.1 HP.out.h).1
       have HK2 := Lib.hid (HK.out.under HB.out)
       go_wp2_with fail
       refine (Crash_any w6 ad1 n1 cap1 dn1 fu1 fa1 fs1 HP.out.i.l.d adK nk capK ks HK2.out Hnk.out.1 Hnk.out.2).mono ?_
       rw [crv_right (d := ⟨fs1, dn1, fu1, fa1⟩) HRf.out]
       rintro e w8 ⟨ad5, n5, cap5, rfl, hi, hb, _⟩
       clear d0 d1 d2 d3 d4 d5 d6 d7 d8 d9 hld
       replace HP := Lib.hid (HP.out.under hb)
       replace HX := Lib.hid ((HX.out.keep hb).mono hb.size)
       replace HB := Lib.hid (HB.out.trans (hb.mono HB.out.size))
       have Hd := Lib.hid (show DIn w8 ad5 n5 cap5 (-1) (-1) (crashL ks fs1) from ⟨hi, fun f hf => okF_fit ((right_crash HRf.out ks).ok f hf), by omega, by omega, by omega, by omega⟩)
       clear hi hb HK2
       simp only
       obtain ⟨W8, hW⟩ : ∃ W, W = w8.alloc (.cells (dcells (.slice ad5 n5 cap5) false (-1) (-1)) 24) := ⟨_, rfl⟩
       have hbW : Below w8.heap.size w8 W8 := by rw [hW]; exact (Below.refl _ w8).alloc (Nat.le_refl _) _
       have HDk := Lib.hid (show Blk W8 w8.heap.size (dcells (.slice ad5 n5 cap5) false (-1) (-1)) 24 from by rw [hW]; exact blk_new w8 _)
       replace HP := Lib.hid (HP.out.under hbW)
       replace HX := Lib.hid ((HX.out.keep hbW).mono hbW.size)
       replace Hd := Lib.hid (Hd.out.under hbW)
       replace HB := Lib.hid (HB.out.trans (hbW.mono HB.out.size))
       clear hbW
       go_upto_region 24 with (fail)
       rw [← hW]
       clear hW
       obtain ⟨c0, c1, c2, c3⟩ := box4' HDk.out
       have hlc := HDk.out.lt
       go_wp2_with fail
       refine (qopen_any W8 ad5 n5 cap5 ⟨crashL ks fs1, false, -1, -1⟩ size most Hd.out Hsz.out Hmo.out (HT.out.under HB.out) (by have := HB.out.size; omega)).mono ?_
       rintro e w9 hP
       rw [Hop.out] at hP
       obtain ⟨hb, ad4, n4, cap4, be4, m4, cp4, rfl, hq⟩ := hP
       clear c0 c1 c2 c3 hlc
       replace HP := Lib.hid (HP.out.under hb)
       replace HX := Lib.hid ((HX.out.keep hb).mono hb.size)
       replace Hd := Lib.hid (Hd.out.under hb)
       replace HB := Lib.hid (HB.out.trans (hb.mono HB.out.size))
       clear hb Hd HDk
       obtain ⟨W9, hW⟩ : ∃ W, W = w9.alloc (.cells #[.slice ad4 n4 cap4, .bool dn4, .int .i64 fu4, .int .i64 fa4, .int .i64 sz4, .int .u64 fr4, .int .u64 nx4, .bool br4, .slice be4 m4 cp4, .int .i64 mo4] 30) := ⟨_, rfl⟩
       have hbW : Below w9.heap.size w9 W9 := by rw [hW]; exact (Below.refl _ w9).alloc (Nat.le_refl _) _
       have HQ := Lib.hid (show QV w W9 w9.heap.size ⟨⟨⟨fs4, dn4, fu4, fa4⟩, sz4, fr4, nx4, br4⟩, es4, mo4⟩ ad4 n4 cap4 be4 m4 cp4 from ⟨by rw [hW]; exact blk_new w9 _, hq.under hbW, HB.out.trans (hbW.mono HB.out.size), HB.out.size⟩)
       replace HP := Lib.hid (HP.out.under hbW)
       replace HX := Lib.hid ((HX.out.keep hbW).mono hbW.size)
       replace HB := Lib.hid (HB.out.trans (hbW.mono HB.out.size))
       have HbW9 := Lib.hid hbW
       clear hbW hq
       go_upto_region 25 with (fail)
       rw [← hW]
       clear hW
       obtain ⟨d0, d1, d2, d3, d4, d5, d6, d7, d8, d9⟩ := box10 HQ.out.h
       have hld := (Array.getElem?_eq_some_iff.1 HQ.out.h).1
       go_wp2_with fail
       refine (qcheck_any W9 _ _ _ _ _ _ _ HQ.out.i).mono ?_
       rintro e w10 ⟨er, rfl, hcase, hb⟩
       replace HP := Lib.hid (HP.out.under hb)
       replace HX := Lib.hid ((HX.out.keep hb).mono hb.size)
       replace HQ := Lib.hid (HQ.out.under hb)
       replace HB := Lib.hid (HB.out.trans (hb.mono HB.out.size))
       clear hb
       obtain rfl : er = 0 := by
        rcases hcase with ⟨_, h⟩ | ⟨h, _⟩
        ·exact h
        ·exact absurd HQr.out h
       clear hcase
       clear d0 d1 d2 d3 d4 d5 d6 d7 d8 d9 hld
       obtain ⟨d0, d1, d2, d3, d4, d5, d6, d7, d8, d9⟩ := box10 HQ.out.h
       have hld := (Array.getElem?_eq_some_iff.1 HQ.out.h).1
       have hsm := same_any w10 be4 adv cp4 capv es4 (want) HQ.out.i.e.2.2.2 HX.out.2.2.2 (by have h2 := HQr.out.2.2.1; simp only at h2; omega) (by omega)
       rw [show es4.length = m4 from HQ.out.i.e.1.symm] at hsm
       have Hsm := Lib.hid hsm
       clear hsm
       go_wp2_with fail
       refine Hsm.out.mono ?_
       rintro e w11 ⟨rfl, hb⟩
       replace HP := Lib.hid (HP.out.under hb)
       replace HX := Lib.hid ((HX.out.keep hb).mono hb.size)
       replace HQ := Lib.hid (HQ.out.under hb)
       replace HB := Lib.hid (HB.out.trans (hb.mono HB.out.size))
       clear hb Hsm
       clear d0 d1 d2 d3 d4 d5 d6 d7 d8 d9 hld
       obtain ⟨d0, d1, d2, d3, d4, d5, d6, d7, d8, d9⟩ := box10 HQ.out.h
       have hld := (Array.getElem?_eq_some_iff.1 HQ.out.h).1
       rw [hs1]
       go_wp2
       go_ret
       exact ⟨rfl, HB.out⟩
     ·have g4 : ¬ c = 4 := fun h => gs (.inl h)
      have g19 : ¬ c = 19 := fun h => gs (.inr (.inl h))
      have g7 : ¬ c = 7 := fun h => gs (.inr (.inr (.inl h)))
      have g5 : ¬ c = 5 := fun h => gs (.inr (.inr (.inr h)))
      have e0 : (c == 0) = false := by simpa using hc
      have e8 : (c == 8) = false := by simpa using g8
      have e4 : (c == 4) = false := by simpa using g4
      have e19 : (c == 19) = false := by simpa using g19
      have e7 : (c == 7) = false := by simpa using g7
      have e5 : (c == 5) = false := by simpa using g5
      clear gs
      obtain ⟨d0, d1, d2, d3, d4, d5, d6, d7, d8, d9⟩ := box10 HP.out.h
      have hld := (Array.getElem?_eq_some_iff.1 HP.out.h).1
      have HK2 := Lib.hid (HK.out.under HB.out)
      go_wp2_with fail
      refine (Crash_any w6 ad1 n1 cap1 dn1 fu1 fa1 fs1 HP.out.i.l.d adK nk capK ks HK2.out Hnk.out.1 Hnk.out.2).mono ?_
      rw [crv_right (d := ⟨fs1, dn1, fu1, fa1⟩) HRf.out]
      rintro e w8 ⟨ad5, n5, cap5, rfl, hi, hb, _⟩
      clear c0 c1 c2 c3 c4 c5 c6 c7 c8 c9 hlc
      clear d0 d1 d2 d3 d4 d5 d6 d7 d8 d9 hld
      replace HP := Lib.hid (HP.out.under hb)
      replace HX := Lib.hid ((HX.out.keep hb).mono hb.size)
      replace HB := Lib.hid (HB.out.trans (hb.mono HB.out.size))
      have Hd := Lib.hid (show DIn w8 ad5 n5 cap5 (-1) (-1) (crashL ks fs1) from ⟨hi, fun f hf => okF_fit ((right_crash HRf.out ks).ok f hf), by omega, by omega, by omega, by omega⟩)
      clear hi hb HK2
      simp only
      obtain ⟨W8, hW⟩ : ∃ W, W = w8.alloc (.cells (dcells (.slice ad5 n5 cap5) false (-1) (-1)) 24) := ⟨_, rfl⟩
      have hbW : Below w8.heap.size w8 W8 := by rw [hW]; exact (Below.refl _ w8).alloc (Nat.le_refl _) _
      have HDk := Lib.hid (show Blk W8 w8.heap.size (dcells (.slice ad5 n5 cap5) false (-1) (-1)) 24 from by rw [hW]; exact blk_new w8 _)
      replace HP := Lib.hid (HP.out.under hbW)
      replace HX := Lib.hid ((HX.out.keep hbW).mono hbW.size)
      replace Hd := Lib.hid (Hd.out.under hbW)
      replace HB := Lib.hid (HB.out.trans (hbW.mono HB.out.size))
      clear hbW
      go_upto_region 24 with (fail)
      rw [← hW]
      clear hW
      obtain ⟨c0, c1, c2, c3⟩ := box4' HDk.out
      have hlc := HDk.out.lt
      go_wp2_with fail
      refine (qopen_any W8 ad5 n5 cap5 ⟨crashL ks fs1, false, -1, -1⟩ size most Hd.out Hsz.out Hmo.out (HT.out.under HB.out) (by have := HB.out.size; omega)).mono ?_
      rintro e w9 hP
      rw [Hop.out] at hP
      obtain ⟨hb, ad4, n4, cap4, be4, m4, cp4, rfl, hq⟩ := hP
      clear c0 c1 c2 c3 hlc
      replace HP := Lib.hid (HP.out.under hb)
      replace HX := Lib.hid ((HX.out.keep hb).mono hb.size)
      replace Hd := Lib.hid (Hd.out.under hb)
      replace HB := Lib.hid (HB.out.trans (hb.mono HB.out.size))
      clear hb Hd HDk
      obtain ⟨W9, hW⟩ : ∃ W, W = w9.alloc (.cells #[.slice ad4 n4 cap4, .bool dn4, .int .i64 fu4, .int .i64 fa4, .int .i64 sz4, .int .u64 fr4, .int .u64 nx4, .bool br4, .slice be4 m4 cp4, .int .i64 mo4] 30) := ⟨_, rfl⟩
      have hbW : Below w9.heap.size w9 W9 := by rw [hW]; exact (Below.refl _ w9).alloc (Nat.le_refl _) _
      have HQ := Lib.hid (show QV w W9 w9.heap.size ⟨⟨⟨fs4, dn4, fu4, fa4⟩, sz4, fr4, nx4, br4⟩, es4, mo4⟩ ad4 n4 cap4 be4 m4 cp4 from ⟨by rw [hW]; exact blk_new w9 _, hq.under hbW, HB.out.trans (hbW.mono HB.out.size), HB.out.size⟩)
      replace HP := Lib.hid (HP.out.under hbW)
      replace HX := Lib.hid ((HX.out.keep hbW).mono hbW.size)
      replace HB := Lib.hid (HB.out.trans (hbW.mono HB.out.size))
      have HbW9 := Lib.hid hbW
      clear hbW hq
      go_upto_region 25 with (fail)
      rw [← hW]
      clear hW
      obtain ⟨d0, d1, d2, d3, d4, d5, d6, d7, d8, d9⟩ := box10 HQ.out.h
      have hld := (Array.getElem?_eq_some_iff.1 HQ.out.h).1
      go_wp2_with fail
      refine (qcheck_any W9 _ _ _ _ _ _ _ HQ.out.i).mono ?_
      rintro e w10 ⟨er, rfl, hcase, hb⟩
      replace HP := Lib.hid (HP.out.under hb)
      replace HX := Lib.hid ((HX.out.keep hb).mono hb.size)
      replace HQ := Lib.hid (HQ.out.under hb)
      replace HB := Lib.hid (HB.out.trans (hb.mono HB.out.size))
      clear hb
      obtain rfl : er = 0 := by
       rcases hcase with ⟨_, h⟩ | ⟨h, _⟩
       ·exact h
       ·exact absurd HQr.out h
      clear hcase
      clear d0 d1 d2 d3 d4 d5 d6 d7 d8 d9 hld
      obtain ⟨d0, d1, d2, d3, d4, d5, d6, d7, d8, d9⟩ := box10 HQ.out.h
      have hld := (Array.getElem?_eq_some_iff.1 HQ.out.h).1
      have hsm := same_any w10 be4 adv cp4 capv es4 (want) HQ.out.i.e.2.2.2 HX.out.2.2.2 (by have h2 := HQr.out.2.2.1; simp only at h2; omega) (by omega)
      rw [show es4.length = m4 from HQ.out.i.e.1.symm] at hsm
      have Hsm := Lib.hid hsm
      clear hsm
      go_wp2_with fail
      refine Hsm.out.mono ?_
      rintro e w11 ⟨rfl, hb⟩
      replace HP := Lib.hid (HP.out.under hb)
      replace HX := Lib.hid ((HX.out.keep hb).mono hb.size)
      replace HQ := Lib.hid (HQ.out.under hb)
      replace HB := Lib.hid (HB.out.trans (hb.mono HB.out.size))
      clear hb Hsm
      clear d0 d1 d2 d3 d4 d5 d6 d7 d8 d9 hld
      obtain ⟨d0, d1, d2, d3, d4, d5, d6, d7, d8, d9⟩ := box10 HQ.out.h
      have hld := (Array.getElem?_eq_some_iff.1 HQ.out.h).1
      rw [hs1]
      go_wp2
      go_ret
      exact ⟨rfl, HB.out⟩
    ·have g4 : ¬ c = 4 := fun h => hns (.inr (.inl h))
     have g19 : ¬ c = 19 := fun h => hns (.inr (.inr (.inl h)))
     have g7 : ¬ c = 7 := fun h => hns (.inr (.inr (.inr (.inl h))))
     have g5 : ¬ c = 5 := fun h => hns (.inr (.inr (.inr (.inr h))))
     have e4 : (c == 4) = false := by simpa using g4
     have e19 : (c == 19) = false := by simpa using g19
     have e7 : (c == 7) = false := by simpa using g7
     have e5 : (c == 5) = false := by simpa using g5
     have e0 : (c == 0) = false := by simpa using hc
     by_cases g8 : c = 8
     ·have gm : ¬ mo0 ≤ (m0 : Int) := fun h => hns (.inl ⟨g8, by show mo0 ≤ (es0.length : Int); omega⟩)
      subst g8
      clear hns
      obtain ⟨d0, d1, d2, d3, d4, d5, d6, d7, d8, d9⟩ := box10 HP.out.h
      have hld := (Array.getElem?_eq_some_iff.1 HP.out.h).1
      have HK2 := Lib.hid (HK.out.under HB.out)
      go_wp2_with fail
      refine (Crash_any w6 ad1 n1 cap1 dn1 fu1 fa1 fs1 HP.out.i.l.d adK nk capK ks HK2.out Hnk.out.1 Hnk.out.2).mono ?_
      rw [crv_right (d := ⟨fs1, dn1, fu1, fa1⟩) HRf.out]
      rintro e w8 ⟨ad5, n5, cap5, rfl, hi, hb, _⟩
      clear c0 c1 c2 c3 c4 c5 c6 c7 c8 c9 hlc
      clear d0 d1 d2 d3 d4 d5 d6 d7 d8 d9 hld
      replace HP := Lib.hid (HP.out.under hb)
      replace HX := Lib.hid ((HX.out.keep hb).mono hb.size)
      replace HY := Lib.hid ((HY.out.keep hb).mono hb.size)
      replace HB := Lib.hid (HB.out.trans (hb.mono HB.out.size))
      have Hd := Lib.hid (show DIn w8 ad5 n5 cap5 (-1) (-1) (crashL ks fs1) from ⟨hi, fun f hf => okF_fit ((right_crash HRf.out ks).ok f hf), by omega, by omega, by omega, by omega⟩)
      clear hi hb HK2
      simp only
      obtain ⟨W8, hW⟩ : ∃ W, W = w8.alloc (.cells (dcells (.slice ad5 n5 cap5) false (-1) (-1)) 24) := ⟨_, rfl⟩
      have hbW : Below w8.heap.size w8 W8 := by rw [hW]; exact (Below.refl _ w8).alloc (Nat.le_refl _) _
      have HDk := Lib.hid (show Blk W8 w8.heap.size (dcells (.slice ad5 n5 cap5) false (-1) (-1)) 24 from by rw [hW]; exact blk_new w8 _)
      replace HP := Lib.hid (HP.out.under hbW)
      replace HX := Lib.hid ((HX.out.keep hbW).mono hbW.size)
      replace HY := Lib.hid ((HY.out.keep hbW).mono hbW.size)
      replace Hd := Lib.hid (Hd.out.under hbW)
      replace HB := Lib.hid (HB.out.trans (hbW.mono HB.out.size))
      clear hbW
      go_upto_region 24 with (fail)
      rw [← hW]
      clear hW
      obtain ⟨c0, c1, c2, c3⟩ := box4' HDk.out
      have hlc := HDk.out.lt
      go_wp2_with fail
      refine (qopen_any W8 ad5 n5 cap5 ⟨crashL ks fs1, false, -1, -1⟩ size most Hd.out Hsz.out Hmo.out (HT.out.under HB.out) (by have := HB.out.size; omega)).mono ?_
      rintro e w9 hP
      rw [Hop.out] at hP
      obtain ⟨hb, ad4, n4, cap4, be4, m4, cp4, rfl, hq⟩ := hP
      clear c0 c1 c2 c3 hlc
      replace HP := Lib.hid (HP.out.under hb)
      replace HX := Lib.hid ((HX.out.keep hb).mono hb.size)
      replace HY := Lib.hid ((HY.out.keep hb).mono hb.size)
      replace Hd := Lib.hid (Hd.out.under hb)
      replace HB := Lib.hid (HB.out.trans (hb.mono HB.out.size))
      clear hb Hd HDk
      obtain ⟨W9, hW⟩ : ∃ W, W = w9.alloc (.cells #[.slice ad4 n4 cap4, .bool dn4, .int .i64 fu4, .int .i64 fa4, .int .i64 sz4, .int .u64 fr4, .int .u64 nx4, .bool br4, .slice be4 m4 cp4, .int .i64 mo4] 30) := ⟨_, rfl⟩
      have hbW : Below w9.heap.size w9 W9 := by rw [hW]; exact (Below.refl _ w9).alloc (Nat.le_refl _) _
      have HQ := Lib.hid (show QV w W9 w9.heap.size ⟨⟨⟨fs4, dn4, fu4, fa4⟩, sz4, fr4, nx4, br4⟩, es4, mo4⟩ ad4 n4 cap4 be4 m4 cp4 from ⟨by rw [hW]; exact blk_new w9 _, hq.under hbW, HB.out.trans (hbW.mono HB.out.size), HB.out.size⟩)
      replace HP := Lib.hid (HP.out.under hbW)
      replace HX := Lib.hid ((HX.out.keep hbW).mono hbW.size)
      replace HY := Lib.hid ((HY.out.keep hbW).mono hbW.size)
      replace HB := Lib.hid (HB.out.trans (hbW.mono HB.out.size))
      have HbW9 := Lib.hid hbW
      clear hbW hq
      go_upto_region 25 with (fail)
      rw [← hW]
      clear hW
      obtain ⟨d0, d1, d2, d3, d4, d5, d6, d7, d8, d9⟩ := box10 HQ.out.h
      have hld := (Array.getElem?_eq_some_iff.1 HQ.out.h).1
      go_wp2_with fail
      refine (qcheck_any W9 _ _ _ _ _ _ _ HQ.out.i).mono ?_
      rintro e w10 ⟨er, rfl, hcase, hb⟩
      replace HP := Lib.hid (HP.out.under hb)
      replace HX := Lib.hid ((HX.out.keep hb).mono hb.size)
      replace HY := Lib.hid ((HY.out.keep hb).mono hb.size)
      replace HQ := Lib.hid (HQ.out.under hb)
      replace HB := Lib.hid (HB.out.trans (hb.mono HB.out.size))
      clear hb
      obtain rfl : er = 0 := by
       rcases hcase with ⟨_, h⟩ | ⟨h, _⟩
       ·exact h
       ·exact absurd HQr.out h
      clear hcase
      clear d0 d1 d2 d3 d4 d5 d6 d7 d8 d9 hld
      obtain ⟨d0, d1, d2, d3, d4, d5, d6, d7, d8, d9⟩ := box10 HQ.out.h
      have hld := (Array.getElem?_eq_some_iff.1 HQ.out.h).1
      have hsm := same_any w10 be4 adv cp4 capv es4 (want) HQ.out.i.e.2.2.2 HX.out.2.2.2 (by have h2 := HQr.out.2.2.1; simp only at h2; omega) (by omega)
      rw [show es4.length = m4 from HQ.out.i.e.1.symm] at hsm
      have Hsm := Lib.hid hsm
      clear hsm
      go_wp2_with fail
      refine Hsm.out.mono ?_
      rintro e w11 ⟨rfl, hb⟩
      replace HP := Lib.hid (HP.out.under hb)
      replace HX := Lib.hid ((HX.out.keep hb).mono hb.size)
      replace HY := Lib.hid ((HY.out.keep hb).mono hb.size)
      replace HQ := Lib.hid (HQ.out.under hb)
      replace HB := Lib.hid (HB.out.trans (hb.mono HB.out.size))
      clear hb Hsm
      clear d0 d1 d2 d3 d4 d5 d6 d7 d8 d9 hld
      obtain ⟨d0, d1, d2, d3, d4, d5, d6, d7, d8, d9⟩ := box10 HQ.out.h
      have hld := (Array.getElem?_eq_some_iff.1 HQ.out.h).1
      cases hs1 : sameE es4 (want) with
      | true =>
       go_wp2
       go_ret
       exact ⟨rfl, HB.out⟩
      | false =>
       have hsm := same_any w11 be4 adb cp4 capb es4 (aftE kl dl sl nx want) HQ.out.i.e.2.2.2 HY.out.2.2.2 (by have h2 := HQr.out.2.2.1; simp only at h2; omega) (by omega)
       rw [show es4.length = m4 from HQ.out.i.e.1.symm] at hsm
       have Hsm := Lib.hid hsm
       clear hsm
       go_wp2_with fail
       refine Hsm.out.mono ?_
       rintro e w12 ⟨rfl, hb⟩
       replace HP := Lib.hid (HP.out.under hb)
       replace HX := Lib.hid ((HX.out.keep hb).mono hb.size)
       replace HY := Lib.hid ((HY.out.keep hb).mono hb.size)
       replace HQ := Lib.hid (HQ.out.under hb)
       replace HB := Lib.hid (HB.out.trans (hb.mono HB.out.size))
       clear hb Hsm
       clear d0 d1 d2 d3 d4 d5 d6 d7 d8 d9 hld
       obtain ⟨d0, d1, d2, d3, d4, d5, d6, d7, d8, d9⟩ := box10 HQ.out.h
       have hld := (Array.getElem?_eq_some_iff.1 HQ.out.h).1
       rw [hs2]
       go_wp2
       go_ret
       exact ⟨rfl, HB.out⟩
     ·have e8 : (c == 8) = false := by simpa using g8
      clear hns
      obtain ⟨d0, d1, d2, d3, d4, d5, d6, d7, d8, d9⟩ := box10 HP.out.h
      have hld := (Array.getElem?_eq_some_iff.1 HP.out.h).1
      have HK2 := Lib.hid (HK.out.under HB.out)
      go_wp2_with fail
      refine (Crash_any w6 ad1 n1 cap1 dn1 fu1 fa1 fs1 HP.out.i.l.d adK nk capK ks HK2.out Hnk.out.1 Hnk.out.2).mono ?_
      rw [crv_right (d := ⟨fs1, dn1, fu1, fa1⟩) HRf.out]
      rintro e w8 ⟨ad5, n5, cap5, rfl, hi, hb, _⟩
      clear c0 c1 c2 c3 c4 c5 c6 c7 c8 c9 hlc
      clear d0 d1 d2 d3 d4 d5 d6 d7 d8 d9 hld
      replace HP := Lib.hid (HP.out.under hb)
      replace HX := Lib.hid ((HX.out.keep hb).mono hb.size)
      replace HY := Lib.hid ((HY.out.keep hb).mono hb.size)
      replace HB := Lib.hid (HB.out.trans (hb.mono HB.out.size))
      have Hd := Lib.hid (show DIn w8 ad5 n5 cap5 (-1) (-1) (crashL ks fs1) from ⟨hi, fun f hf => okF_fit ((right_crash HRf.out ks).ok f hf), by omega, by omega, by omega, by omega⟩)
      clear hi hb HK2
      simp only
      obtain ⟨W8, hW⟩ : ∃ W, W = w8.alloc (.cells (dcells (.slice ad5 n5 cap5) false (-1) (-1)) 24) := ⟨_, rfl⟩
      have hbW : Below w8.heap.size w8 W8 := by rw [hW]; exact (Below.refl _ w8).alloc (Nat.le_refl _) _
      have HDk := Lib.hid (show Blk W8 w8.heap.size (dcells (.slice ad5 n5 cap5) false (-1) (-1)) 24 from by rw [hW]; exact blk_new w8 _)
      replace HP := Lib.hid (HP.out.under hbW)
      replace HX := Lib.hid ((HX.out.keep hbW).mono hbW.size)
      replace HY := Lib.hid ((HY.out.keep hbW).mono hbW.size)
      replace Hd := Lib.hid (Hd.out.under hbW)
      replace HB := Lib.hid (HB.out.trans (hbW.mono HB.out.size))
      clear hbW
      go_upto_region 24 with (fail)
      rw [← hW]
      clear hW
      obtain ⟨c0, c1, c2, c3⟩ := box4' HDk.out
      have hlc := HDk.out.lt
      go_wp2_with fail
      refine (qopen_any W8 ad5 n5 cap5 ⟨crashL ks fs1, false, -1, -1⟩ size most Hd.out Hsz.out Hmo.out (HT.out.under HB.out) (by have := HB.out.size; omega)).mono ?_
      rintro e w9 hP
      rw [Hop.out] at hP
      obtain ⟨hb, ad4, n4, cap4, be4, m4, cp4, rfl, hq⟩ := hP
      clear c0 c1 c2 c3 hlc
      replace HP := Lib.hid (HP.out.under hb)
      replace HX := Lib.hid ((HX.out.keep hb).mono hb.size)
      replace HY := Lib.hid ((HY.out.keep hb).mono hb.size)
      replace Hd := Lib.hid (Hd.out.under hb)
      replace HB := Lib.hid (HB.out.trans (hb.mono HB.out.size))
      clear hb Hd HDk
      obtain ⟨W9, hW⟩ : ∃ W, W = w9.alloc (.cells #[.slice ad4 n4 cap4, .bool dn4, .int .i64 fu4, .int .i64 fa4, .int .i64 sz4, .int .u64 fr4, .int .u64 nx4, .bool br4, .slice be4 m4 cp4, .int .i64 mo4] 30) := ⟨_, rfl⟩
      have hbW : Below w9.heap.size w9 W9 := by rw [hW]; exact (Below.refl _ w9).alloc (Nat.le_refl _) _
      have HQ := Lib.hid (show QV w W9 w9.heap.size ⟨⟨⟨fs4, dn4, fu4, fa4⟩, sz4, fr4, nx4, br4⟩, es4, mo4⟩ ad4 n4 cap4 be4 m4 cp4 from ⟨by rw [hW]; exact blk_new w9 _, hq.under hbW, HB.out.trans (hbW.mono HB.out.size), HB.out.size⟩)
      replace HP := Lib.hid (HP.out.under hbW)
      replace HX := Lib.hid ((HX.out.keep hbW).mono hbW.size)
      replace HY := Lib.hid ((HY.out.keep hbW).mono hbW.size)
      replace HB := Lib.hid (HB.out.trans (hbW.mono HB.out.size))
      have HbW9 := Lib.hid hbW
      clear hbW hq
      go_upto_region 25 with (fail)
      rw [← hW]
      clear hW
      obtain ⟨d0, d1, d2, d3, d4, d5, d6, d7, d8, d9⟩ := box10 HQ.out.h
      have hld := (Array.getElem?_eq_some_iff.1 HQ.out.h).1
      go_wp2_with fail
      refine (qcheck_any W9 _ _ _ _ _ _ _ HQ.out.i).mono ?_
      rintro e w10 ⟨er, rfl, hcase, hb⟩
      replace HP := Lib.hid (HP.out.under hb)
      replace HX := Lib.hid ((HX.out.keep hb).mono hb.size)
      replace HY := Lib.hid ((HY.out.keep hb).mono hb.size)
      replace HQ := Lib.hid (HQ.out.under hb)
      replace HB := Lib.hid (HB.out.trans (hb.mono HB.out.size))
      clear hb
      obtain rfl : er = 0 := by
       rcases hcase with ⟨_, h⟩ | ⟨h, _⟩
       ·exact h
       ·exact absurd HQr.out h
      clear hcase
      clear d0 d1 d2 d3 d4 d5 d6 d7 d8 d9 hld
      obtain ⟨d0, d1, d2, d3, d4, d5, d6, d7, d8, d9⟩ := box10 HQ.out.h
      have hld := (Array.getElem?_eq_some_iff.1 HQ.out.h).1
      have hsm := same_any w10 be4 adv cp4 capv es4 (want) HQ.out.i.e.2.2.2 HX.out.2.2.2 (by have h2 := HQr.out.2.2.1; simp only at h2; omega) (by omega)
      rw [show es4.length = m4 from HQ.out.i.e.1.symm] at hsm
      have Hsm := Lib.hid hsm
      clear hsm
      go_wp2_with fail
      refine Hsm.out.mono ?_
      rintro e w11 ⟨rfl, hb⟩
      replace HP := Lib.hid (HP.out.under hb)
      replace HX := Lib.hid ((HX.out.keep hb).mono hb.size)
      replace HY := Lib.hid ((HY.out.keep hb).mono hb.size)
      replace HQ := Lib.hid (HQ.out.under hb)
      replace HB := Lib.hid (HB.out.trans (hb.mono HB.out.size))
      clear hb Hsm
      clear d0 d1 d2 d3 d4 d5 d6 d7 d8 d9 hld
      obtain ⟨d0, d1, d2, d3, d4, d5, d6, d7, d8, d9⟩ := box10 HQ.out.h
      have hld := (Array.getElem?_eq_some_iff.1 HQ.out.h).1
      cases hs1 : sameE es4 (want) with
      | true =>
       go_wp2
       go_ret
       exact ⟨rfl, HB.out⟩
      | false =>
       have hsm := same_any w11 be4 adb cp4 capb es4 (aftE kl dl sl nx want) HQ.out.i.e.2.2.2 HY.out.2.2.2 (by have h2 := HQr.out.2.2.1; simp only at h2; omega) (by omega)
       rw [show es4.length = m4 from HQ.out.i.e.1.symm] at hsm
       have Hsm := Lib.hid hsm
       clear hsm
       go_wp2_with fail
       refine Hsm.out.mono ?_
       rintro e w12 ⟨rfl, hb⟩
       replace HP := Lib.hid (HP.out.under hb)
       replace HX := Lib.hid ((HX.out.keep hb).mono hb.size)
       replace HY := Lib.hid ((HY.out.keep hb).mono hb.size)
       replace HQ := Lib.hid (HQ.out.under hb)
       replace HB := Lib.hid (HB.out.trans (hb.mono HB.out.size))
       clear hb Hsm
       clear d0 d1 d2 d3 d4 d5 d6 d7 d8 d9 hld
       obtain ⟨d0, d1, d2, d3, d4, d5, d6, d7, d8, d9⟩ := box10 HQ.out.h
       have hld := (Array.getElem?_eq_some_iff.1 HQ.out.h).1
       rw [hs2]
       go_wp2
       go_ret
       exact ⟨rfl, HB.out⟩
end Go.Proofs.YtlgbehagflnfgaaGreatDoor
