/- SEGMENT: THE ITERATOR OVER A FILE'S FRAMES. -/
import Derived.Test.YtlgbehagflnfgaaGreatDoorKaj
import Derived.RangeFuncNested
import Derived.RangeFuncBound
import Derived.RangeFuncCalls
import Derived.RangeFuncLeaves
import Derived.Shelf.Abstract
import Derived.Shelf.RegionOpen
import Derived.OwnWalkIn
import Derived.TacticsInMore
import Derived.LoopNIn
import Derived.LoopIn
namespace Go.Proofs.YtlgbehagflnfgaaGreatDoor
open Go.RowKit Go.Shelf
attribute [local go_sem] Oper.semAt_some
set_option maxRecDepth 100000
set_option linter.unusedVariables false
set_option linter.unusedSimpArgs false

/-- a record -/
structure Rec where
 seq : Nat
 data : ByteArray
 h1 : seq < 4611686018427387904
 h2 : data.size ≤ 65536
abbrev Rec.cells (r : Rec) : Array Value := #[.int .u64 (r.seq : Int), .string r.data]
theorem firstM_bd {s d : ByteArray} {n : Nat} (h : firstM s (n : Int) = some d) : n < 4611686018427387904 ∧ d.size ≤ 65536 ∧ 16 + d.size ≤ s.size := by
 unfold firstM at h
 split at h
 ·cases h
 split at h
 ·cases h
 split at h
 ·cases h
 split at h
 ·cases h
 split at h
 ·injection h with h
  subst h
  simp only [ByteArray.size_extract]
  omega
 ·cases h
/-- the records with whose frames s begins -/
def framesF : Nat → ByteArray → Nat → List Rec
 | 0, _, _ => []
 | k + 1, s, n => match h : firstM s (n : Int) with
  | none => []
  | some d => ⟨n, d, (firstM_bd h).1, (firstM_bd h).2.1⟩ :: framesF k (s.extract (16 + d.size) s.size) (n + 1)
theorem framesF_none {k : Nat} {s : ByteArray} {n : Nat} (h : firstM s (n : Int) = none) : framesF k s n = [] := by
 cases k with
 | zero => rfl
 | succ k => unfold framesF; split <;> simp_all
theorem framesF_some {k : Nat} {s d : ByteArray} {n : Nat} (h : firstM s (n : Int) = some d) : framesF (k + 1) s n = ⟨n, d, (firstM_bd h).1, (firstM_bd h).2.1⟩ :: framesF k (s.extract (16 + d.size) s.size) (n + 1) := by
 rw [framesF]
 split
 ·simp_all
 ·rename_i d' h'
  obtain rfl : d' = d := by rw [h'] at h; injection h
  rfl
theorem framesF_more : ∀ (k : Nat) (s : ByteArray) (n : Nat), s.size ≤ k → ∀ j, s.size ≤ j → framesF k s n = framesF j s n := by
 intro k
 induction k with
 | zero =>
  intro s n hk j hj
  have : firstM s (n : Int) = none := by unfold firstM; rw [if_pos (by omega)]
  rw [framesF_none this, framesF_none this]
 | succ k ih =>
  intro s n hk j hj
  cases h : firstM s (n : Int) with
  | none => rw [framesF_none h, framesF_none h]
  | some d =>
   have hb := (firstM_bd h).2.2
   obtain ⟨j', rfl⟩ : ∃ j', j = j' + 1 := ⟨j - 1, by omega⟩
   rw [framesF_some h, framesF_some h]
   congr 1
   exact ih _ _ (by simp; omega) j' (by simp; omega)
def framesL (s : ByteArray) (n : Nat) : List Rec := framesF s.size s n
theorem framesL_none {s : ByteArray} {n : Nat} (h : firstM s (n : Int) = none) : framesL s n = [] := framesF_none h
theorem framesL_some {s d : ByteArray} {n : Nat} (h : firstM s (n : Int) = some d) : framesL s n = ⟨n, d, (firstM_bd h).1, (firstM_bd h).2.1⟩ :: framesL (s.extract (16 + d.size) s.size) (n + 1) := by
 have hb := (firstM_bd h).2.2
 have e := framesF_some (k := s.size - 1) h
 rw [show s.size - 1 + 1 = s.size by omega] at e
 unfold framesL
 rw [e]
 congr 1
 exact framesF_more _ _ _ (by simp; omega) _ (Nat.le_refl _)

/-- what a round of the consumer's keeps: what lies below n₀, and each box of one record -/
structure Kp (n₀ : Nat) (W W' : World) : Prop where
 size : W.heap.size ≤ W'.heap.size
 low : ∀ k, k < n₀ → W'.heap[k]? = W.heap[k]?
 box : ∀ (k : Nat) (a : Int) (d : ByteArray), W.heap[k]? = some (Obj.cells #[.int .u64 a, .string d] 110 (0, 0)) → W'.heap[k]? = some (Obj.cells #[.int .u64 a, .string d] 110 (0, 0))
theorem Tabs.low {w w' : World} {n₀ : Nat} (h : Tabs w) (hn : 4 ≤ n₀) (hl : ∀ k, k < n₀ → w'.heap[k]? = w.heap[k]?) (hs : w.heap.size ≤ w'.heap.size) : Tabs w' where
 t := fun i hi => (World.cell?_of_block (hl 2 (by omega))).trans (h.t i hi)
 e2 := by obtain ⟨te, pe, e⟩ := h.e2; exact ⟨te, pe, (World.cell?_of_block (hl 0 (by omega))).trans e⟩
 e3 := by obtain ⟨te, pe, e⟩ := h.e3; exact ⟨te, pe, (World.cell?_of_block (hl 1 (by omega))).trans e⟩
 sz := Nat.lt_of_lt_of_le h.sz hs
def szOf : Value → Nat
 | .string b => b.size
 | _ => 0
theorem first_cases (s : ByteArray) (n : Nat) : (firstM s (n : Int) = none ∧ firstV s n = .tuple #[.agg #[.int .u64 0, .string ⟨#[]⟩], .bool false]) ∨ ∃ d, firstM s (n : Int) = some d ∧ firstV s n = .tuple #[.agg #[.int .u64 (n : Int), .string d], .bool true] := by
 cases h : firstM s (n : Int) with
 | none => exact .inl ⟨rfl, firstV_none h⟩
 | some d => exact .inr ⟨d, rfl, firstV_some h⟩

def Fc (s : ByteArray) (n : Nat) (a : Int) (d : ByteArray) (isv : Bool) : Prop := (firstM s (n : Int) = none ∧ isv = false ∧ a = 0 ∧ d = ⟨#[]⟩) ∨ (firstM s (n : Int) = some d ∧ isv = true ∧ a = (n : Int))

set_option maxHeartbeats 4000000 in
theorem frames_it (l Bs Bq n₀ : Nat) (s : ByteArray) (next : Nat) (hs : s.size ≤ 1000000000) (hnx : next ≤ 4611686018427387904) (hn : 4 ≤ n₀) (W : World) (hT : Tabs W)
  (hbs : W.cell? ⟨Bs, 0, none⟩ = some (.string s)) (hbq : W.cell? ⟨Bq, 0, none⟩ = some (.int .u64 (next : Int))) (J Jx : List Rec → World → Prop) (hJ : AbidesFrom W.heap.size J)
  (N : Nat) (hN : (framesL s next).length ≤ N)
  (hY : ∀ pre x W1, J pre W1 → pre.length < N → YieldAt Fence.wide 3 Tryz.prog l #[.agg x.cells] W1 fun e W' => (e = .returned (.bool true) ∧ J (pre ++ [x]) W' ∧ Kp n₀ W1 W') ∨ (e = .returned (.bool false) ∧ Jx (pre ++ [x]) W'))
  (h0 : J [] W) :
  CallsIn Fence.wide 4 Tryz.prog 127 #[.func (.yield l) #[] #[], .pointer (some ⟨Bs, 0, none⟩), .pointer (some ⟨Bq, 0, none⟩)] W fun e W' => (∃ v, e = .returned v) ∧
   ((∃ xs, xs = framesL s next ∧ J xs W') ∨ (∃ pre, True ∧ Jx pre W')) := by
 refine callsIn_of_wp Tryz.func127 rfl trivial ?_ rfl
 simp only [Tryz.ntmps127, List.size_toArray, List.length_cons, List.length_nil, Nat.reduceAdd, Nat.reduceSub, Array.replicate_succ, Array.replicate_zero, List.push_toArray, List.append_toArray, List.nil_append, List.cons_append]
 have HT := Lib.hid hT
 clear hT
 obtain ⟨sb, hsb⟩ : ∃ sb, framesL s next = sb := ⟨_, rfl⟩
 rw [hsb] at hN
 have Hsb := Lib.hid hsb
 clear hsb
 gi_wp2
 gi_region
 gi_wp2_with fail
 refine ⟨trivial, ?_⟩
 refine (callsIn_wide.2 (first_any W.drew s next (by omega) (by omega) hs (HT.out.under ((Below.refl _ W).drew)))).mono ?_
 rintro e w1 ⟨rfl, hb1⟩
 have hb1' : Below W.heap.size W w1 := ((Below.refl _ W).drew).trans hb1
 have Hb1 := Lib.hid hb1'
 clear hb1 hb1'
 suffices hmain : ∀ (a : Int) (d : ByteArray) (isv : Bool), Fc s next a d isv → firstV s next = .tuple #[.agg #[.int .u64 a, .string d], .bool isv] → _ by
  rcases first_cases s next with ⟨h1, h2⟩ | ⟨d, h1, h2⟩
  ·exact hmain _ _ _ (.inl ⟨h1, rfl, rfl, rfl⟩) h2
  ·exact hmain _ _ _ (.inr ⟨h1, rfl, rfl⟩) h2
 intro a d isv hcase hv
 rw [hv]
 have Hc := Lib.hid hcase
 have Hnew := Lib.hid (blk_new w1 (.cells #[.int .u64 a, .string d] 110))
 have Hb2 := Lib.hid ((Hb1.out).trans ((Below.refl w1.heap.size w1).alloc (Nat.le_refl _) (.cells #[.int .u64 a, .string d] 110) |>.mono Hb1.out.size))
 have HT2 := Lib.hid (HT.out.under Hb2.out)
 clear hv hcase
 gi_wp2
 gi_loopw [4, 5, 6, 7] (fun left seqv ptr isw wr => ∃ (pre : List Rec) (lf : ByteArray) (n : Nat) (b : Nat) (a : Int) (d : ByteArray) (isv : Bool) (W1 : World), left = .string lf ∧ seqv = .int .u64 (n : Int) ∧ ptr = .pointer (some ⟨b, 0, none⟩) ∧ isw = .bool isv ∧
   sb = pre ++ framesL lf n ∧ lf.size ≤ 1000000000 ∧ n ≤ 4611686018427387904 ∧ J pre W1 ∧ Below W1.heap.size W1 wr ∧ W.heap.size ≤ W1.heap.size ∧ Tabs wr ∧ Fc lf n a d isv ∧ wr.heap[b]? = some (Obj.cells #[.int .u64 a, .string d] 110 (0, 0))) (fun left _ _ _ _ => szOf left)
 case atStart => exact ⟨[], s, next, _, a, d, isv, W, rfl, rfl, rfl, rfl, by rw [← Hsb.out]; rfl, hs, hnx, h0, Hb2.out, Nat.le_refl _, HT2.out, Hc.out, Hnew.out⟩
 case round =>
  clear Hc Hnew Hb1 Hb2 HT2
  obtain ⟨pre, lf, n, b, a, d, isv, W1, rfl, rfl, rfl, rfl, hsb, hlf, hn2, hJ1, hbel, hWW, hTr, hfc, hbox⟩ := hrel
  have Hsb2 := Lib.hid hsb
  have HTr := Lib.hid hTr
  have Hbel := Lib.hid hbel
  have Hbox := Lib.hid hbox
  have hJr : J pre wr := hJ pre W1 wr none hJ1 ⟨hbel.os, hbel.tape, hbel.output, hbel.size, fun k hk _ => hbel.block k hk⟩ (fun r e => by cases e)
  obtain ⟨r0, r1⟩ := box2' hbox
  rcases hfc with ⟨hnone, rfl, rfl, rfl⟩ | ⟨hsome, rfl, rfl⟩
  ·have hfin : sb = pre := by rw [hsb, framesL_none hnone, List.append_nil]
   have Hfin := Lib.hid hfin
   clear hfin hsb hTr hbel hbox hnone
   gi_wp2
   refine ⟨fun _ h => (by cases h), ?_⟩
   gi_wp2
   go_end0
   exact ⟨⟨_, rfl⟩, .inl ⟨pre, by rw [Hsb.out, Hfin.out], hJr⟩⟩
  ·have hbd := firstM_bd hsome
   obtain ⟨fn, tmps, assign, body, hy, hR⟩ := hY pre ⟨n, d, hbd.1, hbd.2.1⟩ wr hJr (by rw [hsb, framesL_some hsome] at hN; simp at hN; omega)
   have Hsome := Lib.hid hsome
   clear hsb hTr hbel hbox hsome
   have hsl : ∀ W, (Instr.slice 9 (.string lf) (some (.int .i64 (16 + (d.size : Int)))) none none).run Tryz.prog W = .ok (.string (lf.extract (16 + d.size) lf.size)) W := fun W => by
    have e : (16 + (d.size : Int)).toNat = 16 + d.size := by omega
    have h1 : (0 : Int) ≤ 16 + (d.size : Int) := by omega
    have h2 : (16 : Int) + (d.size : Int) ≤ (lf.size : Int) := by omega
    simp [Instr.slice, Instr.sliceBounds, Instr.sliceBound, asIntOf, run_underlying Tryz.underlying9, h1, h2, e]
   obtain ⟨lf2, hlf2⟩ : ∃ x, lf.extract (16 + d.size) lf.size = x := ⟨_, rfl⟩
   rw [hlf2] at hsl
   have hlf2s : lf2.size + 16 ≤ lf.size := by rw [← hlf2]; simp; omega
   have hn3 : (n : Int) + 1 ≤ 18446744073709551615 := by omega
   have Hlf2 := Lib.hid hlf2
   clear hlf2
   gi_wp2
   refine hR.mono ?_
   clear hR hy
   rintro e W3 (⟨rfl, hJ3, hk3⟩ | ⟨rfl, hJx3⟩)
   ·have Hbox3 := Lib.hid (hk3.box b _ _ Hbox.out)
    have HT3 := Lib.hid (HTr.out.low hn hk3.low hk3.size)
    have hWW3 : W.heap.size ≤ W3.heap.size := by have h1 := hk3.size; have h2 := Hbel.out.size; omega
    clear r0 r1
    obtain ⟨r0, r1⟩ := box2' Hbox3.out
    have hb3 : b < W3.heap.size := (Array.getElem?_eq_some_iff.1 Hbox3.out).1
    obtain ⟨W4, hW4⟩ : ∃ X, X = W3.alloc (.cells #[.int .u64 (n : Int), .string d] 110) := ⟨_, rfl⟩
    have hbel4 : Below W3.heap.size W3 W4 := by rw [hW4]; exact (Below.refl _ W3).alloc (Nat.le_refl _) _
    have hbox4 : W4.heap[W3.heap.size]? = some (Obj.cells #[.int .u64 (n : Int), .string d] 110 (0, 0)) := by rw [hW4]; exact blk_new W3 _
    have Hbel4 := Lib.hid hbel4
    have Hbox4 := Lib.hid hbox4
    have HT4 := Lib.hid (HT3.out.under hbel4)
    have hf := Lib.hid ((callsIn_wide (n := 3)).2 (first_any W4 lf2 ((n : Int) + 1) (by omega) (by omega) (by omega) HT4.out))
    clear hbel4 hbox4
    gi_wp2_with fail
    rw [← hW4]
    refine ⟨trivial, ?_⟩
    refine (hf.out).mono ?_
    rintro e w5 ⟨rfl, hb5⟩
    suffices hmain : ∀ (a : Int) (d2 : ByteArray) (isv : Bool), Fc lf2 (n + 1) a d2 isv → firstV lf2 ((n : Int) + 1) = .tuple #[.agg #[.int .u64 a, .string d2], .bool isv] → _ by
     rcases first_cases lf2 (n + 1) with ⟨h1, h2⟩ | ⟨d2, h1, h2⟩
     ·rw [show ((n + 1 : Nat) : Int) = (n : Int) + 1 from by omega] at h2
      exact hmain _ _ _ (.inl ⟨h1, rfl, rfl, rfl⟩) h2
     ·rw [show ((n + 1 : Nat) : Int) = (n : Int) + 1 from by omega] at h2
      exact hmain _ _ _ (.inr ⟨h1, rfl, by omega⟩) h2
    intro a2 d2 isv2 hcase hv
    rw [hv]
    have Hc2 := Lib.hid hcase
    have hbox5 : w5.heap[W3.heap.size]? = some (Obj.cells #[.int .u64 (n : Int), .string d] 110 (0, 0)) := (hb5.block _ (Array.getElem?_eq_some_iff.1 Hbox4.out).1).trans Hbox4.out
    have hbox6 := heap_setCell_same _ W3.heap.size 1 _ 110 (.string d2) (heap_setCell_same w5 W3.heap.size 0 _ 110 (.int .u64 a2) hbox5)
    have Hbox6 := Lib.hid hbox6
    have hbel5 : Below W3.heap.size W3 w5 := Hbel4.out.trans (hb5.mono Hbel4.out.size)
    have hbel6 := (hbel5.setCell (p := ⟨W3.heap.size, 0, none⟩) (Nat.le_refl _) (.int .u64 a2)).setCell (p := ⟨W3.heap.size, 1, none⟩) (Nat.le_refl _) (.string d2)
    have Hbel6 := Lib.hid hbel6
    have HT6 := Lib.hid (HT3.out.under hbel6)
    clear r0 r1
    obtain ⟨r0, r1⟩ := box2' hbox5
    obtain ⟨f0, f1⟩ := free_of_box hbox5
    have hlt5 : W3.heap.size < w5.heap.size := (Array.getElem?_eq_some_iff.1 hbox5).1
    clear hcase hv hb5 hbox5 hbox6 hbel5 hbel6 hW4 hf
    gi_wp2
    go_roundw
    case rel =>
     refine ⟨pre ++ [⟨n, d, hbd.1, hbd.2.1⟩], lf2, n + 1, W3.heap.size, a2, d2, isv2, W3, rfl, by go_num, rfl, rfl, ?_, by omega, by omega, hJ3, Hbel6.out, hWW3, HT6.out, Hc2.out, Hbox6.out⟩
     rw [Hsb2.out, framesL_some Hsome.out, Hlf2.out]
     simp
    case measure => simp [szOf]; omega
   ·gi_wp2
    go_end0
    exact ⟨⟨_, rfl⟩, .inr ⟨_, trivial, hJx3⟩⟩
end Go.Proofs.YtlgbehagflnfgaaGreatDoor

/- REGIONS THAT DRAW THEIR ORDER, IN A ROUND OF A RANGE OVER A FUNCTION: as outside of one. -/
namespace Go.Proofs.YtlgbehagflnfgaaGreatDoor
open Go.RowKit
set_option linter.unusedVariables false
section
variable {n : Nat} {P : Program} {md : Region.Mode} {ops : Array Oper} {Q : Exit → Act → World → Prop}
theorem uponIn_inRound (l : Nat) {o : Oper} {a : Act} {K : Act → World → Prop} {r : Result Next} (h : o.uponIn Fence.wide n P a K Q r) : o.uponIn (Fence.wide.inRound l) n P a K Q r := by
 cases r with
 | ok nx w' =>
  cases nx <;> first
   | exact h
   | exact ⟨(fun e => by cases e), CallsIn.inRound l h.2⟩
   | exact ⟨(fun e => by cases e), h.2⟩
   | exact h.elim
 | halt x w' => cases x <;> first
   | exact h
   | exact h.elim
theorem wpIn_inRound (l : Nat) {o : Oper} {a : Act} {w : World} {K : Act → World → Prop} (hd : ∀ c, o.op ≠ .defer c) (h : o.wpIn Fence.wide n P a w K Q) : o.wpIn (Fence.wide.inRound l) n P a w K Q := by
 refine ⟨fun _ _ => trivial, ?_⟩
 have h2 := h.2
 rw [Oper.semAt_eq _ _ _ hd] at h2 ⊢
 exact uponIn_inRound l h2
theorem uponIn_next {F : Fence} {o : Oper} {a : Act} {K K' : Act → World → Prop} (hk : ∀ a w, K a w → K' a w) {r : Result Next} (h : o.uponIn F n P a K Q r) : o.uponIn F n P a K' Q r := by
 cases r with
 | ok nx w' =>
  cases nx <;> first
   | exact hk _ _ h
   | exact ⟨h.1, h.2.mono fun e w'' he => by cases e <;> first | exact hk _ _ he | exact he⟩
   | exact ⟨h.1, h.2.mono fun _ _ he => hk _ _ he⟩
   | exact h.elim
 | halt x w' => cases x <;> first
   | exact h
   | exact h.elim
theorem wpAnyIn_inRound (l : Nat) (hd : ∀ (i : Nat) (o : Oper), ops[i]? = some o → ∀ c, o.op ≠ .defer c) : ∀ (fuel : Nat) (listed : Array Bool) (a : Act) (w : World), wpAnyIn Fence.wide n P md ops Q fuel listed a w → wpAnyIn (Fence.wide.inRound l) n P md ops Q fuel listed a w
 | 0, _, _, _, h => h
 | fuel + 1, listed, a, w, h => ⟨h.1, fun i hi => by
  have hh := h.2 i hi
  unfold wpOpIn at hh ⊢
  cases ho : ops[i]? with
  | none => simp only [ho] at hh ⊢; exact wpAnyIn_inRound l hd fuel _ _ _ hh
  | some o =>
   simp only [ho] at hh ⊢
   split
   ·rename_i hw
    rw [if_pos hw] at hh
    have h3 := wpIn_inRound l (hd i o ho) hh
    exact ⟨h3.1, uponIn_next (fun a w => wpAnyIn_inRound l hd fuel _ a w) h3.2⟩
   ·rename_i hw
    rw [if_neg hw] at hh
    exact ⟨fun _ _ => trivial, wpAnyIn_inRound l hd fuel _ _ _ hh.2⟩⟩
/-- no operation defers -/
def noDefer (ops : Array Oper) : Bool := ops.all fun o => match o.op with | .defer _ => false | _ => true
theorem noDefer_spec (h : noDefer ops = true) : ∀ (i : Nat) (o : Oper), ops[i]? = some o → ∀ c, o.op ≠ .defer c := fun i o ho c e => by
 have := Array.all_eq_true_iff_forall_mem.1 h o (Array.mem_of_getElem? ho)
 simp [e] at this
/-- a region that draws, in a round -/
theorem wpIn_region_round (l : Nat) {id : Nat} {a : Act} {w : World} (hm : P.follows .mixedOrders = true) (hd : noDefer ops = true)
  (h : wpAnyIn Fence.wide n P .any ops Q ops.size (Array.replicate ops.size false) a { w with drawn := w.drawn + 1 }) : (Code.region id ops true).wpIn (Fence.wide.inRound l) n P Q a w :=
 wpIn_region_any hm (wpAnyIn_inRound l (noDefer_spec hd) _ _ _ _ h)
end
end Go.Proofs.YtlgbehagflnfgaaGreatDoor

/- SEGMENT: A RECORD IS PUT BEHIND A ROW OF RECORDS. -/
namespace Go.Proofs.YtlgbehagflnfgaaGreatDoor
open Go.RowKit
set_option maxRecDepth 100000
set_option linter.unusedVariables false
set_option linter.unusedSimpArgs false
theorem Tryz.info110 : (Tryz.prog.info? 110).map (fun i => (i.zero, i.size, i.bytes)) = some (some (.agg #[.int .u64 0, .string ⟨#[]⟩]), 2, 24) := by kernel_rfl
/-- the records in memory -/
def rcs (rs : List Rec) : List Value := rs.flatMap fun r => [Value.int .u64 (r.seq : Int), .string r.data]
theorem rcs_len (rs : List Rec) : (rcs rs).length = rs.length * 2 := by
 induction rs with
 | nil => rfl
 | cons r rs ih => rw [rcs, List.flatMap_cons, List.length_append]; rw [rcs] at ih; rw [ih]; simp; omega
theorem rcs_snoc (rs : List Rec) (r : Rec) : rcs (rs ++ [r]) = rcs rs ++ [Value.int .u64 (r.seq : Int), .string r.data] := by simp [rcs]
def RRow (w : World) (base : Nat) (v : Value) (rs : List Rec) : Prop := w.ownsRow base 110 2 v rs.length (rcs rs) ∧ (rs = [] → v = .slice none 0 0)
theorem src_rec (X : World) (a : Nat) (r : Rec) (h : X.heap[a]? = some (.cells #[.int .u64 (r.seq : Int), .string r.data] 110 (0, 0))) : Src Tryz.prog 2 67 (.slice (some ⟨a, 0, none⟩) 1 1) 1 [.int .u64 (r.seq : Int), .string r.data] X := by
 have hc : ∀ (w : World), w.heap[a]? = some (.cells #[.int .u64 (r.seq : Int), .string r.data] 110 (0, 0)) → ∀ j u, ([Value.int .u64 (r.seq : Int), .string r.data] : List Value)[j]? = some u → w.cell? ((⟨a, 0, none⟩ : Addr).add j) = some u := fun w hw j u hj => by
  obtain ⟨h0, h1⟩ := box2' hw
  match j, hj with
  | 0, hj => simp at hj; subst hj; exact h0
  | 1, hj => simp at hj; subst hj; exact h1
  | j + 2, hj => simp at hj
 exact ⟨.inl ⟨110, Tryz.underlying67⟩, fun w' => by simp [Builtin.lenOf], run_firstCells_some X 2 1 _ 1 1 _ (by simp) (hc X h), run_firstCells_some X.drew 2 1 _ 1 1 _ (by simp) (hc X.drew h), by simp, fun u hu => by
  simp only [List.mem_cons, List.not_mem_nil, or_false] at hu
  rcases hu with rfl | rfl <;> rfl⟩

/-- what the append keeps -/
structure Kap (W W' : World) (v v' : Value) : Prop where
 g : W.grownBy W' v.ownBlock
 o : v'.ownBlock = v.ownBlock ∨ v'.ownBlock = some W.heap.size
 box : ∀ (k : Nat) (a : Int) (d : ByteArray), W.heap[k]? = some (Obj.cells #[.int .u64 a, .string d] 110 (0, 0)) → W'.heap[k]? = some (Obj.cells #[.int .u64 a, .string d] 110 (0, 0))
theorem app_rec (X : World) (base a : Nat) (v : Value) (rs : List Rec) (r : Rec) (hb : base ≤ X.heap.size) (hrow : RRow X base v rs) (hn : rs.length ≤ 1000000000)
  (ha : X.heap[a]? = some (.cells #[.int .u64 (r.seq : Int), .string r.data] 110 (0, 0))) :
  ∃ v' w', (Builtin.append_ #[67, 67] 67 #[v, .slice (some ⟨a, 0, none⟩) 1 1]).run Tryz.prog X = .ok v' w' ∧ RRow w' base v' (rs ++ [r]) ∧ Kap X w' v v' := by
 obtain ⟨i0, hi, hz0, hz1, hz2⟩ := info_parts Tryz.info110
 have hs := src_rec X a r ha
 have hcell : ∀ j u, ([Value.int .u64 (r.seq : Int), .string r.data] : List Value)[j]? = some u → X.cell? ((⟨a, 0, none⟩ : Addr).add j) = some u := fun j u hj => by
  obtain ⟨h0, h1⟩ := box2' ha
  match j, hj with
  | 0, hj => simp at hj; subst hj; exact h0
  | 1, hj => simp at hj; subst hj; exact h1
  | j + 2, hj => simp at hj
 have hone : ∀ u ∈ ([Value.int .u64 (r.seq : Int), .string r.data] : List Value), u.oneCell' = true := fun u hu => by
  simp only [List.mem_cons, List.not_mem_nil, or_false] at hu
  rcases hu with rfl | rfl <;> rfl
 obtain ⟨v', w', hr, ho, hg, hnil, hob⟩ := run_append_own_at (P := Tryz.prog) X base 67 67 110 i0 _ 2 24 Tryz.underlying67 hi hz0 hz1 hz2 rfl (by decide) v rs.length _ hrow.1 ⟨a, 0, none⟩ 1 1 [.int .u64 (r.seq : Int), .string r.data] (by simp) hcell hone (by simp [maxLen]; omega) (by omega) hb
 have hrow' : RRow w' base v' (rs ++ [r]) := ⟨by rw [rcs_snoc, List.length_append]; exact ho, fun e => by simp at e⟩
 rcases hrow.1.2 with ⟨hv, hn0⟩ | ⟨g, cap, cur, hv, hbg, hgc, hnc, hcm, hcs, htk⟩
 ·refine ⟨v', w', hr, hrow', hg, hob, fun k a d hk => (hg.block k (Array.getElem?_eq_some_iff.1 hk).1 (by rw [hv]; simp [Value.ownBlock])).trans hk⟩
 ·have hne : rs ≠ [] := fun e => by have := hrow.2 e; rw [this] at hv; cases hv
  have hpos : 0 < rs.length := List.length_pos_iff.2 hne
  by_cases hfull : cap = rs.length
  ·-- no room: a new row
   have hold : (Builtin.firstCells 2 rs.length (.slice (some ⟨g, 0, none⟩) rs.length rs.length)).run Tryz.prog X.drew = .ok (rcs rs).toArray X.drew :=
    run_firstCells_some X.drew 2 rs.length _ rs.length rs.length _ (rcs_len rs) (fun j u hj => World.ownsRow.cells hrow.1 (g := g) (by rw [hv]; rfl) j u hj)
   have hrun := run_append_grow_src (P := Tryz.prog) X 67 67 67 110 i0 _ Tryz.underlying67 hi hz0 (some ⟨g, 0, none⟩) rs.length rs.length (rcs rs) (by rw [hz1]; exact hold) _ 1 _ (by rw [hz1]; exact hs) (by omega) (by omega) (by rw [hz2]; exact growslice_fits (by omega) (by omega))
   rw [hv, hfull] at hr
   rw [hr] at hrun
   injection hrun with e1 e2
   have hsame : ∀ k, k < X.heap.size → w'.heap[k]? = X.heap[k]? := fun k hk => by rw [e2]; exact heap_alloc_old X.drew _ hk
   exact ⟨v', w', by rw [hv, hfull]; exact hr, hrow', hg, hob, fun k a d hk => (hsame k (Array.getElem?_eq_some_iff.1 hk).1).trans hk⟩
  ·refine ⟨v', w', hr, hrow', hg, hob, fun k a d hk => ?_⟩
   by_cases e : k = g
   ·subst e
    rw [hgc] at hk
    injection hk with hk
    injection hk with h1 h2
    rw [h1] at hcs
    simp at hcs
    omega
   ·exact (hg.block k (Array.getElem?_eq_some_iff.1 hk).1 (by rw [hv]; simp [Value.ownBlock]; exact e)).trans hk
end Go.Proofs.YtlgbehagflnfgaaGreatDoor

/- SEGMENT: WHAT HOLDS WITHIN A ROUND OF add. -/
namespace Go.Proofs.YtlgbehagflnfgaaGreatDoor
open Go.RowKit
set_option maxRecDepth 100000
set_option linter.unusedVariables false
set_option linter.unusedSimpArgs false
/-- the contents' block -/
abbrev ccells (fr nx : Int) (rv mv : Value) : Array Value := #[.int .u64 fr, .int .u64 nx, rv, mv]
theorem op_appIn {n : Nat} {P : Program} {w w1 : World} {o : Oper} {a : Act} {K : Act → World → Prop} {Q : Exit → Act → World → Prop} (s x : Operand) {T U : TypeId} {v1 : Value} (S V : Value) (hs : a.eval s = S) (hx : a.eval x = V)
  (ho : o.op = .call { callee := .builtin .append, args := #[s, x], argTypes := #[T, U] }) (hr : (Builtin.append_ #[T, U] o.type #[S, V]).run P w = .ok v1 w1) (h : K (a.put o.dst v1) w1) : Oper.wpIn Fence.wide n P o a w K Q := by
 refine ⟨fun _ _ => trivial, ?_⟩
 have h2 : Oper.semAt (Fence.wide).round a.eval o = execOp a.eval o := rfl
 rw [h2]
 unfold execOp
 simp only [ho, resolve, invoke, builtin, Sem.run_bind, Sem.run_pure, Result.andThen_ok, List.map_toArray, List.map_cons, List.map_nil, hs, hx, hr]
 exact h
theorem Kp.trans {n₀ : Nat} {A B C : World} (h : Kp n₀ A B) (k : Kp n₀ B C) : Kp n₀ A C := ⟨Nat.le_trans h.size k.size, fun i hi => (k.low i hi).trans (h.low i hi), fun i a d hb => k.box i a d (h.box i a d hb)⟩
theorem Kp.alloc {n₀ : Nat} {W : World} (hn : n₀ ≤ W.heap.size) (o : Obj) : Kp n₀ W (W.alloc o) :=
 ⟨by simp, fun k hk => Below.heap_alloc W o k (by omega), fun k a d hk => (Below.heap_alloc W o k (Array.getElem?_eq_some_iff.1 hk).1).trans hk⟩
theorem Kp.drew {n₀ : Nat} (W : World) : Kp n₀ W W.drew := ⟨Nat.le_refl _, fun _ _ => rfl, fun _ _ _ h => h⟩
theorem Kp.refl {n₀ : Nat} (W : World) : Kp n₀ W W := ⟨Nat.le_refl _, fun _ _ => rfl, fun _ _ _ h => h⟩
/-- a store into a block that is no box -/
theorem Kp.set {n₀ : Nat} {W : World} {g j : Nat} (u : Value) (hg : n₀ ≤ g) (hne : ∀ (a : Int) (d : ByteArray), W.heap[g]? ≠ some (Obj.cells #[.int .u64 a, .string d] 110 (0, 0))) : Kp n₀ W (W.setCell ⟨g, j, none⟩ u) :=
 ⟨by simp [World.setCell], fun k hk => Below.heap_setCell W ⟨g, j, none⟩ u k (by show k ≠ g; omega), fun k a d hk => (Below.heap_setCell W ⟨g, j, none⟩ u k (by rintro rfl; exact hne a d hk)).trans hk⟩
theorem Kap.kp {n₀ : Nat} {W W' : World} {v v' : Value} (h : Kap W W' v v') (hv : ∀ g, v.ownBlock = some g → n₀ ≤ g) (hn : n₀ ≤ W.heap.size) : Kp n₀ W W' :=
 ⟨h.g.size, fun k hk => h.g.block k (by omega) (fun e => by have := hv k e.symm; omega), h.box⟩
structure BR (base C Bp Sz Bx B0 : Nat) (fr nx : Int) (mv : Value) (all : List Rec) (sz : Int) (x : Rec) (w W W' : World) : Prop where
 p : Boxed W' Bp 163 (.pointer (some ⟨C, 0, none⟩))
 s : Boxed W' Sz 3 (.int .i64 sz)
 c : ∃ rv', W'.heap[C]? = some (Obj.cells (ccells fr nx rv' mv) 100 (0, 0)) ∧ RRow W' base rv' all ∧ rv'.ownBlock ≠ some Bx
 x : W'.heap[Bx]? = some (Obj.cells x.cells 110 (0, 0))
 b : Below base w W'
 kf : KeepsFrom B0 W W'
 kp : Kp base W W'
section
variable {base C Bp Sz Bx B0 : Nat} {fr nx : Int} {mv : Value} {all : List Rec} {sz : Int} {x : Rec} {w W W' : World}
theorem BR.drew (h : BR base C Bp Sz Bx B0 fr nx mv all sz x w W W') : BR base C Bp Sz Bx B0 fr nx mv all sz x w W W'.drew :=
 ⟨h.p, h.s, h.c, h.x, h.b.drew, h.kf.trans ((KeepsOthers.drew W').from B0), h.kp.trans (Kp.drew W')⟩
theorem BR.cp (h : BR base C Bp Sz Bx B0 fr nx mv all sz x w W W') : C ≠ Bp ∧ C ≠ Sz ∧ C ≠ Bx ∧ Sz ≠ Bp ∧ Sz ≠ Bx := by
 obtain ⟨rv', h1, _⟩ := h.c
 have h2 := h.p
 have h3 := h.s
 have h4 := h.x
 unfold Boxed at h2 h3
 refine ⟨?_, ?_, ?_, ?_, ?_⟩
 ·rintro rfl; rw [h1] at h2; cases h2
 ·rintro rfl; rw [h1] at h3; cases h3
 ·rintro rfl; rw [h1] at h4; cases h4
 ·rintro rfl; rw [h2] at h3; cases h3
 ·rintro rfl; rw [h3] at h4; cases h4
theorem grown_setc (W : World) (g o : Nat) (u : Value) : W.grownBy (W.setCell ⟨g, o, none⟩ u) (some g) :=
 ⟨rfl, rfl, rfl, by simp [World.setCell], fun k hk hne => Below.heap_setCell W ⟨g, o, none⟩ u k (by rintro rfl; exact hne rfl)⟩
theorem RRow.set_far {w : World} {base g o : Nat} {v : Value} {rs : List Rec} (h : RRow w base v rs) (u : Value) (hne : v.ownBlock ≠ some g) : RRow (w.setCell ⟨g, o, none⟩ u) base v rs :=
 ⟨h.1.kept (grown_setc w g o u) (.inr hne), h.2⟩
theorem RRow.not_blk {w : World} {base g : Nat} {v : Value} {rs : List Rec} {cs : Array Value} {T : TypeId} (h : RRow w base v rs) (hg : w.heap[g]? = some (Obj.cells cs T (0, 0))) (hT : T ≠ 110) : v.ownBlock ≠ some g := by
 intro e
 rcases h.1.2 with ⟨hv, _⟩ | ⟨g', cap, cur, hv, _, hgc, _⟩
 ·rw [hv] at e; simp [Value.ownBlock] at e
 ·rw [hv] at e
  simp [Value.ownBlock] at e
  subst e
  rw [hgc] at hg
  injection hg with hg
  injection hg with _ h2
  exact hT h2.symm
/-- the number to come is set -/
theorem BR.setN (h : BR base C Bp Sz Bx B0 fr nx mv all sz x w W W') (hC : base ≤ C) (hw : C < w.heap.size ∨ True) (n : Int) : BR base C Bp Sz Bx B0 fr n mv all sz x w W (W'.setCell ⟨C, 1, none⟩ (.int .u64 n)) := by
 obtain ⟨n1, n2, n3, n4, n5⟩ := h.cp
 obtain ⟨rv', h1, h2, h3⟩ := h.c
 exact ⟨(Below.heap_setCell W' ⟨C, 1, none⟩ _ Bp (Ne.symm n1)).trans h.p, (Below.heap_setCell W' ⟨C, 1, none⟩ _ Sz (Ne.symm n2)).trans h.s, ⟨rv', heap_setCell_same W' C 1 _ 100 _ h1, h2.set_far _ (h2.not_blk h1 (by decide)), h3⟩, (Below.heap_setCell W' ⟨C, 1, none⟩ _ Bx (Ne.symm n3)).trans h.x,
  h.b.setCell (p := ⟨C, 1, none⟩) hC _, h.kf.trans ((KeepsOthers.setCell _ _ _).from B0), h.kp.trans (Kp.set _ hC fun a d e => by rw [h1] at e; cases e)⟩
/-- the sum is set -/
theorem BR.setS (h : BR base C Bp Sz Bx B0 fr nx mv all sz x w W W') (hS : base ≤ Sz) (n : Int) : BR base C Bp Sz Bx B0 fr nx mv all n x w W (W'.setCell ⟨Sz, 0, none⟩ (.int .i64 n)) := by
 obtain ⟨n1, n2, n3, n4, n5⟩ := h.cp
 obtain ⟨rv', h1, h2, h3⟩ := h.c
 have hs := h.s
 exact ⟨(Below.heap_setCell W' ⟨Sz, 0, none⟩ _ Bp (Ne.symm n4)).trans h.p, h.s.set _, ⟨rv', (Below.heap_setCell W' ⟨Sz, 0, none⟩ _ C n2).trans h1, h2.set_far _ (h2.not_blk (show W'.heap[Sz]? = _ from hs) (by decide)), h3⟩, (Below.heap_setCell W' ⟨Sz, 0, none⟩ _ Bx (Ne.symm n5)).trans h.x,
  h.b.setCell (p := ⟨Sz, 0, none⟩) hS _, h.kf.trans ((KeepsOthers.setCell _ _ _).from B0), h.kp.trans (Kp.set _ hS fun a d e => by rw [show W'.heap[Sz]? = _ from hs] at e; cases e)⟩
/-- a record is put behind the others -/
theorem BR.app (h : BR base C Bp Sz Bx B0 fr nx mv all sz x w W W') (hC : base ≤ C) (hn : all.length ≤ 1000000000) (rv' : Value) (h1 : W'.heap[C]? = some (Obj.cells (ccells fr nx rv' mv) 100 (0, 0))) :
  ∃ v7 w7, (∃ ad n cap, v7 = .slice ad n cap) ∧ (Builtin.append_ #[67, 67] 67 #[rv', .slice (some ⟨W'.heap.size, 0, none⟩) 1 1]).run Tryz.prog (W'.alloc (.cells x.cells 110)) = .ok v7 w7 ∧ Boxed w7 Bp 163 (.pointer (some ⟨C, 0, none⟩)) ∧ w7.heap[C]? = some (Obj.cells (ccells fr nx rv' mv) 100 (0, 0)) ∧ BR base C Bp Sz Bx B0 fr nx mv (all ++ [x]) sz x w W (w7.setCell ⟨C, 2, none⟩ v7) := by
 obtain ⟨n1, n2, n3, n4, n5⟩ := h.cp
 obtain ⟨rv2, h1', h2, h3⟩ := h.c
 have e : rv2 = rv' := by rw [h1] at h1'; injection h1' with e; injection e with e; simp at e; exact e.symm
 subst e
 have hlow : base ≤ W'.heap.size := by have := (Array.getElem?_eq_some_iff.1 h1).1; omega
 obtain ⟨v7, w7, hr, hrow, hk⟩ := app_rec (W'.alloc (.cells x.cells 110)) base W'.heap.size rv2 all x (by simp; omega) ⟨h2.1.alloc _, h2.2⟩ hn (blk_new W' _)
 have hb1 : ∀ g, rv2.ownBlock = some g → base ≤ g := fun g hg => (h2.1.lt g hg).1
 have same : ∀ k o, W'.heap[k]? = some o → rv2.ownBlock ≠ some k → w7.heap[k]? = some o := fun k o ho hne => by
  have hlt := (Array.getElem?_eq_some_iff.1 ho).1
  exact (hk.g.block k (by simp; omega) (fun e => hne e.symm)).trans (blk_alloc ho _)
 have hc7 := same C _ h1 (h2.not_blk h1 (by decide))
 have hp7 := same Bp _ h.p (h2.not_blk (show W'.heap[Bp]? = _ from h.p) (by decide))
 have hs7 := same Sz _ h.s (h2.not_blk (show W'.heap[Sz]? = _ from h.s) (by decide))
 have hx7 := same Bx _ h.x h3
 have hv7 : v7.ownBlock ≠ some Bx := by
  rcases hk.o with e | e
  ·rw [e]; exact h3
  ·rw [e]
   have := (Array.getElem?_eq_some_iff.1 h.x).1
   simp
   omega
 have hform : ∃ ad n cap, v7 = .slice ad n cap := by
  rcases hrow.1.2 with ⟨hv, _⟩ | ⟨g', cap, cur, hv, _⟩
  ·exact ⟨_, _, _, hv⟩
  ·exact ⟨_, _, _, hv⟩
 refine ⟨v7, w7, hform, hr, hp7, hc7, ?_⟩
 have hkeep : KeepsOthers W' w7 := (KeepsOthers.alloc W' _).trans (KeepsOthers.of_grownBy hk.g fun j o ej hj => by
  rcases h2.1.2 with ⟨hv, _⟩ | ⟨g', cap, cur, hv, _, hgc, _⟩
  ·rw [hv] at ej; simp [Value.ownBlock] at ej
  ·rw [hv] at ej
   simp [Value.ownBlock] at ej
   subst ej
   rw [blk_alloc hgc _] at hj
   cases hj; rfl)
 exact ⟨(Below.heap_setCell w7 ⟨C, 2, none⟩ _ Bp (Ne.symm n1)).trans hp7, (Below.heap_setCell w7 ⟨C, 2, none⟩ _ Sz (Ne.symm n2)).trans hs7, ⟨v7, heap_setCell_same w7 C 2 _ 100 _ hc7, hrow.set_far _ (hrow.not_blk hc7 (by decide)), hv7⟩, (Below.heap_setCell w7 ⟨C, 2, none⟩ _ Bx (Ne.symm n3)).trans hx7,
  (((h.b.alloc hlow _).grown hk.g (by simp; omega) hb1)).setCell (p := ⟨C, 2, none⟩) hC _, h.kf.trans ((hkeep.trans (KeepsOthers.setCell _ _ _)).from B0),
  h.kp.trans (((Kp.alloc hlow _).trans (hk.kp hb1 (by simp; omega))).trans (Kp.set _ hC fun a d e => by rw [hc7] at e; cases e))⟩
end
end Go.Proofs.YtlgbehagflnfgaaGreatDoor
