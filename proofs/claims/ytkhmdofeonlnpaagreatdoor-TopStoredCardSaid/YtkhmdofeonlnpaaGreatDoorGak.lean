/- SEGMENT: THE ITERATOR OVER A FILE'S FRAMES. -/
import Derived.Test.YtkhmdofeonlnpaaGreatDoorGaj
import Derived.RangeFuncNested
import Derived.RangeFuncBound
import Derived.RangeFuncCalls
import Derived.RangeFuncLeaves
import Derived.Shelf.Abstract
import Derived.Shelf.RegionOpen
import Derived.OwnWalkIn
import Derived.TacticsInMore
import Derived.LoopNIn
import Derived.LoopIn
namespace Go.Proofs.YtkhmdofeonlnpaaGreatDoor
open Go.RowKit Go.Shelf
attribute [local go_sem] Oper.semAt_some
set_option maxRecDepth 100000
set_option linter.unusedVariables false
set_option linter.unusedSimpArgs false

/-- a record -/
structure Rec where
  seq : Nat
  data : ByteArray
  h1 : seq < 4611686018427387904
  h2 : data.size ≤ 65536
abbrev Rec.cells (r : Rec) : Array Value := #[.int .u64 (r.seq : Int), .string r.data]
theorem firstM_bd {s d : ByteArray} {n : Nat} (h : firstM s (n : Int) = some d) : n < 4611686018427387904 ∧ d.size ≤ 65536 ∧ 16 + d.size ≤ s.size := by
  unfold firstM at h
  split at h
  · cases h
  split at h
  · cases h
  split at h
  · cases h
  split at h
  · cases h
  split at h
  · injection h with h
    subst h
    simp only [ByteArray.size_extract]
    omega
  · cases h
/-- the records with whose frames s begins -/
def framesF : Nat → ByteArray → Nat → List Rec
  | 0, _, _ => []
  | k + 1, s, n => match h : firstM s (n : Int) with
    | none => []
    | some d => ⟨n, d, (firstM_bd h).1, (firstM_bd h).2.1⟩ :: framesF k (s.extract (16 + d.size) s.size) (n + 1)
theorem framesF_none {k : Nat} {s : ByteArray} {n : Nat} (h : firstM s (n : Int) = none) : framesF k s n = [] := by
  cases k with
  | zero => rfl
  | succ k => unfold framesF; split <;> simp_all
theorem framesF_some {k : Nat} {s d : ByteArray} {n : Nat} (h : firstM s (n : Int) = some d) : framesF (k + 1) s n = ⟨n, d, (firstM_bd h).1, (firstM_bd h).2.1⟩ :: framesF k (s.extract (16 + d.size) s.size) (n + 1) := by
  rw [framesF]
  split
  · simp_all
  · rename_i d' h'
    obtain rfl : d' = d := by rw [h'] at h; injection h
    rfl
theorem framesF_more : ∀ (k : Nat) (s : ByteArray) (n : Nat), s.size ≤ k → ∀ j, s.size ≤ j → framesF k s n = framesF j s n := by
  intro k
  induction k with
  | zero =>
    intro s n hk j hj
    have : firstM s (n : Int) = none := by unfold firstM; rw [if_pos (by omega)]
    rw [framesF_none this, framesF_none this]
  | succ k ih =>
    intro s n hk j hj
    cases h : firstM s (n : Int) with
    | none => rw [framesF_none h, framesF_none h]
    | some d =>
      have hb := (firstM_bd h).2.2
      obtain ⟨j', rfl⟩ : ∃ j', j = j' + 1 := ⟨j - 1, by omega⟩
      rw [framesF_some h, framesF_some h]
      congr 1
      exact ih _ _ (by simp; omega) j' (by simp; omega)
def framesL (s : ByteArray) (n : Nat) : List Rec := framesF s.size s n
theorem framesL_none {s : ByteArray} {n : Nat} (h : firstM s (n : Int) = none) : framesL s n = [] := framesF_none h
theorem framesL_some {s d : ByteArray} {n : Nat} (h : firstM s (n : Int) = some d) : framesL s n = ⟨n, d, (firstM_bd h).1, (firstM_bd h).2.1⟩ :: framesL (s.extract (16 + d.size) s.size) (n + 1) := by
  have hb := (firstM_bd h).2.2
  have e := framesF_some (k := s.size - 1) h
  rw [show s.size - 1 + 1 = s.size by omega] at e
  unfold framesL
  rw [e]
  congr 1
  exact framesF_more _ _ _ (by simp; omega) _ (Nat.le_refl _)

/-- what a round of the consumer's keeps: what lies below n₀, and each box of one record -/
structure Kp (n₀ : Nat) (W W' : World) : Prop where
  size : W.heap.size ≤ W'.heap.size
  low : ∀ k, k < n₀ → W'.heap[k]? = W.heap[k]?
  box : ∀ (k : Nat) (a : Int) (d : ByteArray), W.heap[k]? = some (Obj.cells #[.int .u64 a, .string d] 123 (0, 0)) → W'.heap[k]? = some (Obj.cells #[.int .u64 a, .string d] 123 (0, 0))
theorem Tabs.low {w w' : World} {n₀ : Nat} (h : Tabs w) (hn : 6 ≤ n₀) (hl : ∀ k, k < n₀ → w'.heap[k]? = w.heap[k]?) (hs : w.heap.size ≤ w'.heap.size) : Tabs w' where
  t := fun i hi => (World.cell?_of_block (hl 5 (by omega))).trans (h.t i hi)
  e2 := by obtain ⟨te, pe, e⟩ := h.e2; exact ⟨te, pe, (World.cell?_of_block (hl 3 (by omega))).trans e⟩
  e3 := by obtain ⟨te, pe, e⟩ := h.e3; exact ⟨te, pe, (World.cell?_of_block (hl 4 (by omega))).trans e⟩
  sz := Nat.lt_of_lt_of_le h.sz hs
def szOf : Value → Nat
  | .string b => b.size
  | _ => 0
theorem first_cases (s : ByteArray) (n : Nat) : (firstM s (n : Int) = none ∧ firstV s n = .tuple #[.agg #[.int .u64 0, .string ⟨#[]⟩], .bool false]) ∨ ∃ d, firstM s (n : Int) = some d ∧ firstV s n = .tuple #[.agg #[.int .u64 (n : Int), .string d], .bool true] := by
  cases h : firstM s (n : Int) with
  | none => exact .inl ⟨rfl, firstV_none h⟩
  | some d => exact .inr ⟨d, rfl, firstV_some h⟩

def Fc (s : ByteArray) (n : Nat) (a : Int) (d : ByteArray) (isv : Bool) : Prop := (firstM s (n : Int) = none ∧ isv = false ∧ a = 0 ∧ d = ⟨#[]⟩) ∨ (firstM s (n : Int) = some d ∧ isv = true ∧ a = (n : Int))

set_option maxHeartbeats 4000000 in
theorem frames_it (l Bs Bq n₀ : Nat) (s : ByteArray) (next : Nat) (hs : s.size ≤ 1000000000) (hnx : next ≤ 4611686018427387904) (hn : 6 ≤ n₀) (W : World) (hT : Tabs W)
    (hbs : W.cell? ⟨Bs, 0, none⟩ = some (.string s)) (hbq : W.cell? ⟨Bq, 0, none⟩ = some (.int .u64 (next : Int))) (J Jx : List Rec → World → Prop) (hJ : AbidesFrom W.heap.size J)
    (N : Nat) (hN : (framesL s next).length ≤ N)
    (hY : ∀ pre x W1, J pre W1 → pre.length < N → YieldAt Fence.wide 3 Tryz.prog l #[.agg x.cells] W1 fun e W' => (e = .returned (.bool true) ∧ J (pre ++ [x]) W' ∧ Kp n₀ W1 W') ∨ (e = .returned (.bool false) ∧ Jx (pre ++ [x]) W'))
    (h0 : J [] W) :
    CallsIn Fence.wide 4 Tryz.prog 181 #[.func (.yield l) #[] #[], .pointer (some ⟨Bs, 0, none⟩), .pointer (some ⟨Bq, 0, none⟩)] W fun e W' => (∃ v, e = .returned v) ∧
      ((∃ xs, xs = framesL s next ∧ J xs W') ∨ (∃ pre, True ∧ Jx pre W')) := by
  refine callsIn_of_wp Tryz.func181 rfl trivial ?_ rfl
  simp only [Tryz.ntmps181, List.size_toArray, List.length_cons, List.length_nil, Nat.reduceAdd, Nat.reduceSub, Array.replicate_succ, Array.replicate_zero, List.push_toArray, List.append_toArray, List.nil_append, List.cons_append]
  have HT := Lib.hid hT
  clear hT
  obtain ⟨sb, hsb⟩ : ∃ sb, framesL s next = sb := ⟨_, rfl⟩
  rw [hsb] at hN
  have Hsb := Lib.hid hsb
  clear hsb
  gi_wp2
  gi_region
  gi_wp2_with fail
  refine ⟨trivial, ?_⟩
  refine (callsIn_wide.2 (first_any W.drew s next (by omega) (by omega) hs (HT.out.under ((Below.refl _ W).drew)))).mono ?_
  rintro e w1 ⟨rfl, hb1⟩
  have hb1' : Below W.heap.size W w1 := ((Below.refl _ W).drew).trans hb1
  have Hb1 := Lib.hid hb1'
  clear hb1 hb1'
  suffices hmain : ∀ (a : Int) (d : ByteArray) (isv : Bool), Fc s next a d isv → firstV s next = .tuple #[.agg #[.int .u64 a, .string d], .bool isv] → _ by
    rcases first_cases s next with ⟨h1, h2⟩ | ⟨d, h1, h2⟩
    · exact hmain _ _ _ (.inl ⟨h1, rfl, rfl, rfl⟩) h2
    · exact hmain _ _ _ (.inr ⟨h1, rfl, rfl⟩) h2
  intro a d isv hcase hv
  rw [hv]
  have Hc := Lib.hid hcase
  have Hnew := Lib.hid (blk_new w1 (.cells #[.int .u64 a, .string d] 123))
  have Hb2 := Lib.hid ((Hb1.out).trans ((Below.refl w1.heap.size w1).alloc (Nat.le_refl _) (.cells #[.int .u64 a, .string d] 123) |>.mono Hb1.out.size))
  have HT2 := Lib.hid (HT.out.under Hb2.out)
  clear hv hcase
  gi_wp2
  gi_loopw [4, 5, 6, 7] (fun left seqv ptr isw wr => ∃ (pre : List Rec) (lf : ByteArray) (n : Nat) (b : Nat) (a : Int) (d : ByteArray) (isv : Bool) (W1 : World), left = .string lf ∧ seqv = .int .u64 (n : Int) ∧ ptr = .pointer (some ⟨b, 0, none⟩) ∧ isw = .bool isv ∧
      sb = pre ++ framesL lf n ∧ lf.size ≤ 1000000000 ∧ n ≤ 4611686018427387904 ∧ J pre W1 ∧ Below W1.heap.size W1 wr ∧ W.heap.size ≤ W1.heap.size ∧ Tabs wr ∧ Fc lf n a d isv ∧ wr.heap[b]? = some (Obj.cells #[.int .u64 a, .string d] 123 (0, 0))) (fun left _ _ _ _ => szOf left)
  case atStart => exact ⟨[], s, next, _, a, d, isv, W, rfl, rfl, rfl, rfl, by rw [← Hsb.out]; rfl, hs, hnx, h0, Hb2.out, Nat.le_refl _, HT2.out, Hc.out, Hnew.out⟩
  case round =>
    clear Hc Hnew Hb1 Hb2 HT2
    obtain ⟨pre, lf, n, b, a, d, isv, W1, rfl, rfl, rfl, rfl, hsb, hlf, hn2, hJ1, hbel, hWW, hTr, hfc, hbox⟩ := hrel
    have Hsb2 := Lib.hid hsb
    have HTr := Lib.hid hTr
    have Hbel := Lib.hid hbel
    have Hbox := Lib.hid hbox
    have hJr : J pre wr := hJ pre W1 wr none hJ1 ⟨hbel.os, hbel.tape, hbel.output, hbel.size, fun k hk _ => hbel.block k hk⟩ (fun r e => by cases e)
    obtain ⟨r0, r1⟩ := box2' hbox
    rcases hfc with ⟨hnone, rfl, rfl, rfl⟩ | ⟨hsome, rfl, rfl⟩
    · have hfin : sb = pre := by rw [hsb, framesL_none hnone, List.append_nil]
      have Hfin := Lib.hid hfin
      clear hfin hsb hTr hbel hbox hnone
      gi_wp2
      refine ⟨fun _ h => (by cases h), ?_⟩
      gi_wp2
      go_end0
      exact ⟨⟨_, rfl⟩, .inl ⟨pre, by rw [Hsb.out, Hfin.out], hJr⟩⟩
    · have hbd := firstM_bd hsome
      obtain ⟨fn, tmps, assign, body, hy, hR⟩ := hY pre ⟨n, d, hbd.1, hbd.2.1⟩ wr hJr (by rw [hsb, framesL_some hsome] at hN; simp at hN; omega)
      have Hsome := Lib.hid hsome
      clear hsb hTr hbel hbox hsome
      have hsl : ∀ W, (Instr.slice 9 (.string lf) (some (.int .i64 (16 + (d.size : Int)))) none none).run Tryz.prog W = .ok (.string (lf.extract (16 + d.size) lf.size)) W := fun W => by
        have e : (16 + (d.size : Int)).toNat = 16 + d.size := by omega
        have h1 : (0 : Int) ≤ 16 + (d.size : Int) := by omega
        have h2 : (16 : Int) + (d.size : Int) ≤ (lf.size : Int) := by omega
        simp [Instr.slice, Instr.sliceBounds, Instr.sliceBound, asIntOf, run_underlying Tryz.underlying9, h1, h2, e]
      obtain ⟨lf2, hlf2⟩ : ∃ x, lf.extract (16 + d.size) lf.size = x := ⟨_, rfl⟩
      rw [hlf2] at hsl
      have hlf2s : lf2.size + 16 ≤ lf.size := by rw [← hlf2]; simp; omega
      have hn3 : (n : Int) + 1 ≤ 18446744073709551615 := by omega
      have Hlf2 := Lib.hid hlf2
      clear hlf2
      gi_wp2
      refine hR.mono ?_
      clear hR hy
      rintro e W3 (⟨rfl, hJ3, hk3⟩ | ⟨rfl, hJx3⟩)
      · have Hbox3 := Lib.hid (hk3.box b _ _ Hbox.out)
        have HT3 := Lib.hid (HTr.out.low hn hk3.low hk3.size)
        have hWW3 : W.heap.size ≤ W3.heap.size := by have h1 := hk3.size; have h2 := Hbel.out.size; omega
        clear r0 r1
        obtain ⟨r0, r1⟩ := box2' Hbox3.out
        have hb3 : b < W3.heap.size := (Array.getElem?_eq_some_iff.1 Hbox3.out).1
        obtain ⟨W4, hW4⟩ : ∃ X, X = W3.alloc (.cells #[.int .u64 (n : Int), .string d] 123) := ⟨_, rfl⟩
        have hbel4 : Below W3.heap.size W3 W4 := by rw [hW4]; exact (Below.refl _ W3).alloc (Nat.le_refl _) _
        have hbox4 : W4.heap[W3.heap.size]? = some (Obj.cells #[.int .u64 (n : Int), .string d] 123 (0, 0)) := by rw [hW4]; exact blk_new W3 _
        have Hbel4 := Lib.hid hbel4
        have Hbox4 := Lib.hid hbox4
        have HT4 := Lib.hid (HT3.out.under hbel4)
        have hf := Lib.hid ((callsIn_wide (n := 3)).2 (first_any W4 lf2 ((n : Int) + 1) (by omega) (by omega) (by omega) HT4.out))
        clear hbel4 hbox4
        gi_wp2_with fail
        rw [← hW4]
        refine ⟨trivial, ?_⟩
        refine (hf.out).mono ?_
        rintro e w5 ⟨rfl, hb5⟩
        suffices hmain : ∀ (a : Int) (d2 : ByteArray) (isv : Bool), Fc lf2 (n + 1) a d2 isv → firstV lf2 ((n : Int) + 1) = .tuple #[.agg #[.int .u64 a, .string d2], .bool isv] → _ by
          rcases first_cases lf2 (n + 1) with ⟨h1, h2⟩ | ⟨d2, h1, h2⟩
          · rw [show ((n + 1 : Nat) : Int) = (n : Int) + 1 from by omega] at h2
            exact hmain _ _ _ (.inl ⟨h1, rfl, rfl, rfl⟩) h2
          · rw [show ((n + 1 : Nat) : Int) = (n : Int) + 1 from by omega] at h2
            exact hmain _ _ _ (.inr ⟨h1, rfl, by omega⟩) h2
        intro a2 d2 isv2 hcase hv
        rw [hv]
        have Hc2 := Lib.hid hcase
        have hbox5 : w5.heap[W3.heap.size]? = some (Obj.cells #[.int .u64 (n : Int), .string d] 123 (0, 0)) := (hb5.block _ (Array.getElem?_eq_some_iff.1 Hbox4.out).1).trans Hbox4.out
        have hbox6 := heap_setCell_same _ W3.heap.size 1 _ 123 (.string d2) (heap_setCell_same w5 W3.heap.size 0 _ 123 (.int .u64 a2) hbox5)
        have Hbox6 := Lib.hid hbox6
        have hbel5 : Below W3.heap.size W3 w5 := Hbel4.out.trans (hb5.mono Hbel4.out.size)
        have hbel6 := (hbel5.setCell (p := ⟨W3.heap.size, 0, none⟩) (Nat.le_refl _) (.int .u64 a2)).setCell (p := ⟨W3.heap.size, 1, none⟩) (Nat.le_refl _) (.string d2)
        have Hbel6 := Lib.hid hbel6
        have HT6 := Lib.hid (HT3.out.under hbel6)
        clear r0 r1
        obtain ⟨r0, r1⟩ := box2' hbox5
        obtain ⟨f0, f1⟩ := free_of_box hbox5
        have hlt5 : W3.heap.size < w5.heap.size := (Array.getElem?_eq_some_iff.1 hbox5).1
        clear hcase hv hb5 hbox5 hbox6 hbel5 hbel6 hW4 hf
        gi_wp2
        go_roundw
        case rel =>
          refine ⟨pre ++ [⟨n, d, hbd.1, hbd.2.1⟩], lf2, n + 1, W3.heap.size, a2, d2, isv2, W3, rfl, by go_num, rfl, rfl, ?_, by omega, by omega, hJ3, Hbel6.out, hWW3, HT6.out, Hc2.out, Hbox6.out⟩
          rw [Hsb2.out, framesL_some Hsome.out, Hlf2.out]
          simp
        case measure => simp [szOf]; omega
      · gi_wp2
        go_end0
        exact ⟨⟨_, rfl⟩, .inr ⟨_, trivial, hJx3⟩⟩
end Go.Proofs.YtkhmdofeonlnpaaGreatDoor

/- REGIONS THAT DRAW THEIR ORDER, IN A ROUND OF A RANGE OVER A FUNCTION: as outside of one. -/
namespace Go.Proofs.YtkhmdofeonlnpaaGreatDoor
open Go.RowKit
set_option linter.unusedVariables false
section
variable {n : Nat} {P : Program} {md : Region.Mode} {ops : Array Oper} {Q : Exit → Act → World → Prop}
theorem uponIn_inRound (l : Nat) {o : Oper} {a : Act} {K : Act → World → Prop} {r : Result Next} (h : o.uponIn Fence.wide n P a K Q r) : o.uponIn (Fence.wide.inRound l) n P a K Q r := by
  cases r with
  | ok nx w' =>
    cases nx <;> first
      | exact h
      | exact ⟨(fun e => by cases e), CallsIn.inRound l h.2⟩
      | exact ⟨(fun e => by cases e), h.2⟩
      | exact h.elim
  | halt x w' => cases x <;> first
      | exact h
      | exact h.elim
theorem wpIn_inRound (l : Nat) {o : Oper} {a : Act} {w : World} {K : Act → World → Prop} (hd : ∀ c, o.op ≠ .defer c) (h : o.wpIn Fence.wide n P a w K Q) : o.wpIn (Fence.wide.inRound l) n P a w K Q := by
  refine ⟨fun _ _ => trivial, ?_⟩
  have h2 := h.2
  rw [Oper.semAt_eq _ _ _ hd] at h2 ⊢
  exact uponIn_inRound l h2
theorem uponIn_next {F : Fence} {o : Oper} {a : Act} {K K' : Act → World → Prop} (hk : ∀ a w, K a w → K' a w) {r : Result Next} (h : o.uponIn F n P a K Q r) : o.uponIn F n P a K' Q r := by
  cases r with
  | ok nx w' =>
    cases nx <;> first
      | exact hk _ _ h
      | exact ⟨h.1, h.2.mono fun e w'' he => by cases e <;> first | exact hk _ _ he | exact he⟩
      | exact ⟨h.1, h.2.mono fun _ _ he => hk _ _ he⟩
      | exact h.elim
  | halt x w' => cases x <;> first
      | exact h
      | exact h.elim
theorem wpAnyIn_inRound (l : Nat) (hd : ∀ (i : Nat) (o : Oper), ops[i]? = some o → ∀ c, o.op ≠ .defer c) : ∀ (fuel : Nat) (listed : Array Bool) (a : Act) (w : World), wpAnyIn Fence.wide n P md ops Q fuel listed a w → wpAnyIn (Fence.wide.inRound l) n P md ops Q fuel listed a w
  | 0, _, _, _, h => h
  | fuel + 1, listed, a, w, h => ⟨h.1, fun i hi => by
    have hh := h.2 i hi
    unfold wpOpIn at hh ⊢
    cases ho : ops[i]? with
    | none => simp only [ho] at hh ⊢; exact wpAnyIn_inRound l hd fuel _ _ _ hh
    | some o =>
      simp only [ho] at hh ⊢
      split
      · rename_i hw
        rw [if_pos hw] at hh
        have h3 := wpIn_inRound l (hd i o ho) hh
        exact ⟨h3.1, uponIn_next (fun a w => wpAnyIn_inRound l hd fuel _ a w) h3.2⟩
      · rename_i hw
        rw [if_neg hw] at hh
        exact ⟨fun _ _ => trivial, wpAnyIn_inRound l hd fuel _ _ _ hh.2⟩⟩
/-- no operation defers -/
def noDefer (ops : Array Oper) : Bool := ops.all fun o => match o.op with | .defer _ => false | _ => true
theorem noDefer_spec (h : noDefer ops = true) : ∀ (i : Nat) (o : Oper), ops[i]? = some o → ∀ c, o.op ≠ .defer c := fun i o ho c e => by
  have := Array.all_eq_true_iff_forall_mem.1 h o (Array.mem_of_getElem? ho)
  simp [e] at this
/-- a region that draws, in a round -/
theorem wpIn_region_round (l : Nat) {id : Nat} {a : Act} {w : World} (hm : P.follows .mixedOrders = true) (hd : noDefer ops = true)
    (h : wpAnyIn Fence.wide n P .any ops Q ops.size (Array.replicate ops.size false) a { w with drawn := w.drawn + 1 }) : (Code.region id ops true).wpIn (Fence.wide.inRound l) n P Q a w :=
  wpIn_region_any hm (wpAnyIn_inRound l (noDefer_spec hd) _ _ _ _ h)
end
end Go.Proofs.YtkhmdofeonlnpaaGreatDoor

/- SEGMENT: A RECORD IS PUT BEHIND A ROW OF RECORDS. -/
namespace Go.Proofs.YtkhmdofeonlnpaaGreatDoor
open Go.RowKit
set_option maxRecDepth 100000
set_option linter.unusedVariables false
set_option linter.unusedSimpArgs false
theorem Tryz.info123 : (Tryz.prog.info? 123).map (fun i => (i.zero, i.size, i.bytes)) = some (some (.agg #[.int .u64 0, .string ⟨#[]⟩]), 2, 24) := by kernel_rfl
/-- the records in memory -/
def rcs (rs : List Rec) : List Value := rs.flatMap fun r => [Value.int .u64 (r.seq : Int), .string r.data]
theorem rcs_len (rs : List Rec) : (rcs rs).length = rs.length * 2 := by
  induction rs with
  | nil => rfl
  | cons r rs ih => rw [rcs, List.flatMap_cons, List.length_append]; rw [rcs] at ih; rw [ih]; simp; omega
theorem rcs_snoc (rs : List Rec) (r : Rec) : rcs (rs ++ [r]) = rcs rs ++ [Value.int .u64 (r.seq : Int), .string r.data] := by simp [rcs]
def RRow (w : World) (base : Nat) (v : Value) (rs : List Rec) : Prop := w.ownsRow base 123 2 v rs.length (rcs rs) ∧ (rs = [] → v = .slice none 0 0)
theorem src_rec (X : World) (a : Nat) (r : Rec) (h : X.heap[a]? = some (.cells #[.int .u64 (r.seq : Int), .string r.data] 123 (0, 0))) : Src Tryz.prog 2 65 (.slice (some ⟨a, 0, none⟩) 1 1) 1 [.int .u64 (r.seq : Int), .string r.data] X := by
  have hc : ∀ (w : World), w.heap[a]? = some (.cells #[.int .u64 (r.seq : Int), .string r.data] 123 (0, 0)) → ∀ j u, ([Value.int .u64 (r.seq : Int), .string r.data] : List Value)[j]? = some u → w.cell? ((⟨a, 0, none⟩ : Addr).add j) = some u := fun w hw j u hj => by
    obtain ⟨h0, h1⟩ := box2' hw
    match j, hj with
    | 0, hj => simp at hj; subst hj; exact h0
    | 1, hj => simp at hj; subst hj; exact h1
    | j + 2, hj => simp at hj
  exact ⟨.inl ⟨123, Tryz.underlying65⟩, fun w' => by simp [Builtin.lenOf], run_firstCells_some X 2 1 _ 1 1 _ (by simp) (hc X h), run_firstCells_some X.drew 2 1 _ 1 1 _ (by simp) (hc X.drew h), by simp, fun u hu => by
    simp only [List.mem_cons, List.not_mem_nil, or_false] at hu
    rcases hu with rfl | rfl <;> rfl⟩

/-- what the append keeps -/
structure Kap (W W' : World) (v v' : Value) : Prop where
  g : W.grownBy W' v.ownBlock
  o : v'.ownBlock = v.ownBlock ∨ v'.ownBlock = some W.heap.size
  box : ∀ (k : Nat) (a : Int) (d : ByteArray), W.heap[k]? = some (Obj.cells #[.int .u64 a, .string d] 123 (0, 0)) → W'.heap[k]? = some (Obj.cells #[.int .u64 a, .string d] 123 (0, 0))
theorem app_rec (X : World) (base a : Nat) (v : Value) (rs : List Rec) (r : Rec) (hb : base ≤ X.heap.size) (hrow : RRow X base v rs) (hn : rs.length ≤ 1000000000)
    (ha : X.heap[a]? = some (.cells #[.int .u64 (r.seq : Int), .string r.data] 123 (0, 0))) :
    ∃ v' w', (Builtin.append_ #[65, 65] 65 #[v, .slice (some ⟨a, 0, none⟩) 1 1]).run Tryz.prog X = .ok v' w' ∧ RRow w' base v' (rs ++ [r]) ∧ Kap X w' v v' := by
  obtain ⟨i0, hi, hz0, hz1, hz2⟩ := info_parts Tryz.info123
  have hs := src_rec X a r ha
  have hcell : ∀ j u, ([Value.int .u64 (r.seq : Int), .string r.data] : List Value)[j]? = some u → X.cell? ((⟨a, 0, none⟩ : Addr).add j) = some u := fun j u hj => by
    obtain ⟨h0, h1⟩ := box2' ha
    match j, hj with
    | 0, hj => simp at hj; subst hj; exact h0
    | 1, hj => simp at hj; subst hj; exact h1
    | j + 2, hj => simp at hj
  have hone : ∀ u ∈ ([Value.int .u64 (r.seq : Int), .string r.data] : List Value), u.oneCell' = true := fun u hu => by
    simp only [List.mem_cons, List.not_mem_nil, or_false] at hu
    rcases hu with rfl | rfl <;> rfl
  obtain ⟨v', w', hr, ho, hg, hnil, hob⟩ := run_append_own_at (P := Tryz.prog) X base 65 65 123 i0 _ 2 24 Tryz.underlying65 hi hz0 hz1 hz2 rfl (by decide) v rs.length _ hrow.1 ⟨a, 0, none⟩ 1 1 [.int .u64 (r.seq : Int), .string r.data] (by simp) hcell hone (by simp [maxLen]; omega) (by omega) hb
  have hrow' : RRow w' base v' (rs ++ [r]) := ⟨by rw [rcs_snoc, List.length_append]; exact ho, fun e => by simp at e⟩
  rcases hrow.1.2 with ⟨hv, hn0⟩ | ⟨g, cap, cur, hv, hbg, hgc, hnc, hcm, hcs, htk⟩
  · refine ⟨v', w', hr, hrow', hg, hob, fun k a d hk => (hg.block k (Array.getElem?_eq_some_iff.1 hk).1 (by rw [hv]; simp [Value.ownBlock])).trans hk⟩
  · have hne : rs ≠ [] := fun e => by have := hrow.2 e; rw [this] at hv; cases hv
    have hpos : 0 < rs.length := List.length_pos_iff.2 hne
    by_cases hfull : cap = rs.length
    · -- no room: a new row
      have hold : (Builtin.firstCells 2 rs.length (.slice (some ⟨g, 0, none⟩) rs.length rs.length)).run Tryz.prog X.drew = .ok (rcs rs).toArray X.drew :=
        run_firstCells_some X.drew 2 rs.length _ rs.length rs.length _ (rcs_len rs) (fun j u hj => World.ownsRow.cells hrow.1 (g := g) (by rw [hv]; rfl) j u hj)
      have hrun := run_append_grow_src (P := Tryz.prog) X 65 65 65 123 i0 _ Tryz.underlying65 hi hz0 (some ⟨g, 0, none⟩) rs.length rs.length (rcs rs) (by rw [hz1]; exact hold) _ 1 _ (by rw [hz1]; exact hs) (by omega) (by omega) (by rw [hz2]; exact growslice_fits (by omega) (by omega))
      rw [hv, hfull] at hr
      rw [hr] at hrun
      injection hrun with e1 e2
      have hsame : ∀ k, k < X.heap.size → w'.heap[k]? = X.heap[k]? := fun k hk => by rw [e2]; exact heap_alloc_old X.drew _ hk
      exact ⟨v', w', by rw [hv, hfull]; exact hr, hrow', hg, hob, fun k a d hk => (hsame k (Array.getElem?_eq_some_iff.1 hk).1).trans hk⟩
    · refine ⟨v', w', hr, hrow', hg, hob, fun k a d hk => ?_⟩
      by_cases e : k = g
      · subst e
        rw [hgc] at hk
        injection hk with hk
        injection hk with h1 h2
        rw [h1] at hcs
        simp at hcs
        omega
      · exact (hg.block k (Array.getElem?_eq_some_iff.1 hk).1 (by rw [hv]; simp [Value.ownBlock]; exact e)).trans hk
end Go.Proofs.YtkhmdofeonlnpaaGreatDoor

/- SEGMENT: WHAT HOLDS WITHIN A ROUND OF add. -/
namespace Go.Proofs.YtkhmdofeonlnpaaGreatDoor
open Go.RowKit
set_option maxRecDepth 100000
set_option linter.unusedVariables false
set_option linter.unusedSimpArgs false
/-- the contents' block -/
abbrev ccells (fr nx : Int) (rv mv : Value) : Array Value := #[.int .u64 fr, .int .u64 nx, rv, mv]
theorem op_appIn {n : Nat} {P : Program} {w w1 : World} {o : Oper} {a : Act} {K : Act → World → Prop} {Q : Exit → Act → World → Prop} (s x : Operand) {T U : TypeId} {v1 : Value} (S V : Value) (hs : a.eval s = S) (hx : a.eval x = V)
    (ho : o.op = .call { callee := .builtin .append, args := #[s, x], argTypes := #[T, U] }) (hr : (Builtin.append_ #[T, U] o.type #[S, V]).run P w = .ok v1 w1) (h : K (a.put o.dst v1) w1) : Oper.wpIn Fence.wide n P o a w K Q := by
  refine ⟨fun _ _ => trivial, ?_⟩
  have h2 : Oper.semAt (Fence.wide).round a.eval o = execOp a.eval o := rfl
  rw [h2]
  unfold execOp
  simp only [ho, resolve, invoke, builtin, Sem.run_bind, Sem.run_pure, Result.andThen_ok, List.map_toArray, List.map_cons, List.map_nil, hs, hx, hr]
  exact h
theorem Kp.trans {n₀ : Nat} {A B C : World} (h : Kp n₀ A B) (k : Kp n₀ B C) : Kp n₀ A C := ⟨Nat.le_trans h.size k.size, fun i hi => (k.low i hi).trans (h.low i hi), fun i a d hb => k.box i a d (h.box i a d hb)⟩
theorem Kp.alloc {n₀ : Nat} {W : World} (hn : n₀ ≤ W.heap.size) (o : Obj) : Kp n₀ W (W.alloc o) :=
  ⟨by simp, fun k hk => Below.heap_alloc W o k (by omega), fun k a d hk => (Below.heap_alloc W o k (Array.getElem?_eq_some_iff.1 hk).1).trans hk⟩
theorem Kp.drew {n₀ : Nat} (W : World) : Kp n₀ W W.drew := ⟨Nat.le_refl _, fun _ _ => rfl, fun _ _ _ h => h⟩
theorem Kp.refl {n₀ : Nat} (W : World) : Kp n₀ W W := ⟨Nat.le_refl _, fun _ _ => rfl, fun _ _ _ h => h⟩
/-- a store into a block that is no box -/
theorem Kp.set {n₀ : Nat} {W : World} {g j : Nat} (u : Value) (hg : n₀ ≤ g) (hne : ∀ (a : Int) (d : ByteArray), W.heap[g]? ≠ some (Obj.cells #[.int .u64 a, .string d] 123 (0, 0))) : Kp n₀ W (W.setCell ⟨g, j, none⟩ u) :=
  ⟨by simp [World.setCell], fun k hk => Below.heap_setCell W ⟨g, j, none⟩ u k (by show k ≠ g; omega), fun k a d hk => (Below.heap_setCell W ⟨g, j, none⟩ u k (by rintro rfl; exact hne a d hk)).trans hk⟩
theorem Kap.kp {n₀ : Nat} {W W' : World} {v v' : Value} (h : Kap W W' v v') (hv : ∀ g, v.ownBlock = some g → n₀ ≤ g) (hn : n₀ ≤ W.heap.size) : Kp n₀ W W' :=
  ⟨h.g.size, fun k hk => h.g.block k (by omega) (fun e => by have := hv k e.symm; omega), h.box⟩
structure BR (base C Bp Sz Bx B0 : Nat) (fr nx : Int) (mv : Value) (all : List Rec) (sz : Int) (x : Rec) (w W W' : World) : Prop where
  p : Boxed W' Bp 205 (.pointer (some ⟨C, 0, none⟩))
  s : Boxed W' Sz 3 (.int .i64 sz)
  c : ∃ rv', W'.heap[C]? = some (Obj.cells (ccells fr nx rv' mv) 113 (0, 0)) ∧ RRow W' base rv' all ∧ rv'.ownBlock ≠ some Bx
  x : W'.heap[Bx]? = some (Obj.cells x.cells 123 (0, 0))
  b : Below base w W'
  kf : KeepsFrom B0 W W'
  kp : Kp base W W'
section
variable {base C Bp Sz Bx B0 : Nat} {fr nx : Int} {mv : Value} {all : List Rec} {sz : Int} {x : Rec} {w W W' : World}
theorem BR.drew (h : BR base C Bp Sz Bx B0 fr nx mv all sz x w W W') : BR base C Bp Sz Bx B0 fr nx mv all sz x w W W'.drew :=
  ⟨h.p, h.s, h.c, h.x, h.b.drew, h.kf.trans ((KeepsOthers.drew W').from B0), h.kp.trans (Kp.drew W')⟩
theorem BR.cp (h : BR base C Bp Sz Bx B0 fr nx mv all sz x w W W') : C ≠ Bp ∧ C ≠ Sz ∧ C ≠ Bx ∧ Sz ≠ Bp ∧ Sz ≠ Bx := by
  obtain ⟨rv', h1, _⟩ := h.c
  have h2 := h.p
  have h3 := h.s
  have h4 := h.x
  unfold Boxed at h2 h3
  refine ⟨?_, ?_, ?_, ?_, ?_⟩
  · rintro rfl; rw [h1] at h2; cases h2
  · rintro rfl; rw [h1] at h3; cases h3
  · rintro rfl; rw [h1] at h4; cases h4
  · rintro rfl; rw [h2] at h3; cases h3
  · rintro rfl; rw [h3] at h4; cases h4
theorem grown_setc (W : World) (g o : Nat) (u : Value) : W.grownBy (W.setCell ⟨g, o, none⟩ u) (some g) :=
  ⟨rfl, rfl, rfl, by simp [World.setCell], fun k hk hne => Below.heap_setCell W ⟨g, o, none⟩ u k (by rintro rfl; exact hne rfl)⟩
theorem RRow.set_far {w : World} {base g o : Nat} {v : Value} {rs : List Rec} (h : RRow w base v rs) (u : Value) (hne : v.ownBlock ≠ some g) : RRow (w.setCell ⟨g, o, none⟩ u) base v rs :=
  ⟨h.1.kept (grown_setc w g o u) (.inr hne), h.2⟩
theorem RRow.not_blk {w : World} {base g : Nat} {v : Value} {rs : List Rec} {cs : Array Value} {T : TypeId} (h : RRow w base v rs) (hg : w.heap[g]? = some (Obj.cells cs T (0, 0))) (hT : T ≠ 123) : v.ownBlock ≠ some g := by
  intro e
  rcases h.1.2 with ⟨hv, _⟩ | ⟨g', cap, cur, hv, _, hgc, _⟩
  · rw [hv] at e; simp [Value.ownBlock] at e
  · rw [hv] at e
    simp [Value.ownBlock] at e
    subst e
    rw [hgc] at hg
    injection hg with hg
    injection hg with _ h2
    exact hT h2.symm
/-- the number to come is set -/
theorem BR.setN (h : BR base C Bp Sz Bx B0 fr nx mv all sz x w W W') (hC : base ≤ C) (hw : C < w.heap.size ∨ True) (n : Int) : BR base C Bp Sz Bx B0 fr n mv all sz x w W (W'.setCell ⟨C, 1, none⟩ (.int .u64 n)) := by
  obtain ⟨n1, n2, n3, n4, n5⟩ := h.cp
  obtain ⟨rv', h1, h2, h3⟩ := h.c
  exact ⟨(Below.heap_setCell W' ⟨C, 1, none⟩ _ Bp (Ne.symm n1)).trans h.p, (Below.heap_setCell W' ⟨C, 1, none⟩ _ Sz (Ne.symm n2)).trans h.s, ⟨rv', heap_setCell_same W' C 1 _ 113 _ h1, h2.set_far _ (h2.not_blk h1 (by decide)), h3⟩, (Below.heap_setCell W' ⟨C, 1, none⟩ _ Bx (Ne.symm n3)).trans h.x,
    h.b.setCell (p := ⟨C, 1, none⟩) hC _, h.kf.trans ((KeepsOthers.setCell _ _ _).from B0), h.kp.trans (Kp.set _ hC fun a d e => by rw [h1] at e; cases e)⟩
/-- the sum is set -/
theorem BR.setS (h : BR base C Bp Sz Bx B0 fr nx mv all sz x w W W') (hS : base ≤ Sz) (n : Int) : BR base C Bp Sz Bx B0 fr nx mv all n x w W (W'.setCell ⟨Sz, 0, none⟩ (.int .i64 n)) := by
  obtain ⟨n1, n2, n3, n4, n5⟩ := h.cp
  obtain ⟨rv', h1, h2, h3⟩ := h.c
  have hs := h.s
  exact ⟨(Below.heap_setCell W' ⟨Sz, 0, none⟩ _ Bp (Ne.symm n4)).trans h.p, h.s.set _, ⟨rv', (Below.heap_setCell W' ⟨Sz, 0, none⟩ _ C n2).trans h1, h2.set_far _ (h2.not_blk (show W'.heap[Sz]? = _ from hs) (by decide)), h3⟩, (Below.heap_setCell W' ⟨Sz, 0, none⟩ _ Bx (Ne.symm n5)).trans h.x,
    h.b.setCell (p := ⟨Sz, 0, none⟩) hS _, h.kf.trans ((KeepsOthers.setCell _ _ _).from B0), h.kp.trans (Kp.set _ hS fun a d e => by rw [show W'.heap[Sz]? = _ from hs] at e; cases e)⟩
/-- a record is put behind the others -/
theorem BR.app (h : BR base C Bp Sz Bx B0 fr nx mv all sz x w W W') (hC : base ≤ C) (hn : all.length ≤ 1000000000) (rv' : Value) (h1 : W'.heap[C]? = some (Obj.cells (ccells fr nx rv' mv) 113 (0, 0))) :
    ∃ v7 w7, (∃ ad n cap, v7 = .slice ad n cap) ∧ (Builtin.append_ #[65, 65] 65 #[rv', .slice (some ⟨W'.heap.size, 0, none⟩) 1 1]).run Tryz.prog (W'.alloc (.cells x.cells 123)) = .ok v7 w7 ∧ Boxed w7 Bp 205 (.pointer (some ⟨C, 0, none⟩)) ∧ w7.heap[C]? = some (Obj.cells (ccells fr nx rv' mv) 113 (0, 0)) ∧ BR base C Bp Sz Bx B0 fr nx mv (all ++ [x]) sz x w W (w7.setCell ⟨C, 2, none⟩ v7) := by
  obtain ⟨n1, n2, n3, n4, n5⟩ := h.cp
  obtain ⟨rv2, h1', h2, h3⟩ := h.c
  have e : rv2 = rv' := by rw [h1] at h1'; injection h1' with e; injection e with e; simp at e; exact e.symm
  subst e
  have hlow : base ≤ W'.heap.size := by have := (Array.getElem?_eq_some_iff.1 h1).1; omega
  obtain ⟨v7, w7, hr, hrow, hk⟩ := app_rec (W'.alloc (.cells x.cells 123)) base W'.heap.size rv2 all x (by simp; omega) ⟨h2.1.alloc _, h2.2⟩ hn (blk_new W' _)
  have hb1 : ∀ g, rv2.ownBlock = some g → base ≤ g := fun g hg => (h2.1.lt g hg).1
  have same : ∀ k o, W'.heap[k]? = some o → rv2.ownBlock ≠ some k → w7.heap[k]? = some o := fun k o ho hne => by
    have hlt := (Array.getElem?_eq_some_iff.1 ho).1
    exact (hk.g.block k (by simp; omega) (fun e => hne e.symm)).trans (blk_alloc ho _)
  have hc7 := same C _ h1 (h2.not_blk h1 (by decide))
  have hp7 := same Bp _ h.p (h2.not_blk (show W'.heap[Bp]? = _ from h.p) (by decide))
  have hs7 := same Sz _ h.s (h2.not_blk (show W'.heap[Sz]? = _ from h.s) (by decide))
  have hx7 := same Bx _ h.x h3
  have hv7 : v7.ownBlock ≠ some Bx := by
    rcases hk.o with e | e
    · rw [e]; exact h3
    · rw [e]
      have := (Array.getElem?_eq_some_iff.1 h.x).1
      simp
      omega
  have hform : ∃ ad n cap, v7 = .slice ad n cap := by
    rcases hrow.1.2 with ⟨hv, _⟩ | ⟨g', cap, cur, hv, _⟩
    · exact ⟨_, _, _, hv⟩
    · exact ⟨_, _, _, hv⟩
  refine ⟨v7, w7, hform, hr, hp7, hc7, ?_⟩
  have hkeep : KeepsOthers W' w7 := (KeepsOthers.alloc W' _).trans (KeepsOthers.of_grownBy hk.g fun j o ej hj => by
    rcases h2.1.2 with ⟨hv, _⟩ | ⟨g', cap, cur, hv, _, hgc, _⟩
    · rw [hv] at ej; simp [Value.ownBlock] at ej
    · rw [hv] at ej
      simp [Value.ownBlock] at ej
      subst ej
      rw [blk_alloc hgc _] at hj
      cases hj; rfl)
  exact ⟨(Below.heap_setCell w7 ⟨C, 2, none⟩ _ Bp (Ne.symm n1)).trans hp7, (Below.heap_setCell w7 ⟨C, 2, none⟩ _ Sz (Ne.symm n2)).trans hs7, ⟨v7, heap_setCell_same w7 C 2 _ 113 _ hc7, hrow.set_far _ (hrow.not_blk hc7 (by decide)), hv7⟩, (Below.heap_setCell w7 ⟨C, 2, none⟩ _ Bx (Ne.symm n3)).trans hx7,
    (((h.b.alloc hlow _).grown hk.g (by simp; omega) hb1)).setCell (p := ⟨C, 2, none⟩) hC _, h.kf.trans ((hkeep.trans (KeepsOthers.setCell _ _ _)).from B0),
    h.kp.trans (((Kp.alloc hlow _).trans (hk.kp hb1 (by simp; omega))).trans (Kp.set _ hC fun a d e => by rw [hc7] at e; cases e))⟩
end
end Go.Proofs.YtkhmdofeonlnpaaGreatDoor

/- SEGMENT: THE WALK OVER contents' add. -/
namespace Go.Proofs.YtkhmdofeonlnpaaGreatDoor
open Go.RowKit Go.Shelf
attribute [local go_sem] Oper.semAt_some
set_option maxRecDepth 100000
set_option linter.unusedVariables false
set_option linter.unusedSimpArgs false

/-- how many bytes their frames have -/
def sumL (rs : List Rec) : Nat := (rs.map fun r => 16 + r.data.size).sum
theorem sumL_snoc (rs : List Rec) (r : Rec) : sumL (rs ++ [r]) = sumL rs + (16 + r.data.size) := by simp [sumL]
/-- the number to come -/
def nextL (n : Nat) (rs : List Rec) : Nat := n + rs.length
theorem framesF_seq : ∀ (k : Nat) (s : ByteArray) (n : Nat) (i : Nat) (r : Rec), (framesF k s n)[i]? = some r → r.seq = n + i
  | 0, s, n, i, r, h => by simp [framesF] at h
  | k + 1, s, n, i, r, h => by
    cases hf : firstM s (n : Int) with
    | none => rw [framesF_none hf] at h; simp at h
    | some d =>
      rw [framesF_some hf] at h
      cases i with
      | zero => simp at h; subst h; rfl
      | succ i => simp at h; have := framesF_seq k _ _ i r h; omega
theorem Kp.put {n₀ : Nat} {w : World} (hn : n₀ ≤ w.heap.size) (W : World) (l : Nat) (o o' : Obj) (hl : w.heap.size ≤ l) (h : W.heap[l]? = some o) (hc : o.isCells = false) (_ : o.isWalk = false) : Kp n₀ W (W.putObj l o') :=
  ⟨by simp, fun k hk => World.putObj_heap_other (by omega), fun k a d hb => by
    have hne : k ≠ l := by rintro rfl; rw [hb] at h; cases h; cases hc
    exact (World.putObj_heap_other hne).trans hb⟩
theorem frames_stop (Bs Bq n₀ : Nat) (s : ByteArray) (next : Nat) (hs : s.size ≤ 1000000000) (hnx : next ≤ 4611686018427387904) (hn : 6 ≤ n₀) (w0 : World) (hn0 : n₀ ≤ w0.heap.size) (hT : Tabs w0)
    (hbs : w0.cell? ⟨Bs, 0, none⟩ = some (.string s)) (hbq : w0.cell? ⟨Bq, 0, none⟩ = some (.int .u64 (next : Int))) (N : Nat) (hN : (framesL s next).length ≤ N) :
    SeqStopsK Fence.wide 4 Tryz.prog 181 #[.pointer (some ⟨Bs, 0, none⟩), .pointer (some ⟨Bq, 0, none⟩)] (fun x : Rec => #[.agg x.cells]) (Kp n₀) (fun xs => xs = framesL s next) (fun _ => True) N w0 := by
  intro l J Jx W hW hJ hJx hY h0
  exact frames_it l Bs Bq n₀ s next hs hnx hn W (hT.under hW) ((hW.cell (p := ⟨Bs, 0, none⟩) (World.block_lt_of_cell? w0 _ hbs)).trans hbs) ((hW.cell (p := ⟨Bq, 0, none⟩) (World.block_lt_of_cell? w0 _ hbq)).trans hbq) J Jx hJ N hN hY h0

theorem frames_any (w : World) (s : ByteArray) (n : Int) : Calls Tryz.prog 145 #[.string s, .int .u64 n] w fun e w' => e = .returned (.func (.func 181) #[] #[.pointer (some ⟨w.heap.size, 0, none⟩), .pointer (some ⟨w.heap.size + 1, 0, none⟩)]) ∧ (w.alloc (.cells #[.string s] 9)).alloc (.cells #[.int .u64 n] 25) = w' := by
  go_enter Tryz.func145, Tryz.ntmps145
  go_wp2
  go_ret
  exact ⟨rfl, rfl⟩

theorem box4' {w : World} {g : Nat} {x0 x1 x2 x3 : Value} {t : TypeId} (h : w.heap[g]? = some (.cells #[x0, x1, x2, x3] t (0, 0))) :
    w.cell? ⟨g, 0, none⟩ = some x0 ∧ w.cell? ⟨g, 1, none⟩ = some x1 ∧ w.cell? ⟨g, 2, none⟩ = some x2 ∧ w.cell? ⟨g, 3, none⟩ = some x3 :=
  ⟨cell_of_row w g 0 _ t (0, 0) h, cell_of_row w g 1 _ t (0, 0) h, cell_of_row w g 2 _ t (0, 0) h, cell_of_row w g 3 _ t (0, 0) h⟩

theorem sumL_le : ∀ (l : List Rec), sumL l ≤ 70000 * l.length
  | [] => by simp [sumL]
  | r :: l => by have := sumL_le l; have := r.h2; simp only [sumL, List.map_cons, List.sum_cons, List.length_cons] at *; omega
def lastN (n : Nat) (rs : List Rec) : Nat := match rs.getLast? with
  | some r => r.seq + 1
  | none => n
theorem lastN_snoc (n : Nat) (rs : List Rec) (r : Rec) : lastN n (rs ++ [r]) = r.seq + 1 := by simp [lastN]
theorem framesF_len : ∀ (k : Nat) (s : ByteArray) (n : Nat), (framesF k s n).length ≤ k
  | 0, s, n => by simp [framesF]
  | k + 1, s, n => by
    cases hf : firstM s (n : Int) with
    | none => rw [framesF_none hf]; simp
    | some d => rw [framesF_some hf]; have := framesF_len k (s.extract (16 + d.size) s.size) (n + 1); simp; omega
theorem framesL_len (s : ByteArray) (n : Nat) : (framesL s n).length ≤ s.size := framesF_len _ _ _
theorem lastN_frames (s : ByteArray) (n : Nat) : lastN n (framesL s n) = n + (framesL s n).length := by
  unfold lastN
  cases h : (framesL s n).getLast? with
  | none => rw [List.getLast?_eq_none_iff] at h; rw [h]; rfl
  | some r =>
    rw [List.getLast?_eq_getElem?] at h
    have h2 := framesF_seq _ _ _ _ r h
    have hpos : 0 < (framesL s n).length := by
      rcases Nat.eq_zero_or_pos (framesL s n).length with h0 | h0
      · rw [List.eq_nil_of_length_eq_zero h0] at h; cases h
      · exact h0
    show r.seq + 1 = _
    have : r.seq = n + ((framesL s n).length - 1) := h2
    omega
/-- the contents between two rounds -/
def CR (base C : Nat) (fr : Int) (nx : Nat) (mv : Value) (rs : List Rec) (pre : List Rec) (W : World) : Prop :=
  ∃ rv', W.heap[C]? = some (Obj.cells (ccells fr (lastN nx pre : Int) rv' mv) 113 (0, 0)) ∧ RRow W base rv' (rs ++ pre)
theorem cells_kept {W W' : World} {row : Option Nat} {k : Nat} {cs : Array Value} {T : TypeId} {m : Nat × Nat} (h : W.heap[k]? = some (Obj.cells cs T m)) (hg : W.grownBy W' row) (hr : ∀ r, row = some r → ∃ o : Obj, W.heap[r]? = some o ∧ o.isCells = false) : W'.heap[k]? = some (Obj.cells cs T m) := by
  refine (hg.block k (Array.getElem?_eq_some_iff.1 h).1 fun e => ?_).trans h
  obtain ⟨o, ho, hc⟩ := hr k e.symm
  rw [h] at ho; cases ho; cases hc
theorem RRow.kept {W W' : World} {row : Option Nat} {base : Nat} {v : Value} {rs : List Rec} (h : RRow W base v rs) (hg : W.grownBy W' row) (hr : ∀ r, row = some r → ∃ o : Obj, W.heap[r]? = some o ∧ o.isCells = false) : RRow W' base v rs := by
  refine ⟨h.1.kept hg ?_, h.2⟩
  rcases h.1.2 with ⟨hv, _⟩ | ⟨g, cap, cur, hv, _, hgc, _⟩
  · left; rw [hv]; rfl
  · right
    rw [hv]
    intro e
    obtain ⟨o, ho, hc⟩ := hr g (by simpa [Value.ownBlock] using e.symm)
    rw [hgc] at ho; cases ho; cases hc
theorem CR.own (base C : Nat) (fr : Int) (nx : Nat) (mv : Value) (rs : List Rec) : Go.Own (CR base C fr nx mv rs) := fun pre W W' row hs hg hr => by
  obtain ⟨rv, h1, h2⟩ := hs
  exact ⟨rv, cells_kept h1 hg hr, h2.kept hg hr⟩

set_option maxHeartbeats 4000000 in
theorem cadd_in (w : World) (base C : Nat) (fr : Int) (nx : Nat) (rv mv : Value) (rs : List Rec) (nm dt : ByteArray) (sy nu : Int) (hb4 : 6 ≤ base) (hbC : base ≤ C) (hT : Tabs w)
    (hc : w.heap[C]? = some (.cells (ccells fr (nx : Int) rv mv) 113 (0, 0))) (hrow : RRow w base rv rs) (hd : dt.size ≤ 1000000) (hnx : nx ≤ 4611686018427387904) (hrs : rs.length ≤ 900000000) :
    CallsIn Fence.wide 5 Tryz.prog 114 #[.pointer (some ⟨C, 0, none⟩), .agg #[.string nm, .string dt, .int .i64 sy, .int .u64 nu]] w fun e w' => e = .returned (.int .i64 (sumL (framesL dt nx) : Int)) ∧
      (∃ rv', w'.heap[C]? = some (.cells (ccells fr ((nx + (framesL dt nx).length : Nat) : Int) rv' mv) 113 (0, 0)) ∧ RRow w' base rv' (rs ++ framesL dt nx)) ∧ Below base w w' := by
  refine callsIn_of_wp_marks Tryz.func114 rfl trivial ?_ rfl
  simp only [Tryz.ntmps114, List.size_toArray, List.length_cons, List.length_nil, Nat.reduceAdd, Nat.reduceSub, Array.replicate_succ, Array.replicate_zero, List.push_toArray, List.append_toArray, List.nil_append, List.cons_append]
  have hltC : C < w.heap.size := (Array.getElem?_eq_some_iff.1 hc).1
  have HT := Lib.hid hT
  have Hc := Lib.hid hc
  have Hrow := Lib.hid hrow
  obtain ⟨W0, hW0⟩ : ∃ W, W = ((w.alloc (.cells #[.pointer (some ⟨C, 0, none⟩)] 205)).alloc (.cells #[.string nm, .string dt, .int .i64 sy, .int .u64 nu] 178)).alloc (.cells #[.int .i64 0] 3) := ⟨_, rfl⟩
  have hbel0 : Below w.heap.size w W0 := by rw [hW0]; exact (((Below.refl _ w).alloc (Nat.le_refl _) _).alloc (by simp) _).alloc (by simp; omega) _
  have hp0 : Boxed W0 w.heap.size 205 (.pointer (some ⟨C, 0, none⟩)) := by rw [hW0]; exact blk_alloc (blk_alloc (blk_new w _) _) _
  have hf0 : W0.heap[w.heap.size + 1]? = some (.cells #[.string nm, .string dt, .int .i64 sy, .int .u64 nu] 178 (0, 0)) := by
    have := blk_new (w.alloc (.cells #[.pointer (some ⟨C, 0, none⟩)] 205)) (.cells #[.string nm, .string dt, .int .i64 sy, .int .u64 nu] 178)
    rw [hW0]; exact blk_alloc (by simpa using this) _
  have hs0 : Boxed W0 (w.heap.size + 1 + 1) 3 (.int .i64 0) := by
    have := blk_new ((w.alloc (.cells #[.pointer (some ⟨C, 0, none⟩)] 205)).alloc (.cells #[.string nm, .string dt, .int .i64 sy, .int .u64 nu] 178)) (.cells #[.int .i64 0] 3)
    simp only [World.size_alloc] at this
    rw [hW0]; exact this
  have Hbel0 := Lib.hid hbel0
  have Hp := Lib.hid hp0
  have Hf := Lib.hid hf0
  have Hs := Lib.hid hs0
  have Hc0 := Lib.hid ((hbel0.block _ hltC).trans hc)
  have HT0 := Lib.hid (hT.under hbel0)
  clear hT hc hrow hbel0 hp0 hf0 hs0
  gi_wp2_with fail
  rw [← hW0]
  clear hW0
  refine Code.wpIn_mono (Q := fun e a' w' => e = .normal ∧ ∃ X9 u7 u8 u9 u10 u11 u12 u13, a' = ⟨#[(.pointer (some ⟨C, 0, none⟩)), (.agg #[.string nm, .string dt, .int .i64 sy, .int .u64 nu]), (.pointer (some ⟨w.heap.size, 0, none⟩)), (.pointer (some ⟨w.heap.size + 1, 0, none⟩)), (.int .i64 0), (.pointer (some ⟨w.heap.size + 1 + 1, 0, none⟩)), undef, u7, u8, u9, u10, u11, u12, u13, (.func (.func 181) #[] #[.pointer (some ⟨X9.heap.size, 0, none⟩), .pointer (some ⟨X9.heap.size + 1, 0, none⟩)]), undef, undef, undef, undef, undef, undef, undef, undef, undef, undef, undef, undef, undef, undef, undef, undef, undef, undef, undef, undef, undef, undef, undef, undef], []⟩ ∧ w' = (X9.alloc (.cells #[.string dt] 9)).alloc (.cells #[.int .u64 (nx : Int)] 25) ∧ Below W0.heap.size W0 X9) ?_ ?reg2
  case reg2 =>
    refine wpIn_region_any (by kernel_rfl) ?_
    obtain ⟨X9, hX⟩ : ∃ X, W0.drew = X := ⟨_, rfl⟩
    change wpAnyIn _ _ _ _ _ _ _ _ _ (W0.drew)
    rw [hX]
    have hbX : Below W0.heap.size W0 X9 := by rw [← hX]; exact (Below.refl _ W0).drew
    replace Hp := Lib.hid ((hbX.block _ Hp.out.lt).trans Hp.out)
    replace Hf := Lib.hid ((hbX.block _ (Array.getElem?_eq_some_iff.1 Hf.out).1).trans Hf.out)
    replace Hs := Lib.hid ((hbX.block _ Hs.out.lt).trans Hs.out)
    replace Hc0 := Lib.hid ((hbX.block _ (Array.getElem?_eq_some_iff.1 Hc0.out).1).trans Hc0.out)
    replace HT0 := Lib.hid (HT0.out.under hbX)
    replace Hbel0 := Lib.hid (Hbel0.out.trans (hbX.mono Hbel0.out.size))
    have HbX := Lib.hid hbX
    clear hbX hX
    have p0 := (show Boxed X9 w.heap.size 205 _ from Hp.out).cell
    obtain ⟨f0, f1, f2, f3⟩ := box4' Hf.out
    obtain ⟨c0, c1, c2, c3⟩ := box4' Hc0.out
    refine wpAnyIn_take (i := 0) (v := ?va1) rfl rfl (by kernel_rfl) (by kernel_rfl) (by kernel_rfl) (fun _ _ _ h => nomatch h.1) ⟨Or.inl ⟨by kernel_rfl, ?ha1⟩, fun _ => rfl⟩ ?ra1
    case ha1 => (intro w; go_simp; first | done | (with_reducible rfl))
    refine wpAnyIn_take (i := 1) (v := ?va2) rfl rfl (by kernel_rfl) (by kernel_rfl) (by kernel_rfl) (fun _ _ _ h => nomatch h.1) ⟨Or.inl ⟨by kernel_rfl, ?ha2⟩, fun _ => rfl⟩ ?ra2
    case ha2 => (intro w; go_simp; first | done | (with_reducible rfl))
    refine wpAnyIn_ready (rs := [2, 3]) (by kernel_rfl) (by simp) ?_
    refine AllReadyIn.cons rfl (fun K hK => ?_) ?_
    · skip
      go_simp
      refine hK _ _ ?_
      clear hK K
      refine wpAnyIn_ready (rs := [3]) (by kernel_rfl) (by simp) ?_
      refine AllReadyIn.cons rfl (fun K hK => ?_) AllReadyIn.nil
      go_simp
      refine hK _ _ ?_
      clear hK K
      refine wpAnyIn_take (i := 4) (v := ?va3) rfl rfl (by kernel_rfl) (by kernel_rfl) (by kernel_rfl) (fun _ _ _ h => nomatch h.1) ⟨Or.inl ⟨by kernel_rfl, ?ha3⟩, fun _ => rfl⟩ ?ra3
      case ha3 => (intro w; go_simp; first | done | (with_reducible rfl))
      refine wpAnyIn_take (i := 5) (v := ?va4) rfl rfl (by kernel_rfl) (by kernel_rfl) (by kernel_rfl) (fun _ _ _ h => nomatch h.1) ⟨Or.inl ⟨by kernel_rfl, ?ha4⟩, fun _ => rfl⟩ ?ra4
      case ha4 => (intro w; go_simp; first | done | (with_reducible rfl))
      refine wpAnyIn_ready (rs := [6]) (by kernel_rfl) (by simp) ?_
      refine AllReadyIn.cons rfl (fun K hK => ?_) AllReadyIn.nil
      go_simp
      refine hK _ _ ?_
      clear hK K
      refine wpAnyIn_ready (rs := [7]) (by kernel_rfl) (by simp) ?_
      refine AllReadyIn.cons rfl (fun K hK => ?_) AllReadyIn.nil
      go_simp
      refine ⟨trivial, ?_⟩
      refine (callsIn_wide.2 (frames_any X9 dt (nx : Int))).mono ?_
      rintro e w2 ⟨rfl, rfl⟩
      refine hK _ _ ?_
      clear hK K
      refine wpAnyIn_done (by kernel_rfl) ?_ _
      first | exact ⟨rfl, X9, _, _, _, _, _, _, _, rfl, rfl, HbX.out⟩ | exact ⟨X9, _, _, _, _, _, _, _, rfl, rfl, HbX.out⟩
    refine AllReadyIn.cons rfl (fun K hK => ?_) AllReadyIn.nil
    go_simp
    refine hK _ _ ?_
    clear hK K
    refine wpAnyIn_take (i := 4) (v := ?va5) rfl rfl (by kernel_rfl) (by kernel_rfl) (by kernel_rfl) (fun _ _ _ h => nomatch h.1) ⟨Or.inl ⟨by kernel_rfl, ?ha5⟩, fun _ => rfl⟩ ?ra5
    case ha5 => (intro w; go_simp; first | done | (with_reducible rfl))
    refine wpAnyIn_take (i := 5) (v := ?va6) rfl rfl (by kernel_rfl) (by kernel_rfl) (by kernel_rfl) (fun _ _ _ h => nomatch h.1) ⟨Or.inl ⟨by kernel_rfl, ?ha6⟩, fun _ => rfl⟩ ?ra6
    case ha6 => (intro w; go_simp; first | done | (with_reducible rfl))
    refine wpAnyIn_ready (rs := [2, 6]) (by kernel_rfl) (by simp) ?_
    refine AllReadyIn.cons rfl (fun K hK => ?_) ?_
    · skip
      go_simp
      refine hK _ _ ?_
      clear hK K
      refine wpAnyIn_ready (rs := [6]) (by kernel_rfl) (by simp) ?_
      refine AllReadyIn.cons rfl (fun K hK => ?_) AllReadyIn.nil
      go_simp
      refine hK _ _ ?_
      clear hK K
      refine wpAnyIn_ready (rs := [7]) (by kernel_rfl) (by simp) ?_
      refine AllReadyIn.cons rfl (fun K hK => ?_) AllReadyIn.nil
      go_simp
      refine ⟨trivial, ?_⟩
      refine (callsIn_wide.2 (frames_any X9 dt (nx : Int))).mono ?_
      rintro e w2 ⟨rfl, rfl⟩
      refine hK _ _ ?_
      clear hK K
      refine wpAnyIn_done (by kernel_rfl) ?_ _
      first | exact ⟨rfl, X9, _, _, _, _, _, _, _, rfl, rfl, HbX.out⟩ | exact ⟨X9, _, _, _, _, _, _, _, rfl, rfl, HbX.out⟩
    refine AllReadyIn.cons rfl (fun K hK => ?_) AllReadyIn.nil
    go_simp
    refine hK _ _ ?_
    clear hK K
    refine wpAnyIn_ready (rs := [2]) (by kernel_rfl) (by simp) ?_
    refine AllReadyIn.cons rfl (fun K hK => ?_) AllReadyIn.nil
    go_simp
    refine hK _ _ ?_
    clear hK K
    refine wpAnyIn_ready (rs := [7]) (by kernel_rfl) (by simp) ?_
    refine AllReadyIn.cons rfl (fun K hK => ?_) AllReadyIn.nil
    go_simp
    refine ⟨trivial, ?_⟩
    refine (callsIn_wide.2 (frames_any X9 dt (nx : Int))).mono ?_
    rintro e w2 ⟨rfl, rfl⟩
    refine hK _ _ ?_
    clear hK K
    refine wpAnyIn_done (by kernel_rfl) ?_ _
    first | exact ⟨rfl, X9, _, _, _, _, _, _, _, rfl, rfl, HbX.out⟩ | exact ⟨X9, _, _, _, _, _, _, _, rfl, rfl, HbX.out⟩
  rintro e a' w2 ⟨rfl, X9, u7, u8, u9, u10, u11, u12, u13, rfl, rfl, hbX⟩
  gi_wp2
  have hbl : Below X9.heap.size X9 ((X9.alloc (.cells #[.string dt] 9)).alloc (.cells #[.int .u64 (nx : Int)] 25)) := ((Below.refl _ X9).alloc (Nat.le_refl _) _).alloc (by simp) _
  obtain ⟨Wl, hWl⟩ : ∃ W, W = (X9.alloc (.cells #[.string dt] 9)).alloc (.cells #[.int .u64 (nx : Int)] 25) := ⟨_, rfl⟩
  have hq0 : Boxed Wl X9.heap.size 9 (.string dt) := by rw [hWl]; exact blk_alloc (blk_new X9 _) _
  have hq1 : Boxed Wl (X9.heap.size + 1) 25 (.int .u64 (nx : Int)) := by
    have := blk_new (X9.alloc (.cells #[.string dt] 9)) (.cells #[.int .u64 (nx : Int)] 25)
    simp only [World.size_alloc] at this
    rw [hWl]; exact this
  rw [← hWl] at hbl
  have hbW : Below W0.heap.size W0 Wl := hbX.trans (hbl.mono hbX.size)
  have hsz0 : w.heap.size + 1 + 1 < W0.heap.size := Hs.out.lt
  have hszl : W0.heap.size ≤ Wl.heap.size := hbW.size
  have hcW0 : C < W0.heap.size := by have := Hbel0.out.size; omega
  have hpl : Boxed Wl w.heap.size 205 (.pointer (some ⟨C, 0, none⟩)) := (hbW.block _ (by omega)).trans Hp.out
  have hsl : Boxed Wl (w.heap.size + 1 + 1) 3 (.int .i64 0) := (hbW.block _ (by omega)).trans Hs.out
  have hcl : Wl.heap[C]? = some (Obj.cells (ccells fr (nx : Int) rv mv) 113 (0, 0)) := (hbW.block _ hcW0).trans Hc0.out
  have hbwl : Below w.heap.size w Wl := Hbel0.out.trans (hbW.mono Hbel0.out.size)
  have hbb : base ≤ w.heap.size := by omega
  have hrl : RRow Wl base rv rs := ⟨World.ownsRow.kept (row := none) Hrow.out.1 ⟨hbwl.os, hbwl.tape, hbwl.output, hbwl.size, fun k hk _ => hbwl.block k hk⟩ (by cases h : rv.ownBlock with | none => exact .inl rfl | some g => exact .inr (by simp)), Hrow.out.2⟩
  have hTl : Tabs Wl := HT.out.under hbwl
  rw [← hWl]
  clear hWl
  refine wpIn_rangeFunc_ownH (F := Fence.wide) (n := 5) rfl (by omega) (gf := 181) (lb := #[.pointer (some ⟨X9.heap.size, 0, none⟩), .pointer (some ⟨X9.heap.size + 1, 0, none⟩)]) rfl trivial (enters_of Tryz.func181 (by kernel_rfl) rfl)
    (frames_stop X9.heap.size (X9.heap.size + 1) base dt nx (by omega) hnx hb4 Wl (by omega) hTl hq0.cell hq1.cell dt.size (framesL_len dt nx)) (fun h k => h.trans k) (fun W l o o' hl h hc hw => Kp.put (w := Wl) (by omega) W l o o' hl h hc hw) (Below.refl _ _) (by intro x; rfl)
    (fun pre W => ((Boxed W w.heap.size 205 (.pointer (some ⟨C, 0, none⟩)) ∧ Boxed W (w.heap.size + 1 + 1) 3 (.int .i64 (sumL pre : Int))) ∧ CR base C fr nx mv rs pre W) ∧ Below base w W)
    (fun _ _ _ => False)
    (OwnFrom.and (OwnFrom.and (OwnFrom.and (Go.Own.from (boxed_own _ _ _) _) (Go.Own.from (boxed_own _ _ (fun pre => .int .i64 (sumL pre : Int))) _)) (Go.Own.from (CR.own base C fr nx mv rs) _)) (ownFrom_below hbb (by omega)))
    (fun _ _ _ _ _ hs _ _ => hs)
    ⟨⟨⟨hpl, hsl⟩, rv, hcl, by simpa using hrl⟩, hbwl.mono hbb⟩
    (fun x a' W => ∃ Bx, w.heap.size + 1 + 1 < Bx ∧ W.heap[Bx]? = some (Obj.cells x.cells 123 (0, 0)) ∧ (∀ v, W.cell? ⟨C, 2, none⟩ = some v → v.ownBlock ≠ some Bx) ∧ C < Bx ∧ a' = ⟨#[(.pointer (some ⟨C, 0, none⟩)), (.agg #[.string nm, .string dt, .int .i64 sy, .int .u64 nu]), (.pointer (some ⟨w.heap.size, 0, none⟩)), (.pointer (some ⟨w.heap.size + 1, 0, none⟩)), (.int .i64 0), (.pointer (some ⟨w.heap.size + 1 + 1, 0, none⟩)), (.pointer (some ⟨Bx, 0, none⟩)), u7, u8, u9, u10, u11, u12, u13, (.func (.func 181) #[] #[.pointer (some ⟨X9.heap.size, 0, none⟩), .pointer (some ⟨X9.heap.size + 1, 0, none⟩)]), .agg x.cells, undef, undef, undef, undef, undef, undef, undef, undef, undef, undef, undef, undef, undef, undef, undef, undef, undef, undef, undef, undef, undef, undef, undef], []⟩)
    (fun x a' _ X Y row hs hg hr => by
      obtain ⟨Bx, h1, h2, h3, h4, h5⟩ := hs
      have hr' : ∀ r, row = some r → ∃ o : Obj, X.heap[r]? = some o ∧ o.isCells = false := fun r e => (hr r e).2
      have hCX : C < X.heap.size := Nat.lt_trans h4 (Array.getElem?_eq_some_iff.1 h2).1
      have hcs : Y.heap[C]? = X.heap[C]? := hg.block C hCX (fun e => by have := (hr C e.symm).1; omega)
      exact ⟨Bx, h1, cells_kept h2 hg hr', fun v hv => h3 v (by rw [← World.cell?_of_block (a := ⟨C, 2, none⟩) hcs]; exact hv), h4, h5⟩)
    ?assign ?body ?done ?stop
  case assign =>
    rintro l pre x W K ⟨⟨⟨hp, hs⟩, hcr⟩, hB⟩ hK
    gi_wp2
    have hlo : base ≤ W.heap.size := by have := hB.size; omega
    refine hK _ _ ((KeepsOthers.alloc _ _).from _) (Kp.alloc hlo _) ⟨⟨⟨hp.alloc _, hs.alloc _⟩, Go.Own.alloc (CR.own base C fr nx mv rs) _ hcr⟩, hB.alloc hlo _⟩ ⟨W.heap.size, hs.lt, blk_new W _, fun v hv => ?_, ?_, rfl⟩
    · obtain ⟨rv', hc1, hc2⟩ := hcr
      have hv2 := cell_of_row _ C 2 _ 113 (0, 0) (blk_alloc hc1 (.cells x.cells 123))
      rw [hv2] at hv
      injection hv with hv
      subst hv
      intro e
      have := (hc2.1.lt _ e).2
      omega
    · obtain ⟨rv', hc1, _⟩ := hcr
      exact (Array.getElem?_eq_some_iff.1 hc1).1
  case body =>
    rintro l pre x a' W hl ⟨r, hr⟩ ⟨⟨⟨hp, hs⟩, hcr⟩, hB⟩ ⟨Bx, hBx, hx, hxo, hCx, rfl⟩ hlt
    obtain ⟨rv', hc1, hc2⟩ := hcr
    have HB := Lib.hid (show BR base C w.heap.size (w.heap.size + 1 + 1) Bx Wl.heap.size fr (lastN nx pre : Int) mv (rs ++ pre) (sumL pre : Int) x w W W from ⟨hp, hs, ⟨rv', hc1, hc2, hxo _ (cell_of_row _ C 2 _ 113 (0, 0) hc1)⟩, hx, hB, KeepsFrom.refl _ _, Kp.refl W⟩)
    have hlen : (rs ++ pre).length ≤ 1000000000 := by simp; omega
    have hS : base ≤ w.heap.size + 1 + 1 := by omega
    have hsum : sumL pre ≤ 70000 * pre.length := sumL_le pre
    clear hp hs hc1 hc2 hx hB hxo hr Hp Hs Hf Hc Hrow Hc0 hpl hsl hcl hrl hq0 hq1 hbl hbW
    gi_wp2
    refine Code.wpIn_mono (Q := fun e a' w' => e = .normal ∧ ∃ u16 u17 u18 u19 u20 u21 u22 u23 u24 u25, a' = ⟨#[(.pointer (some ⟨C, 0, none⟩)), (.agg #[.string nm, .string dt, .int .i64 sy, .int .u64 nu]), (.pointer (some ⟨w.heap.size, 0, none⟩)), (.pointer (some ⟨w.heap.size + 1, 0, none⟩)), (.int .i64 0), (.pointer (some ⟨w.heap.size + 1 + 1, 0, none⟩)), (.pointer (some ⟨Bx, 0, none⟩)), u7, u8, u9, u10, u11, u12, u13, (.func (.func 181) #[] #[.pointer (some ⟨X9.heap.size, 0, none⟩), .pointer (some ⟨X9.heap.size + 1, 0, none⟩)]), .agg x.cells, u16, u17, u18, u19, u20, u21, u22, u23, u24, u25, undef, undef, undef, undef, undef, undef, undef, undef, undef, undef, undef, undef, undef], []⟩ ∧ BR base C w.heap.size (w.heap.size + 1 + 1) Bx Wl.heap.size fr (lastN nx pre : Int) mv (rs ++ pre ++ [x]) (sumL pre : Int) x w W w') ?_ ?reg16
    case reg16 =>
      refine wpIn_region_round l (by kernel_rfl) (by kernel_rfl) ?_
      obtain ⟨X, hX⟩ : ∃ X, W.drew = X := ⟨_, rfl⟩
      change wpAnyIn _ _ _ _ _ _ _ _ _ (W.drew)
      rw [hX]
      have HB2 := HB.out.drew
      rw [hX] at HB2
      clear hX
      obtain ⟨rv2, hc1, hc2, hc3⟩ := HB2.c
      have p0 := HB2.p.cell
      have s0 := HB2.s.cell
      have sf := HB2.s.frozen
      obtain ⟨c0, c1, c2, c3⟩ := box4' hc1
      obtain ⟨x0, x1⟩ := box2' HB2.x
      have hlp := HB2.p.lt
      have hls := HB2.s.lt
      have hlC := (Array.getElem?_eq_some_iff.1 hc1).1
      have hlx := (Array.getElem?_eq_some_iff.1 HB2.x).1
      have fC1 := frozen_of_row X C 1 _ 113 hc1
      obtain ⟨v7, w7, ⟨ad7, n7, cap7, rfl⟩, hrun, hp7, hc7, hB7⟩ := HB2.app hbC hlen rv2 hc1
      have HB3 := Lib.hid hB7
      have HB2h := Lib.hid HB2
      clear HB2 hB7 hc2 hc3
      refine wpAnyIn_ready (rs := [0, 1, 5]) (by kernel_rfl) (by simp) ?_
      refine AllReadyIn.cons rfl (fun K hK => ?_) ?_
      · skip
        go_simp
        refine hK _ _ ?_
        clear hK K
        refine wpAnyIn_ready (rs := [1, 5]) (by kernel_rfl) (by simp) ?_
        refine AllReadyIn.cons rfl (fun K hK => ?_) ?_
        · skip
          go_simp
          refine hK _ _ ?_
          clear hK K
          refine wpAnyIn_take (i := 2) (v := ?vd1) rfl rfl (by kernel_rfl) (by kernel_rfl) (by kernel_rfl) (fun _ _ _ h => nomatch h.1) ⟨Or.inl ⟨by kernel_rfl, ?hd1⟩, fun _ => rfl⟩ ?rd1
          case hd1 => (intro w; go_simp; first | done | (with_reducible rfl))
          refine wpAnyIn_take (i := 3) (v := ?vd2) rfl rfl (by kernel_rfl) (by kernel_rfl) (by kernel_rfl) (fun _ _ _ h => nomatch h.1) ⟨Or.inl ⟨by kernel_rfl, ?hd2⟩, fun _ => rfl⟩ ?rd2
          case hd2 => (intro w; go_simp; first | done | (with_reducible rfl))
          refine wpAnyIn_ready (rs := [4, 5]) (by kernel_rfl) (by simp) ?_
          refine AllReadyIn.cons rfl (fun K hK => ?_) ?_
          · skip
            go_simp
            refine hK _ _ ?_
            clear hK K
            refine wpAnyIn_ready (rs := [5]) (by kernel_rfl) (by simp) ?_
            refine AllReadyIn.cons rfl (fun K hK => ?_) AllReadyIn.nil
            go_simp
            refine hK _ _ ?_
            clear hK K
            refine wpAnyIn_ready (rs := [6]) (by kernel_rfl) (by simp) ?_
            refine AllReadyIn.cons rfl (fun K hK => ?_) AllReadyIn.nil
            go_simp
            refine hK _ _ ?_
            clear hK K
            refine wpAnyIn_ready (rs := [7]) (by kernel_rfl) (by simp) ?_
            refine AllReadyIn.cons rfl (fun K hK => ?_) AllReadyIn.nil
            rw [if_pos (by kernel_rfl)]
            refine op_appIn (.tmp 20) (.tmp 22) rv2 (.slice (some ⟨X.heap.size, 0, none⟩) 1 1) (by kernel_rfl) (by kernel_rfl) rfl hrun ?_
            clear hrun
            have p7 := hp7.cell
            obtain ⟨d0, d1, d2, d3⟩ := box4' hc7
            have fC2 := frozen_of_row w7 C 2 _ 113 hc7
            refine hK _ _ ?_
            clear hK K
            refine wpAnyIn_take (i := 8) (v := ?vd3) rfl rfl (by kernel_rfl) (by kernel_rfl) (by kernel_rfl) (fun _ _ _ h => nomatch h.1) ⟨Or.inl ⟨by kernel_rfl, ?hd3⟩, fun _ => rfl⟩ ?rd3
            case hd3 => (intro w; go_simp; first | done | (with_reducible rfl))
            refine wpAnyIn_take (i := 9) (v := ?vd4) rfl rfl (by kernel_rfl) (by kernel_rfl) (by kernel_rfl) (fun _ _ _ h => nomatch h.1) ⟨Or.inl ⟨by kernel_rfl, ?hd4⟩, fun _ => rfl⟩ ?rd4
            case hd4 => (intro w; go_simp; first | done | (with_reducible rfl))
            refine wpAnyIn_ready (rs := [10]) (by kernel_rfl) (by simp) ?_
            refine AllReadyIn.cons rfl (fun K hK => ?_) AllReadyIn.nil
            go_simp
            refine hK _ _ ?_
            clear hK K
            refine wpAnyIn_done (by kernel_rfl) ?_ _
            exact ⟨rfl, _, _, _, _, _, _, _, _, _, _, rfl, HB3.out⟩
          refine AllReadyIn.cons rfl (fun K hK => ?_) AllReadyIn.nil
          go_simp
          refine hK _ _ ?_
          clear hK K
          refine wpAnyIn_ready (rs := [4, 6]) (by kernel_rfl) (by simp) ?_
          refine AllReadyIn.cons rfl (fun K hK => ?_) ?_
          · skip
            go_simp
            refine hK _ _ ?_
            clear hK K
            refine wpAnyIn_ready (rs := [6]) (by kernel_rfl) (by simp) ?_
            refine AllReadyIn.cons rfl (fun K hK => ?_) AllReadyIn.nil
            go_simp
            refine hK _ _ ?_
            clear hK K
            refine wpAnyIn_ready (rs := [7]) (by kernel_rfl) (by simp) ?_
            refine AllReadyIn.cons rfl (fun K hK => ?_) AllReadyIn.nil
            rw [if_pos (by kernel_rfl)]
            refine op_appIn (.tmp 20) (.tmp 22) rv2 (.slice (some ⟨X.heap.size, 0, none⟩) 1 1) (by kernel_rfl) (by kernel_rfl) rfl hrun ?_
            clear hrun
            have p7 := hp7.cell
            obtain ⟨d0, d1, d2, d3⟩ := box4' hc7
            have fC2 := frozen_of_row w7 C 2 _ 113 hc7
            refine hK _ _ ?_
            clear hK K
            refine wpAnyIn_take (i := 8) (v := ?vd5) rfl rfl (by kernel_rfl) (by kernel_rfl) (by kernel_rfl) (fun _ _ _ h => nomatch h.1) ⟨Or.inl ⟨by kernel_rfl, ?hd5⟩, fun _ => rfl⟩ ?rd5
            case hd5 => (intro w; go_simp; first | done | (with_reducible rfl))
            refine wpAnyIn_take (i := 9) (v := ?vd6) rfl rfl (by kernel_rfl) (by kernel_rfl) (by kernel_rfl) (fun _ _ _ h => nomatch h.1) ⟨Or.inl ⟨by kernel_rfl, ?hd6⟩, fun _ => rfl⟩ ?rd6
            case hd6 => (intro w; go_simp; first | done | (with_reducible rfl))
            refine wpAnyIn_ready (rs := [10]) (by kernel_rfl) (by simp) ?_
            refine AllReadyIn.cons rfl (fun K hK => ?_) AllReadyIn.nil
            go_simp
            refine hK _ _ ?_
            clear hK K
            refine wpAnyIn_done (by kernel_rfl) ?_ _
            exact ⟨rfl, _, _, _, _, _, _, _, _, _, _, rfl, HB3.out⟩
          refine AllReadyIn.cons rfl (fun K hK => ?_) AllReadyIn.nil
          go_simp
          refine hK _ _ ?_
          clear hK K
          refine wpAnyIn_ready (rs := [4]) (by kernel_rfl) (by simp) ?_
          refine AllReadyIn.cons rfl (fun K hK => ?_) AllReadyIn.nil
          go_simp
          refine hK _ _ ?_
          clear hK K
          refine wpAnyIn_ready (rs := [7]) (by kernel_rfl) (by simp) ?_
          refine AllReadyIn.cons rfl (fun K hK => ?_) AllReadyIn.nil
          rw [if_pos (by kernel_rfl)]
          refine op_appIn (.tmp 20) (.tmp 22) rv2 (.slice (some ⟨X.heap.size, 0, none⟩) 1 1) (by kernel_rfl) (by kernel_rfl) rfl hrun ?_
          clear hrun
          have p7 := hp7.cell
          obtain ⟨d0, d1, d2, d3⟩ := box4' hc7
          have fC2 := frozen_of_row w7 C 2 _ 113 hc7
          refine hK _ _ ?_
          clear hK K
          refine wpAnyIn_take (i := 8) (v := ?vd7) rfl rfl (by kernel_rfl) (by kernel_rfl) (by kernel_rfl) (fun _ _ _ h => nomatch h.1) ⟨Or.inl ⟨by kernel_rfl, ?hd7⟩, fun _ => rfl⟩ ?rd7
          case hd7 => (intro w; go_simp; first | done | (with_reducible rfl))
          refine wpAnyIn_take (i := 9) (v := ?vd8) rfl rfl (by kernel_rfl) (by kernel_rfl) (by kernel_rfl) (fun _ _ _ h => nomatch h.1) ⟨Or.inl ⟨by kernel_rfl, ?hd8⟩, fun _ => rfl⟩ ?rd8
          case hd8 => (intro w; go_simp; first | done | (with_reducible rfl))
          refine wpAnyIn_ready (rs := [10]) (by kernel_rfl) (by simp) ?_
          refine AllReadyIn.cons rfl (fun K hK => ?_) AllReadyIn.nil
          go_simp
          refine hK _ _ ?_
          clear hK K
          refine wpAnyIn_done (by kernel_rfl) ?_ _
          exact ⟨rfl, _, _, _, _, _, _, _, _, _, _, rfl, HB3.out⟩
        refine AllReadyIn.cons rfl (fun K hK => ?_) AllReadyIn.nil
        go_simp
        refine hK _ _ ?_
        clear hK K
        refine wpAnyIn_ready (rs := [1, 6]) (by kernel_rfl) (by simp) ?_
        refine AllReadyIn.cons rfl (fun K hK => ?_) ?_
        · skip
          go_simp
          refine hK _ _ ?_
          clear hK K
          refine wpAnyIn_take (i := 2) (v := ?vd9) rfl rfl (by kernel_rfl) (by kernel_rfl) (by kernel_rfl) (fun _ _ _ h => nomatch h.1) ⟨Or.inl ⟨by kernel_rfl, ?hd9⟩, fun _ => rfl⟩ ?rd9
          case hd9 => (intro w; go_simp; first | done | (with_reducible rfl))
          refine wpAnyIn_take (i := 3) (v := ?vd10) rfl rfl (by kernel_rfl) (by kernel_rfl) (by kernel_rfl) (fun _ _ _ h => nomatch h.1) ⟨Or.inl ⟨by kernel_rfl, ?hd10⟩, fun _ => rfl⟩ ?rd10
          case hd10 => (intro w; go_simp; first | done | (with_reducible rfl))
          refine wpAnyIn_ready (rs := [4, 6]) (by kernel_rfl) (by simp) ?_
          refine AllReadyIn.cons rfl (fun K hK => ?_) ?_
          · skip
            go_simp
            refine hK _ _ ?_
            clear hK K
            refine wpAnyIn_ready (rs := [6]) (by kernel_rfl) (by simp) ?_
            refine AllReadyIn.cons rfl (fun K hK => ?_) AllReadyIn.nil
            go_simp
            refine hK _ _ ?_
            clear hK K
            refine wpAnyIn_ready (rs := [7]) (by kernel_rfl) (by simp) ?_
            refine AllReadyIn.cons rfl (fun K hK => ?_) AllReadyIn.nil
            rw [if_pos (by kernel_rfl)]
            refine op_appIn (.tmp 20) (.tmp 22) rv2 (.slice (some ⟨X.heap.size, 0, none⟩) 1 1) (by kernel_rfl) (by kernel_rfl) rfl hrun ?_
            clear hrun
            have p7 := hp7.cell
            obtain ⟨d0, d1, d2, d3⟩ := box4' hc7
            have fC2 := frozen_of_row w7 C 2 _ 113 hc7
            refine hK _ _ ?_
            clear hK K
            refine wpAnyIn_take (i := 8) (v := ?vd11) rfl rfl (by kernel_rfl) (by kernel_rfl) (by kernel_rfl) (fun _ _ _ h => nomatch h.1) ⟨Or.inl ⟨by kernel_rfl, ?hd11⟩, fun _ => rfl⟩ ?rd11
            case hd11 => (intro w; go_simp; first | done | (with_reducible rfl))
            refine wpAnyIn_take (i := 9) (v := ?vd12) rfl rfl (by kernel_rfl) (by kernel_rfl) (by kernel_rfl) (fun _ _ _ h => nomatch h.1) ⟨Or.inl ⟨by kernel_rfl, ?hd12⟩, fun _ => rfl⟩ ?rd12
            case hd12 => (intro w; go_simp; first | done | (with_reducible rfl))
            refine wpAnyIn_ready (rs := [10]) (by kernel_rfl) (by simp) ?_
            refine AllReadyIn.cons rfl (fun K hK => ?_) AllReadyIn.nil
            go_simp
            refine hK _ _ ?_
            clear hK K
            refine wpAnyIn_done (by kernel_rfl) ?_ _
            exact ⟨rfl, _, _, _, _, _, _, _, _, _, _, rfl, HB3.out⟩
          refine AllReadyIn.cons rfl (fun K hK => ?_) AllReadyIn.nil
          go_simp
          refine hK _ _ ?_
          clear hK K
          refine wpAnyIn_ready (rs := [4]) (by kernel_rfl) (by simp) ?_
          refine AllReadyIn.cons rfl (fun K hK => ?_) AllReadyIn.nil
          go_simp
          refine hK _ _ ?_
          clear hK K
          refine wpAnyIn_ready (rs := [7]) (by kernel_rfl) (by simp) ?_
          refine AllReadyIn.cons rfl (fun K hK => ?_) AllReadyIn.nil
          rw [if_pos (by kernel_rfl)]
          refine op_appIn (.tmp 20) (.tmp 22) rv2 (.slice (some ⟨X.heap.size, 0, none⟩) 1 1) (by kernel_rfl) (by kernel_rfl) rfl hrun ?_
          clear hrun
          have p7 := hp7.cell
          obtain ⟨d0, d1, d2, d3⟩ := box4' hc7
          have fC2 := frozen_of_row w7 C 2 _ 113 hc7
          refine hK _ _ ?_
          clear hK K
          refine wpAnyIn_take (i := 8) (v := ?vd13) rfl rfl (by kernel_rfl) (by kernel_rfl) (by kernel_rfl) (fun _ _ _ h => nomatch h.1) ⟨Or.inl ⟨by kernel_rfl, ?hd13⟩, fun _ => rfl⟩ ?rd13
          case hd13 => (intro w; go_simp; first | done | (with_reducible rfl))
          refine wpAnyIn_take (i := 9) (v := ?vd14) rfl rfl (by kernel_rfl) (by kernel_rfl) (by kernel_rfl) (fun _ _ _ h => nomatch h.1) ⟨Or.inl ⟨by kernel_rfl, ?hd14⟩, fun _ => rfl⟩ ?rd14
          case hd14 => (intro w; go_simp; first | done | (with_reducible rfl))
          refine wpAnyIn_ready (rs := [10]) (by kernel_rfl) (by simp) ?_
          refine AllReadyIn.cons rfl (fun K hK => ?_) AllReadyIn.nil
          go_simp
          refine hK _ _ ?_
          clear hK K
          refine wpAnyIn_done (by kernel_rfl) ?_ _
          exact ⟨rfl, _, _, _, _, _, _, _, _, _, _, rfl, HB3.out⟩
        refine AllReadyIn.cons rfl (fun K hK => ?_) AllReadyIn.nil
        go_simp
        refine hK _ _ ?_
        clear hK K
        refine wpAnyIn_ready (rs := [1]) (by kernel_rfl) (by simp) ?_
        refine AllReadyIn.cons rfl (fun K hK => ?_) AllReadyIn.nil
        go_simp
        refine hK _ _ ?_
        clear hK K
        refine wpAnyIn_take (i := 2) (v := ?vd15) rfl rfl (by kernel_rfl) (by kernel_rfl) (by kernel_rfl) (fun _ _ _ h => nomatch h.1) ⟨Or.inl ⟨by kernel_rfl, ?hd15⟩, fun _ => rfl⟩ ?rd15
        case hd15 => (intro w; go_simp; first | done | (with_reducible rfl))
        refine wpAnyIn_take (i := 3) (v := ?vd16) rfl rfl (by kernel_rfl) (by kernel_rfl) (by kernel_rfl) (fun _ _ _ h => nomatch h.1) ⟨Or.inl ⟨by kernel_rfl, ?hd16⟩, fun _ => rfl⟩ ?rd16
        case hd16 => (intro w; go_simp; first | done | (with_reducible rfl))
        refine wpAnyIn_ready (rs := [4]) (by kernel_rfl) (by simp) ?_
        refine AllReadyIn.cons rfl (fun K hK => ?_) AllReadyIn.nil
        go_simp
        refine hK _ _ ?_
        clear hK K
        refine wpAnyIn_ready (rs := [7]) (by kernel_rfl) (by simp) ?_
        refine AllReadyIn.cons rfl (fun K hK => ?_) AllReadyIn.nil
        rw [if_pos (by kernel_rfl)]
        refine op_appIn (.tmp 20) (.tmp 22) rv2 (.slice (some ⟨X.heap.size, 0, none⟩) 1 1) (by kernel_rfl) (by kernel_rfl) rfl hrun ?_
        clear hrun
        have p7 := hp7.cell
        obtain ⟨d0, d1, d2, d3⟩ := box4' hc7
        have fC2 := frozen_of_row w7 C 2 _ 113 hc7
        refine hK _ _ ?_
        clear hK K
        refine wpAnyIn_take (i := 8) (v := ?vd17) rfl rfl (by kernel_rfl) (by kernel_rfl) (by kernel_rfl) (fun _ _ _ h => nomatch h.1) ⟨Or.inl ⟨by kernel_rfl, ?hd17⟩, fun _ => rfl⟩ ?rd17
        case hd17 => (intro w; go_simp; first | done | (with_reducible rfl))
        refine wpAnyIn_take (i := 9) (v := ?vd18) rfl rfl (by kernel_rfl) (by kernel_rfl) (by kernel_rfl) (fun _ _ _ h => nomatch h.1) ⟨Or.inl ⟨by kernel_rfl, ?hd18⟩, fun _ => rfl⟩ ?rd18
        case hd18 => (intro w; go_simp; first | done | (with_reducible rfl))
        refine wpAnyIn_ready (rs := [10]) (by kernel_rfl) (by simp) ?_
        refine AllReadyIn.cons rfl (fun K hK => ?_) AllReadyIn.nil
        go_simp
        refine hK _ _ ?_
        clear hK K
        refine wpAnyIn_done (by kernel_rfl) ?_ _
        exact ⟨rfl, _, _, _, _, _, _, _, _, _, _, rfl, HB3.out⟩
      refine AllReadyIn.cons rfl (fun K hK => ?_) ?_
      · skip
        go_simp
        refine hK _ _ ?_
        clear hK K
        refine wpAnyIn_take (i := 2) (v := ?vd19) rfl rfl (by kernel_rfl) (by kernel_rfl) (by kernel_rfl) (fun _ _ _ h => nomatch h.1) ⟨Or.inl ⟨by kernel_rfl, ?hd19⟩, fun _ => rfl⟩ ?rd19
        case hd19 => (intro w; go_simp; first | done | (with_reducible rfl))
        refine wpAnyIn_take (i := 3) (v := ?vd20) rfl rfl (by kernel_rfl) (by kernel_rfl) (by kernel_rfl) (fun _ _ _ h => nomatch h.1) ⟨Or.inl ⟨by kernel_rfl, ?hd20⟩, fun _ => rfl⟩ ?rd20
        case hd20 => (intro w; go_simp; first | done | (with_reducible rfl))
        refine wpAnyIn_ready (rs := [0, 4, 5]) (by kernel_rfl) (by simp) ?_
        refine AllReadyIn.cons rfl (fun K hK => ?_) ?_
        · skip
          go_simp
          refine hK _ _ ?_
          clear hK K
          refine wpAnyIn_ready (rs := [4, 5]) (by kernel_rfl) (by simp) ?_
          refine AllReadyIn.cons rfl (fun K hK => ?_) ?_
          · skip
            go_simp
            refine hK _ _ ?_
            clear hK K
            refine wpAnyIn_ready (rs := [5]) (by kernel_rfl) (by simp) ?_
            refine AllReadyIn.cons rfl (fun K hK => ?_) AllReadyIn.nil
            go_simp
            refine hK _ _ ?_
            clear hK K
            refine wpAnyIn_ready (rs := [6]) (by kernel_rfl) (by simp) ?_
            refine AllReadyIn.cons rfl (fun K hK => ?_) AllReadyIn.nil
            go_simp
            refine hK _ _ ?_
            clear hK K
            refine wpAnyIn_ready (rs := [7]) (by kernel_rfl) (by simp) ?_
            refine AllReadyIn.cons rfl (fun K hK => ?_) AllReadyIn.nil
            rw [if_pos (by kernel_rfl)]
            refine op_appIn (.tmp 20) (.tmp 22) rv2 (.slice (some ⟨X.heap.size, 0, none⟩) 1 1) (by kernel_rfl) (by kernel_rfl) rfl hrun ?_
            clear hrun
            have p7 := hp7.cell
            obtain ⟨d0, d1, d2, d3⟩ := box4' hc7
            have fC2 := frozen_of_row w7 C 2 _ 113 hc7
            refine hK _ _ ?_
            clear hK K
            refine wpAnyIn_take (i := 8) (v := ?vd21) rfl rfl (by kernel_rfl) (by kernel_rfl) (by kernel_rfl) (fun _ _ _ h => nomatch h.1) ⟨Or.inl ⟨by kernel_rfl, ?hd21⟩, fun _ => rfl⟩ ?rd21
            case hd21 => (intro w; go_simp; first | done | (with_reducible rfl))
            refine wpAnyIn_take (i := 9) (v := ?vd22) rfl rfl (by kernel_rfl) (by kernel_rfl) (by kernel_rfl) (fun _ _ _ h => nomatch h.1) ⟨Or.inl ⟨by kernel_rfl, ?hd22⟩, fun _ => rfl⟩ ?rd22
            case hd22 => (intro w; go_simp; first | done | (with_reducible rfl))
            refine wpAnyIn_ready (rs := [10]) (by kernel_rfl) (by simp) ?_
            refine AllReadyIn.cons rfl (fun K hK => ?_) AllReadyIn.nil
            go_simp
            refine hK _ _ ?_
            clear hK K
            refine wpAnyIn_done (by kernel_rfl) ?_ _
            exact ⟨rfl, _, _, _, _, _, _, _, _, _, _, rfl, HB3.out⟩
          refine AllReadyIn.cons rfl (fun K hK => ?_) AllReadyIn.nil
          go_simp
          refine hK _ _ ?_
          clear hK K
          refine wpAnyIn_ready (rs := [4, 6]) (by kernel_rfl) (by simp) ?_
          refine AllReadyIn.cons rfl (fun K hK => ?_) ?_
          · skip
            go_simp
            refine hK _ _ ?_
            clear hK K
            refine wpAnyIn_ready (rs := [6]) (by kernel_rfl) (by simp) ?_
            refine AllReadyIn.cons rfl (fun K hK => ?_) AllReadyIn.nil
            go_simp
            refine hK _ _ ?_
            clear hK K
            refine wpAnyIn_ready (rs := [7]) (by kernel_rfl) (by simp) ?_
            refine AllReadyIn.cons rfl (fun K hK => ?_) AllReadyIn.nil
            rw [if_pos (by kernel_rfl)]
            refine op_appIn (.tmp 20) (.tmp 22) rv2 (.slice (some ⟨X.heap.size, 0, none⟩) 1 1) (by kernel_rfl) (by kernel_rfl) rfl hrun ?_
            clear hrun
            have p7 := hp7.cell
            obtain ⟨d0, d1, d2, d3⟩ := box4' hc7
            have fC2 := frozen_of_row w7 C 2 _ 113 hc7
            refine hK _ _ ?_
            clear hK K
            refine wpAnyIn_take (i := 8) (v := ?vd23) rfl rfl (by kernel_rfl) (by kernel_rfl) (by kernel_rfl) (fun _ _ _ h => nomatch h.1) ⟨Or.inl ⟨by kernel_rfl, ?hd23⟩, fun _ => rfl⟩ ?rd23
            case hd23 => (intro w; go_simp; first | done | (with_reducible rfl))
            refine wpAnyIn_take (i := 9) (v := ?vd24) rfl rfl (by kernel_rfl) (by kernel_rfl) (by kernel_rfl) (fun _ _ _ h => nomatch h.1) ⟨Or.inl ⟨by kernel_rfl, ?hd24⟩, fun _ => rfl⟩ ?rd24
            case hd24 => (intro w; go_simp; first | done | (with_reducible rfl))
            refine wpAnyIn_ready (rs := [10]) (by kernel_rfl) (by simp) ?_
            refine AllReadyIn.cons rfl (fun K hK => ?_) AllReadyIn.nil
            go_simp
            refine hK _ _ ?_
            clear hK K
            refine wpAnyIn_done (by kernel_rfl) ?_ _
            exact ⟨rfl, _, _, _, _, _, _, _, _, _, _, rfl, HB3.out⟩
          refine AllReadyIn.cons rfl (fun K hK => ?_) AllReadyIn.nil
          go_simp
          refine hK _ _ ?_
          clear hK K
          refine wpAnyIn_ready (rs := [4]) (by kernel_rfl) (by simp) ?_
          refine AllReadyIn.cons rfl (fun K hK => ?_) AllReadyIn.nil
          go_simp
          refine hK _ _ ?_
          clear hK K
          refine wpAnyIn_ready (rs := [7]) (by kernel_rfl) (by simp) ?_
          refine AllReadyIn.cons rfl (fun K hK => ?_) AllReadyIn.nil
          rw [if_pos (by kernel_rfl)]
          refine op_appIn (.tmp 20) (.tmp 22) rv2 (.slice (some ⟨X.heap.size, 0, none⟩) 1 1) (by kernel_rfl) (by kernel_rfl) rfl hrun ?_
          clear hrun
          have p7 := hp7.cell
          obtain ⟨d0, d1, d2, d3⟩ := box4' hc7
          have fC2 := frozen_of_row w7 C 2 _ 113 hc7
          refine hK _ _ ?_
          clear hK K
          refine wpAnyIn_take (i := 8) (v := ?vd25) rfl rfl (by kernel_rfl) (by kernel_rfl) (by kernel_rfl) (fun _ _ _ h => nomatch h.1) ⟨Or.inl ⟨by kernel_rfl, ?hd25⟩, fun _ => rfl⟩ ?rd25
          case hd25 => (intro w; go_simp; first | done | (with_reducible rfl))
          refine wpAnyIn_take (i := 9) (v := ?vd26) rfl rfl (by kernel_rfl) (by kernel_rfl) (by kernel_rfl) (fun _ _ _ h => nomatch h.1) ⟨Or.inl ⟨by kernel_rfl, ?hd26⟩, fun _ => rfl⟩ ?rd26
          case hd26 => (intro w; go_simp; first | done | (with_reducible rfl))
          refine wpAnyIn_ready (rs := [10]) (by kernel_rfl) (by simp) ?_
          refine AllReadyIn.cons rfl (fun K hK => ?_) AllReadyIn.nil
          go_simp
          refine hK _ _ ?_
          clear hK K
          refine wpAnyIn_done (by kernel_rfl) ?_ _
          exact ⟨rfl, _, _, _, _, _, _, _, _, _, _, rfl, HB3.out⟩
        refine AllReadyIn.cons rfl (fun K hK => ?_) ?_
        · skip
          go_simp
          refine hK _ _ ?_
          clear hK K
          refine wpAnyIn_ready (rs := [0, 5]) (by kernel_rfl) (by simp) ?_
          refine AllReadyIn.cons rfl (fun K hK => ?_) ?_
          · skip
            go_simp
            refine hK _ _ ?_
            clear hK K
            refine wpAnyIn_ready (rs := [5]) (by kernel_rfl) (by simp) ?_
            refine AllReadyIn.cons rfl (fun K hK => ?_) AllReadyIn.nil
            go_simp
            refine hK _ _ ?_
            clear hK K
            refine wpAnyIn_ready (rs := [6]) (by kernel_rfl) (by simp) ?_
            refine AllReadyIn.cons rfl (fun K hK => ?_) AllReadyIn.nil
            go_simp
            refine hK _ _ ?_
            clear hK K
            refine wpAnyIn_ready (rs := [7]) (by kernel_rfl) (by simp) ?_
            refine AllReadyIn.cons rfl (fun K hK => ?_) AllReadyIn.nil
            rw [if_pos (by kernel_rfl)]
            refine op_appIn (.tmp 20) (.tmp 22) rv2 (.slice (some ⟨X.heap.size, 0, none⟩) 1 1) (by kernel_rfl) (by kernel_rfl) rfl hrun ?_
            clear hrun
            have p7 := hp7.cell
            obtain ⟨d0, d1, d2, d3⟩ := box4' hc7
            have fC2 := frozen_of_row w7 C 2 _ 113 hc7
            refine hK _ _ ?_
            clear hK K
            refine wpAnyIn_take (i := 8) (v := ?vd27) rfl rfl (by kernel_rfl) (by kernel_rfl) (by kernel_rfl) (fun _ _ _ h => nomatch h.1) ⟨Or.inl ⟨by kernel_rfl, ?hd27⟩, fun _ => rfl⟩ ?rd27
            case hd27 => (intro w; go_simp; first | done | (with_reducible rfl))
            refine wpAnyIn_take (i := 9) (v := ?vd28) rfl rfl (by kernel_rfl) (by kernel_rfl) (by kernel_rfl) (fun _ _ _ h => nomatch h.1) ⟨Or.inl ⟨by kernel_rfl, ?hd28⟩, fun _ => rfl⟩ ?rd28
            case hd28 => (intro w; go_simp; first | done | (with_reducible rfl))
            refine wpAnyIn_ready (rs := [10]) (by kernel_rfl) (by simp) ?_
            refine AllReadyIn.cons rfl (fun K hK => ?_) AllReadyIn.nil
            go_simp
            refine hK _ _ ?_
            clear hK K
            refine wpAnyIn_done (by kernel_rfl) ?_ _
            exact ⟨rfl, _, _, _, _, _, _, _, _, _, _, rfl, HB3.out⟩
          refine AllReadyIn.cons rfl (fun K hK => ?_) AllReadyIn.nil
          go_simp
          refine hK _ _ ?_
          clear hK K
          refine wpAnyIn_ready (rs := [0, 6]) (by kernel_rfl) (by simp) ?_
          refine AllReadyIn.cons rfl (fun K hK => ?_) ?_
          · skip
            go_simp
            refine hK _ _ ?_
            clear hK K
            refine wpAnyIn_ready (rs := [6]) (by kernel_rfl) (by simp) ?_
            refine AllReadyIn.cons rfl (fun K hK => ?_) AllReadyIn.nil
            go_simp
            refine hK _ _ ?_
            clear hK K
            refine wpAnyIn_ready (rs := [7]) (by kernel_rfl) (by simp) ?_
            refine AllReadyIn.cons rfl (fun K hK => ?_) AllReadyIn.nil
            rw [if_pos (by kernel_rfl)]
            refine op_appIn (.tmp 20) (.tmp 22) rv2 (.slice (some ⟨X.heap.size, 0, none⟩) 1 1) (by kernel_rfl) (by kernel_rfl) rfl hrun ?_
            clear hrun
            have p7 := hp7.cell
            obtain ⟨d0, d1, d2, d3⟩ := box4' hc7
            have fC2 := frozen_of_row w7 C 2 _ 113 hc7
            refine hK _ _ ?_
            clear hK K
            refine wpAnyIn_take (i := 8) (v := ?vd29) rfl rfl (by kernel_rfl) (by kernel_rfl) (by kernel_rfl) (fun _ _ _ h => nomatch h.1) ⟨Or.inl ⟨by kernel_rfl, ?hd29⟩, fun _ => rfl⟩ ?rd29
            case hd29 => (intro w; go_simp; first | done | (with_reducible rfl))
            refine wpAnyIn_take (i := 9) (v := ?vd30) rfl rfl (by kernel_rfl) (by kernel_rfl) (by kernel_rfl) (fun _ _ _ h => nomatch h.1) ⟨Or.inl ⟨by kernel_rfl, ?hd30⟩, fun _ => rfl⟩ ?rd30
            case hd30 => (intro w; go_simp; first | done | (with_reducible rfl))
            refine wpAnyIn_ready (rs := [10]) (by kernel_rfl) (by simp) ?_
            refine AllReadyIn.cons rfl (fun K hK => ?_) AllReadyIn.nil
            go_simp
            refine hK _ _ ?_
            clear hK K
            refine wpAnyIn_done (by kernel_rfl) ?_ _
            exact ⟨rfl, _, _, _, _, _, _, _, _, _, _, rfl, HB3.out⟩
          refine AllReadyIn.cons rfl (fun K hK => ?_) AllReadyIn.nil
          go_simp
          refine hK _ _ ?_
          clear hK K
          refine wpAnyIn_ready (rs := [0, 7]) (by kernel_rfl) (by simp) ?_
          refine AllReadyIn.cons rfl (fun K hK => ?_) ?_
          · skip
            go_simp
            refine hK _ _ ?_
            clear hK K
            refine wpAnyIn_ready (rs := [7]) (by kernel_rfl) (by simp) ?_
            refine AllReadyIn.cons rfl (fun K hK => ?_) AllReadyIn.nil
            rw [if_pos (by kernel_rfl)]
            refine op_appIn (.tmp 20) (.tmp 22) rv2 (.slice (some ⟨X.heap.size, 0, none⟩) 1 1) (by kernel_rfl) (by kernel_rfl) rfl hrun ?_
            clear hrun
            have p7 := hp7.cell
            obtain ⟨d0, d1, d2, d3⟩ := box4' hc7
            have fC2 := frozen_of_row w7 C 2 _ 113 hc7
            refine hK _ _ ?_
            clear hK K
            refine wpAnyIn_take (i := 8) (v := ?vd31) rfl rfl (by kernel_rfl) (by kernel_rfl) (by kernel_rfl) (fun _ _ _ h => nomatch h.1) ⟨Or.inl ⟨by kernel_rfl, ?hd31⟩, fun _ => rfl⟩ ?rd31
            case hd31 => (intro w; go_simp; first | done | (with_reducible rfl))
            refine wpAnyIn_take (i := 9) (v := ?vd32) rfl rfl (by kernel_rfl) (by kernel_rfl) (by kernel_rfl) (fun _ _ _ h => nomatch h.1) ⟨Or.inl ⟨by kernel_rfl, ?hd32⟩, fun _ => rfl⟩ ?rd32
            case hd32 => (intro w; go_simp; first | done | (with_reducible rfl))
            refine wpAnyIn_ready (rs := [10]) (by kernel_rfl) (by simp) ?_
            refine AllReadyIn.cons rfl (fun K hK => ?_) AllReadyIn.nil
            go_simp
            refine hK _ _ ?_
            clear hK K
            refine wpAnyIn_done (by kernel_rfl) ?_ _
            exact ⟨rfl, _, _, _, _, _, _, _, _, _, _, rfl, HB3.out⟩
          refine AllReadyIn.cons rfl (fun K hK => ?_) AllReadyIn.nil
          rw [if_pos (by kernel_rfl)]
          refine op_appIn (.tmp 20) (.tmp 22) rv2 (.slice (some ⟨X.heap.size, 0, none⟩) 1 1) (by kernel_rfl) (by kernel_rfl) rfl hrun ?_
          clear hrun
          have p7 := hp7.cell
          obtain ⟨d0, d1, d2, d3⟩ := box4' hc7
          have fC2 := frozen_of_row w7 C 2 _ 113 hc7
          refine hK _ _ ?_
          clear hK K
          refine wpAnyIn_ready (rs := [0]) (by kernel_rfl) (by simp) ?_
          refine AllReadyIn.cons rfl (fun K hK => ?_) AllReadyIn.nil
          go_simp
          refine hK _ _ ?_
          clear hK K
          refine wpAnyIn_take (i := 8) (v := ?vd33) rfl rfl (by kernel_rfl) (by kernel_rfl) (by kernel_rfl) (fun _ _ _ h => nomatch h.1) ⟨Or.inl ⟨by kernel_rfl, ?hd33⟩, fun _ => rfl⟩ ?rd33
          case hd33 => (intro w; go_simp; first | done | (with_reducible rfl))
          refine wpAnyIn_take (i := 9) (v := ?vd34) rfl rfl (by kernel_rfl) (by kernel_rfl) (by kernel_rfl) (fun _ _ _ h => nomatch h.1) ⟨Or.inl ⟨by kernel_rfl, ?hd34⟩, fun _ => rfl⟩ ?rd34
          case hd34 => (intro w; go_simp; first | done | (with_reducible rfl))
          refine wpAnyIn_ready (rs := [10]) (by kernel_rfl) (by simp) ?_
          refine AllReadyIn.cons rfl (fun K hK => ?_) AllReadyIn.nil
          go_simp
          refine hK _ _ ?_
          clear hK K
          refine wpAnyIn_done (by kernel_rfl) ?_ _
          exact ⟨rfl, _, _, _, _, _, _, _, _, _, _, rfl, HB3.out⟩
        refine AllReadyIn.cons rfl (fun K hK => ?_) AllReadyIn.nil
        go_simp
        refine hK _ _ ?_
        clear hK K
        refine wpAnyIn_ready (rs := [0, 4, 6]) (by kernel_rfl) (by simp) ?_
        refine AllReadyIn.cons rfl (fun K hK => ?_) ?_
        · skip
          go_simp
          refine hK _ _ ?_
          clear hK K
          refine wpAnyIn_ready (rs := [4, 6]) (by kernel_rfl) (by simp) ?_
          refine AllReadyIn.cons rfl (fun K hK => ?_) ?_
          · skip
            go_simp
            refine hK _ _ ?_
            clear hK K
            refine wpAnyIn_ready (rs := [6]) (by kernel_rfl) (by simp) ?_
            refine AllReadyIn.cons rfl (fun K hK => ?_) AllReadyIn.nil
            go_simp
            refine hK _ _ ?_
            clear hK K
            refine wpAnyIn_ready (rs := [7]) (by kernel_rfl) (by simp) ?_
            refine AllReadyIn.cons rfl (fun K hK => ?_) AllReadyIn.nil
            rw [if_pos (by kernel_rfl)]
            refine op_appIn (.tmp 20) (.tmp 22) rv2 (.slice (some ⟨X.heap.size, 0, none⟩) 1 1) (by kernel_rfl) (by kernel_rfl) rfl hrun ?_
            clear hrun
            have p7 := hp7.cell
            obtain ⟨d0, d1, d2, d3⟩ := box4' hc7
            have fC2 := frozen_of_row w7 C 2 _ 113 hc7
            refine hK _ _ ?_
            clear hK K
            refine wpAnyIn_take (i := 8) (v := ?vd35) rfl rfl (by kernel_rfl) (by kernel_rfl) (by kernel_rfl) (fun _ _ _ h => nomatch h.1) ⟨Or.inl ⟨by kernel_rfl, ?hd35⟩, fun _ => rfl⟩ ?rd35
            case hd35 => (intro w; go_simp; first | done | (with_reducible rfl))
            refine wpAnyIn_take (i := 9) (v := ?vd36) rfl rfl (by kernel_rfl) (by kernel_rfl) (by kernel_rfl) (fun _ _ _ h => nomatch h.1) ⟨Or.inl ⟨by kernel_rfl, ?hd36⟩, fun _ => rfl⟩ ?rd36
            case hd36 => (intro w; go_simp; first | done | (with_reducible rfl))
            refine wpAnyIn_ready (rs := [10]) (by kernel_rfl) (by simp) ?_
            refine AllReadyIn.cons rfl (fun K hK => ?_) AllReadyIn.nil
            go_simp
            refine hK _ _ ?_
            clear hK K
            refine wpAnyIn_done (by kernel_rfl) ?_ _
            exact ⟨rfl, _, _, _, _, _, _, _, _, _, _, rfl, HB3.out⟩
          refine AllReadyIn.cons rfl (fun K hK => ?_) AllReadyIn.nil
          go_simp
          refine hK _ _ ?_
          clear hK K
          refine wpAnyIn_ready (rs := [4]) (by kernel_rfl) (by simp) ?_
          refine AllReadyIn.cons rfl (fun K hK => ?_) AllReadyIn.nil
          go_simp
          refine hK _ _ ?_
          clear hK K
          refine wpAnyIn_ready (rs := [7]) (by kernel_rfl) (by simp) ?_
          refine AllReadyIn.cons rfl (fun K hK => ?_) AllReadyIn.nil
          rw [if_pos (by kernel_rfl)]
          refine op_appIn (.tmp 20) (.tmp 22) rv2 (.slice (some ⟨X.heap.size, 0, none⟩) 1 1) (by kernel_rfl) (by kernel_rfl) rfl hrun ?_
          clear hrun
          have p7 := hp7.cell
          obtain ⟨d0, d1, d2, d3⟩ := box4' hc7
          have fC2 := frozen_of_row w7 C 2 _ 113 hc7
          refine hK _ _ ?_
          clear hK K
          refine wpAnyIn_take (i := 8) (v := ?vd37) rfl rfl (by kernel_rfl) (by kernel_rfl) (by kernel_rfl) (fun _ _ _ h => nomatch h.1) ⟨Or.inl ⟨by kernel_rfl, ?hd37⟩, fun _ => rfl⟩ ?rd37
          case hd37 => (intro w; go_simp; first | done | (with_reducible rfl))
          refine wpAnyIn_take (i := 9) (v := ?vd38) rfl rfl (by kernel_rfl) (by kernel_rfl) (by kernel_rfl) (fun _ _ _ h => nomatch h.1) ⟨Or.inl ⟨by kernel_rfl, ?hd38⟩, fun _ => rfl⟩ ?rd38
          case hd38 => (intro w; go_simp; first | done | (with_reducible rfl))
          refine wpAnyIn_ready (rs := [10]) (by kernel_rfl) (by simp) ?_
          refine AllReadyIn.cons rfl (fun K hK => ?_) AllReadyIn.nil
          go_simp
          refine hK _ _ ?_
          clear hK K
          refine wpAnyIn_done (by kernel_rfl) ?_ _
          exact ⟨rfl, _, _, _, _, _, _, _, _, _, _, rfl, HB3.out⟩
        refine AllReadyIn.cons rfl (fun K hK => ?_) ?_
        · skip
          go_simp
          refine hK _ _ ?_
          clear hK K
          refine wpAnyIn_ready (rs := [0, 6]) (by kernel_rfl) (by simp) ?_
          refine AllReadyIn.cons rfl (fun K hK => ?_) ?_
          · skip
            go_simp
            refine hK _ _ ?_
            clear hK K
            refine wpAnyIn_ready (rs := [6]) (by kernel_rfl) (by simp) ?_
            refine AllReadyIn.cons rfl (fun K hK => ?_) AllReadyIn.nil
            go_simp
            refine hK _ _ ?_
            clear hK K
            refine wpAnyIn_ready (rs := [7]) (by kernel_rfl) (by simp) ?_
            refine AllReadyIn.cons rfl (fun K hK => ?_) AllReadyIn.nil
            rw [if_pos (by kernel_rfl)]
            refine op_appIn (.tmp 20) (.tmp 22) rv2 (.slice (some ⟨X.heap.size, 0, none⟩) 1 1) (by kernel_rfl) (by kernel_rfl) rfl hrun ?_
            clear hrun
            have p7 := hp7.cell
            obtain ⟨d0, d1, d2, d3⟩ := box4' hc7
            have fC2 := frozen_of_row w7 C 2 _ 113 hc7
            refine hK _ _ ?_
            clear hK K
            refine wpAnyIn_take (i := 8) (v := ?vd39) rfl rfl (by kernel_rfl) (by kernel_rfl) (by kernel_rfl) (fun _ _ _ h => nomatch h.1) ⟨Or.inl ⟨by kernel_rfl, ?hd39⟩, fun _ => rfl⟩ ?rd39
            case hd39 => (intro w; go_simp; first | done | (with_reducible rfl))
            refine wpAnyIn_take (i := 9) (v := ?vd40) rfl rfl (by kernel_rfl) (by kernel_rfl) (by kernel_rfl) (fun _ _ _ h => nomatch h.1) ⟨Or.inl ⟨by kernel_rfl, ?hd40⟩, fun _ => rfl⟩ ?rd40
            case hd40 => (intro w; go_simp; first | done | (with_reducible rfl))
            refine wpAnyIn_ready (rs := [10]) (by kernel_rfl) (by simp) ?_
            refine AllReadyIn.cons rfl (fun K hK => ?_) AllReadyIn.nil
            go_simp
            refine hK _ _ ?_
            clear hK K
            refine wpAnyIn_done (by kernel_rfl) ?_ _
            exact ⟨rfl, _, _, _, _, _, _, _, _, _, _, rfl, HB3.out⟩
          refine AllReadyIn.cons rfl (fun K hK => ?_) AllReadyIn.nil
          go_simp
          refine hK _ _ ?_
          clear hK K
          refine wpAnyIn_ready (rs := [0, 7]) (by kernel_rfl) (by simp) ?_
          refine AllReadyIn.cons rfl (fun K hK => ?_) ?_
          · skip
            go_simp
            refine hK _ _ ?_
            clear hK K
            refine wpAnyIn_ready (rs := [7]) (by kernel_rfl) (by simp) ?_
            refine AllReadyIn.cons rfl (fun K hK => ?_) AllReadyIn.nil
            rw [if_pos (by kernel_rfl)]
            refine op_appIn (.tmp 20) (.tmp 22) rv2 (.slice (some ⟨X.heap.size, 0, none⟩) 1 1) (by kernel_rfl) (by kernel_rfl) rfl hrun ?_
            clear hrun
            have p7 := hp7.cell
            obtain ⟨d0, d1, d2, d3⟩ := box4' hc7
            have fC2 := frozen_of_row w7 C 2 _ 113 hc7
            refine hK _ _ ?_
            clear hK K
            refine wpAnyIn_take (i := 8) (v := ?vd41) rfl rfl (by kernel_rfl) (by kernel_rfl) (by kernel_rfl) (fun _ _ _ h => nomatch h.1) ⟨Or.inl ⟨by kernel_rfl, ?hd41⟩, fun _ => rfl⟩ ?rd41
            case hd41 => (intro w; go_simp; first | done | (with_reducible rfl))
            refine wpAnyIn_take (i := 9) (v := ?vd42) rfl rfl (by kernel_rfl) (by kernel_rfl) (by kernel_rfl) (fun _ _ _ h => nomatch h.1) ⟨Or.inl ⟨by kernel_rfl, ?hd42⟩, fun _ => rfl⟩ ?rd42
            case hd42 => (intro w; go_simp; first | done | (with_reducible rfl))
            refine wpAnyIn_ready (rs := [10]) (by kernel_rfl) (by simp) ?_
            refine AllReadyIn.cons rfl (fun K hK => ?_) AllReadyIn.nil
            go_simp
            refine hK _ _ ?_
            clear hK K
            refine wpAnyIn_done (by kernel_rfl) ?_ _
            exact ⟨rfl, _, _, _, _, _, _, _, _, _, _, rfl, HB3.out⟩
          refine AllReadyIn.cons rfl (fun K hK => ?_) AllReadyIn.nil
          rw [if_pos (by kernel_rfl)]
          refine op_appIn (.tmp 20) (.tmp 22) rv2 (.slice (some ⟨X.heap.size, 0, none⟩) 1 1) (by kernel_rfl) (by kernel_rfl) rfl hrun ?_
          clear hrun
          have p7 := hp7.cell
          obtain ⟨d0, d1, d2, d3⟩ := box4' hc7
          have fC2 := frozen_of_row w7 C 2 _ 113 hc7
          refine hK _ _ ?_
          clear hK K
          refine wpAnyIn_ready (rs := [0]) (by kernel_rfl) (by simp) ?_
          refine AllReadyIn.cons rfl (fun K hK => ?_) AllReadyIn.nil
          go_simp
          refine hK _ _ ?_
          clear hK K
          refine wpAnyIn_take (i := 8) (v := ?vd43) rfl rfl (by kernel_rfl) (by kernel_rfl) (by kernel_rfl) (fun _ _ _ h => nomatch h.1) ⟨Or.inl ⟨by kernel_rfl, ?hd43⟩, fun _ => rfl⟩ ?rd43
          case hd43 => (intro w; go_simp; first | done | (with_reducible rfl))
          refine wpAnyIn_take (i := 9) (v := ?vd44) rfl rfl (by kernel_rfl) (by kernel_rfl) (by kernel_rfl) (fun _ _ _ h => nomatch h.1) ⟨Or.inl ⟨by kernel_rfl, ?hd44⟩, fun _ => rfl⟩ ?rd44
          case hd44 => (intro w; go_simp; first | done | (with_reducible rfl))
          refine wpAnyIn_ready (rs := [10]) (by kernel_rfl) (by simp) ?_
          refine AllReadyIn.cons rfl (fun K hK => ?_) AllReadyIn.nil
          go_simp
          refine hK _ _ ?_
          clear hK K
          refine wpAnyIn_done (by kernel_rfl) ?_ _
          exact ⟨rfl, _, _, _, _, _, _, _, _, _, _, rfl, HB3.out⟩
        refine AllReadyIn.cons rfl (fun K hK => ?_) AllReadyIn.nil
        go_simp
        refine hK _ _ ?_
        clear hK K
        refine wpAnyIn_ready (rs := [0, 4]) (by kernel_rfl) (by simp) ?_
        refine AllReadyIn.cons rfl (fun K hK => ?_) ?_
        · skip
          go_simp
          refine hK _ _ ?_
          clear hK K
          refine wpAnyIn_ready (rs := [4]) (by kernel_rfl) (by simp) ?_
          refine AllReadyIn.cons rfl (fun K hK => ?_) AllReadyIn.nil
          go_simp
          refine hK _ _ ?_
          clear hK K
          refine wpAnyIn_ready (rs := [7]) (by kernel_rfl) (by simp) ?_
          refine AllReadyIn.cons rfl (fun K hK => ?_) AllReadyIn.nil
          rw [if_pos (by kernel_rfl)]
          refine op_appIn (.tmp 20) (.tmp 22) rv2 (.slice (some ⟨X.heap.size, 0, none⟩) 1 1) (by kernel_rfl) (by kernel_rfl) rfl hrun ?_
          clear hrun
          have p7 := hp7.cell
          obtain ⟨d0, d1, d2, d3⟩ := box4' hc7
          have fC2 := frozen_of_row w7 C 2 _ 113 hc7
          refine hK _ _ ?_
          clear hK K
          refine wpAnyIn_take (i := 8) (v := ?vd45) rfl rfl (by kernel_rfl) (by kernel_rfl) (by kernel_rfl) (fun _ _ _ h => nomatch h.1) ⟨Or.inl ⟨by kernel_rfl, ?hd45⟩, fun _ => rfl⟩ ?rd45
          case hd45 => (intro w; go_simp; first | done | (with_reducible rfl))
          refine wpAnyIn_take (i := 9) (v := ?vd46) rfl rfl (by kernel_rfl) (by kernel_rfl) (by kernel_rfl) (fun _ _ _ h => nomatch h.1) ⟨Or.inl ⟨by kernel_rfl, ?hd46⟩, fun _ => rfl⟩ ?rd46
          case hd46 => (intro w; go_simp; first | done | (with_reducible rfl))
          refine wpAnyIn_ready (rs := [10]) (by kernel_rfl) (by simp) ?_
          refine AllReadyIn.cons rfl (fun K hK => ?_) AllReadyIn.nil
          go_simp
          refine hK _ _ ?_
          clear hK K
          refine wpAnyIn_done (by kernel_rfl) ?_ _
          exact ⟨rfl, _, _, _, _, _, _, _, _, _, _, rfl, HB3.out⟩
        refine AllReadyIn.cons rfl (fun K hK => ?_) AllReadyIn.nil
        go_simp
        refine hK _ _ ?_
        clear hK K
        refine wpAnyIn_ready (rs := [0, 7]) (by kernel_rfl) (by simp) ?_
        refine AllReadyIn.cons rfl (fun K hK => ?_) ?_
        · skip
          go_simp
          refine hK _ _ ?_
          clear hK K
          refine wpAnyIn_ready (rs := [7]) (by kernel_rfl) (by simp) ?_
          refine AllReadyIn.cons rfl (fun K hK => ?_) AllReadyIn.nil
          rw [if_pos (by kernel_rfl)]
          refine op_appIn (.tmp 20) (.tmp 22) rv2 (.slice (some ⟨X.heap.size, 0, none⟩) 1 1) (by kernel_rfl) (by kernel_rfl) rfl hrun ?_
          clear hrun
          have p7 := hp7.cell
          obtain ⟨d0, d1, d2, d3⟩ := box4' hc7
          have fC2 := frozen_of_row w7 C 2 _ 113 hc7
          refine hK _ _ ?_
          clear hK K
          refine wpAnyIn_take (i := 8) (v := ?vd47) rfl rfl (by kernel_rfl) (by kernel_rfl) (by kernel_rfl) (fun _ _ _ h => nomatch h.1) ⟨Or.inl ⟨by kernel_rfl, ?hd47⟩, fun _ => rfl⟩ ?rd47
          case hd47 => (intro w; go_simp; first | done | (with_reducible rfl))
          refine wpAnyIn_take (i := 9) (v := ?vd48) rfl rfl (by kernel_rfl) (by kernel_rfl) (by kernel_rfl) (fun _ _ _ h => nomatch h.1) ⟨Or.inl ⟨by kernel_rfl, ?hd48⟩, fun _ => rfl⟩ ?rd48
          case hd48 => (intro w; go_simp; first | done | (with_reducible rfl))
          refine wpAnyIn_ready (rs := [10]) (by kernel_rfl) (by simp) ?_
          refine AllReadyIn.cons rfl (fun K hK => ?_) AllReadyIn.nil
          go_simp
          refine hK _ _ ?_
          clear hK K
          refine wpAnyIn_done (by kernel_rfl) ?_ _
          exact ⟨rfl, _, _, _, _, _, _, _, _, _, _, rfl, HB3.out⟩
        refine AllReadyIn.cons rfl (fun K hK => ?_) AllReadyIn.nil
        rw [if_pos (by kernel_rfl)]
        refine op_appIn (.tmp 20) (.tmp 22) rv2 (.slice (some ⟨X.heap.size, 0, none⟩) 1 1) (by kernel_rfl) (by kernel_rfl) rfl hrun ?_
        clear hrun
        have p7 := hp7.cell
        obtain ⟨d0, d1, d2, d3⟩ := box4' hc7
        have fC2 := frozen_of_row w7 C 2 _ 113 hc7
        refine hK _ _ ?_
        clear hK K
        refine wpAnyIn_ready (rs := [0]) (by kernel_rfl) (by simp) ?_
        refine AllReadyIn.cons rfl (fun K hK => ?_) AllReadyIn.nil
        go_simp
        refine hK _ _ ?_
        clear hK K
        refine wpAnyIn_take (i := 8) (v := ?vd49) rfl rfl (by kernel_rfl) (by kernel_rfl) (by kernel_rfl) (fun _ _ _ h => nomatch h.1) ⟨Or.inl ⟨by kernel_rfl, ?hd49⟩, fun _ => rfl⟩ ?rd49
        case hd49 => (intro w; go_simp; first | done | (with_reducible rfl))
        refine wpAnyIn_take (i := 9) (v := ?vd50) rfl rfl (by kernel_rfl) (by kernel_rfl) (by kernel_rfl) (fun _ _ _ h => nomatch h.1) ⟨Or.inl ⟨by kernel_rfl, ?hd50⟩, fun _ => rfl⟩ ?rd50
        case hd50 => (intro w; go_simp; first | done | (with_reducible rfl))
        refine wpAnyIn_ready (rs := [10]) (by kernel_rfl) (by simp) ?_
        refine AllReadyIn.cons rfl (fun K hK => ?_) AllReadyIn.nil
        go_simp
        refine hK _ _ ?_
        clear hK K
        refine wpAnyIn_done (by kernel_rfl) ?_ _
        exact ⟨rfl, _, _, _, _, _, _, _, _, _, _, rfl, HB3.out⟩
      refine AllReadyIn.cons rfl (fun K hK => ?_) AllReadyIn.nil
      go_simp
      refine hK _ _ ?_
      clear hK K
      refine wpAnyIn_ready (rs := [0, 1, 6]) (by kernel_rfl) (by simp) ?_
      refine AllReadyIn.cons rfl (fun K hK => ?_) ?_
      · skip
        go_simp
        refine hK _ _ ?_
        clear hK K
        refine wpAnyIn_ready (rs := [1, 6]) (by kernel_rfl) (by simp) ?_
        refine AllReadyIn.cons rfl (fun K hK => ?_) ?_
        · skip
          go_simp
          refine hK _ _ ?_
          clear hK K
          refine wpAnyIn_take (i := 2) (v := ?vd51) rfl rfl (by kernel_rfl) (by kernel_rfl) (by kernel_rfl) (fun _ _ _ h => nomatch h.1) ⟨Or.inl ⟨by kernel_rfl, ?hd51⟩, fun _ => rfl⟩ ?rd51
          case hd51 => (intro w; go_simp; first | done | (with_reducible rfl))
          refine wpAnyIn_take (i := 3) (v := ?vd52) rfl rfl (by kernel_rfl) (by kernel_rfl) (by kernel_rfl) (fun _ _ _ h => nomatch h.1) ⟨Or.inl ⟨by kernel_rfl, ?hd52⟩, fun _ => rfl⟩ ?rd52
          case hd52 => (intro w; go_simp; first | done | (with_reducible rfl))
          refine wpAnyIn_ready (rs := [4, 6]) (by kernel_rfl) (by simp) ?_
          refine AllReadyIn.cons rfl (fun K hK => ?_) ?_
          · skip
            go_simp
            refine hK _ _ ?_
            clear hK K
            refine wpAnyIn_ready (rs := [6]) (by kernel_rfl) (by simp) ?_
            refine AllReadyIn.cons rfl (fun K hK => ?_) AllReadyIn.nil
            go_simp
            refine hK _ _ ?_
            clear hK K
            refine wpAnyIn_ready (rs := [7]) (by kernel_rfl) (by simp) ?_
            refine AllReadyIn.cons rfl (fun K hK => ?_) AllReadyIn.nil
            rw [if_pos (by kernel_rfl)]
            refine op_appIn (.tmp 20) (.tmp 22) rv2 (.slice (some ⟨X.heap.size, 0, none⟩) 1 1) (by kernel_rfl) (by kernel_rfl) rfl hrun ?_
            clear hrun
            have p7 := hp7.cell
            obtain ⟨d0, d1, d2, d3⟩ := box4' hc7
            have fC2 := frozen_of_row w7 C 2 _ 113 hc7
            refine hK _ _ ?_
            clear hK K
            refine wpAnyIn_take (i := 8) (v := ?vd53) rfl rfl (by kernel_rfl) (by kernel_rfl) (by kernel_rfl) (fun _ _ _ h => nomatch h.1) ⟨Or.inl ⟨by kernel_rfl, ?hd53⟩, fun _ => rfl⟩ ?rd53
            case hd53 => (intro w; go_simp; first | done | (with_reducible rfl))
            refine wpAnyIn_take (i := 9) (v := ?vd54) rfl rfl (by kernel_rfl) (by kernel_rfl) (by kernel_rfl) (fun _ _ _ h => nomatch h.1) ⟨Or.inl ⟨by kernel_rfl, ?hd54⟩, fun _ => rfl⟩ ?rd54
            case hd54 => (intro w; go_simp; first | done | (with_reducible rfl))
            refine wpAnyIn_ready (rs := [10]) (by kernel_rfl) (by simp) ?_
            refine AllReadyIn.cons rfl (fun K hK => ?_) AllReadyIn.nil
            go_simp
            refine hK _ _ ?_
            clear hK K
            refine wpAnyIn_done (by kernel_rfl) ?_ _
            exact ⟨rfl, _, _, _, _, _, _, _, _, _, _, rfl, HB3.out⟩
          refine AllReadyIn.cons rfl (fun K hK => ?_) AllReadyIn.nil
          go_simp
          refine hK _ _ ?_
          clear hK K
          refine wpAnyIn_ready (rs := [4]) (by kernel_rfl) (by simp) ?_
          refine AllReadyIn.cons rfl (fun K hK => ?_) AllReadyIn.nil
          go_simp
          refine hK _ _ ?_
          clear hK K
          refine wpAnyIn_ready (rs := [7]) (by kernel_rfl) (by simp) ?_
          refine AllReadyIn.cons rfl (fun K hK => ?_) AllReadyIn.nil
          rw [if_pos (by kernel_rfl)]
          refine op_appIn (.tmp 20) (.tmp 22) rv2 (.slice (some ⟨X.heap.size, 0, none⟩) 1 1) (by kernel_rfl) (by kernel_rfl) rfl hrun ?_
          clear hrun
          have p7 := hp7.cell
          obtain ⟨d0, d1, d2, d3⟩ := box4' hc7
          have fC2 := frozen_of_row w7 C 2 _ 113 hc7
          refine hK _ _ ?_
          clear hK K
          refine wpAnyIn_take (i := 8) (v := ?vd55) rfl rfl (by kernel_rfl) (by kernel_rfl) (by kernel_rfl) (fun _ _ _ h => nomatch h.1) ⟨Or.inl ⟨by kernel_rfl, ?hd55⟩, fun _ => rfl⟩ ?rd55
          case hd55 => (intro w; go_simp; first | done | (with_reducible rfl))
          refine wpAnyIn_take (i := 9) (v := ?vd56) rfl rfl (by kernel_rfl) (by kernel_rfl) (by kernel_rfl) (fun _ _ _ h => nomatch h.1) ⟨Or.inl ⟨by kernel_rfl, ?hd56⟩, fun _ => rfl⟩ ?rd56
          case hd56 => (intro w; go_simp; first | done | (with_reducible rfl))
          refine wpAnyIn_ready (rs := [10]) (by kernel_rfl) (by simp) ?_
          refine AllReadyIn.cons rfl (fun K hK => ?_) AllReadyIn.nil
          go_simp
          refine hK _ _ ?_
          clear hK K
          refine wpAnyIn_done (by kernel_rfl) ?_ _
          exact ⟨rfl, _, _, _, _, _, _, _, _, _, _, rfl, HB3.out⟩
        refine AllReadyIn.cons rfl (fun K hK => ?_) AllReadyIn.nil
        go_simp
        refine hK _ _ ?_
        clear hK K
        refine wpAnyIn_ready (rs := [1]) (by kernel_rfl) (by simp) ?_
        refine AllReadyIn.cons rfl (fun K hK => ?_) AllReadyIn.nil
        go_simp
        refine hK _ _ ?_
        clear hK K
        refine wpAnyIn_take (i := 2) (v := ?vd57) rfl rfl (by kernel_rfl) (by kernel_rfl) (by kernel_rfl) (fun _ _ _ h => nomatch h.1) ⟨Or.inl ⟨by kernel_rfl, ?hd57⟩, fun _ => rfl⟩ ?rd57
        case hd57 => (intro w; go_simp; first | done | (with_reducible rfl))
        refine wpAnyIn_take (i := 3) (v := ?vd58) rfl rfl (by kernel_rfl) (by kernel_rfl) (by kernel_rfl) (fun _ _ _ h => nomatch h.1) ⟨Or.inl ⟨by kernel_rfl, ?hd58⟩, fun _ => rfl⟩ ?rd58
        case hd58 => (intro w; go_simp; first | done | (with_reducible rfl))
        refine wpAnyIn_ready (rs := [4]) (by kernel_rfl) (by simp) ?_
        refine AllReadyIn.cons rfl (fun K hK => ?_) AllReadyIn.nil
        go_simp
        refine hK _ _ ?_
        clear hK K
        refine wpAnyIn_ready (rs := [7]) (by kernel_rfl) (by simp) ?_
        refine AllReadyIn.cons rfl (fun K hK => ?_) AllReadyIn.nil
        rw [if_pos (by kernel_rfl)]
        refine op_appIn (.tmp 20) (.tmp 22) rv2 (.slice (some ⟨X.heap.size, 0, none⟩) 1 1) (by kernel_rfl) (by kernel_rfl) rfl hrun ?_
        clear hrun
        have p7 := hp7.cell
        obtain ⟨d0, d1, d2, d3⟩ := box4' hc7
        have fC2 := frozen_of_row w7 C 2 _ 113 hc7
        refine hK _ _ ?_
        clear hK K
        refine wpAnyIn_take (i := 8) (v := ?vd59) rfl rfl (by kernel_rfl) (by kernel_rfl) (by kernel_rfl) (fun _ _ _ h => nomatch h.1) ⟨Or.inl ⟨by kernel_rfl, ?hd59⟩, fun _ => rfl⟩ ?rd59
        case hd59 => (intro w; go_simp; first | done | (with_reducible rfl))
        refine wpAnyIn_take (i := 9) (v := ?vd60) rfl rfl (by kernel_rfl) (by kernel_rfl) (by kernel_rfl) (fun _ _ _ h => nomatch h.1) ⟨Or.inl ⟨by kernel_rfl, ?hd60⟩, fun _ => rfl⟩ ?rd60
        case hd60 => (intro w; go_simp; first | done | (with_reducible rfl))
        refine wpAnyIn_ready (rs := [10]) (by kernel_rfl) (by simp) ?_
        refine AllReadyIn.cons rfl (fun K hK => ?_) AllReadyIn.nil
        go_simp
        refine hK _ _ ?_
        clear hK K
        refine wpAnyIn_done (by kernel_rfl) ?_ _
        exact ⟨rfl, _, _, _, _, _, _, _, _, _, _, rfl, HB3.out⟩
      refine AllReadyIn.cons rfl (fun K hK => ?_) ?_
      · skip
        go_simp
        refine hK _ _ ?_
        clear hK K
        refine wpAnyIn_take (i := 2) (v := ?vd61) rfl rfl (by kernel_rfl) (by kernel_rfl) (by kernel_rfl) (fun _ _ _ h => nomatch h.1) ⟨Or.inl ⟨by kernel_rfl, ?hd61⟩, fun _ => rfl⟩ ?rd61
        case hd61 => (intro w; go_simp; first | done | (with_reducible rfl))
        refine wpAnyIn_take (i := 3) (v := ?vd62) rfl rfl (by kernel_rfl) (by kernel_rfl) (by kernel_rfl) (fun _ _ _ h => nomatch h.1) ⟨Or.inl ⟨by kernel_rfl, ?hd62⟩, fun _ => rfl⟩ ?rd62
        case hd62 => (intro w; go_simp; first | done | (with_reducible rfl))
        refine wpAnyIn_ready (rs := [0, 4, 6]) (by kernel_rfl) (by simp) ?_
        refine AllReadyIn.cons rfl (fun K hK => ?_) ?_
        · skip
          go_simp
          refine hK _ _ ?_
          clear hK K
          refine wpAnyIn_ready (rs := [4, 6]) (by kernel_rfl) (by simp) ?_
          refine AllReadyIn.cons rfl (fun K hK => ?_) ?_
          · skip
            go_simp
            refine hK _ _ ?_
            clear hK K
            refine wpAnyIn_ready (rs := [6]) (by kernel_rfl) (by simp) ?_
            refine AllReadyIn.cons rfl (fun K hK => ?_) AllReadyIn.nil
            go_simp
            refine hK _ _ ?_
            clear hK K
            refine wpAnyIn_ready (rs := [7]) (by kernel_rfl) (by simp) ?_
            refine AllReadyIn.cons rfl (fun K hK => ?_) AllReadyIn.nil
            rw [if_pos (by kernel_rfl)]
            refine op_appIn (.tmp 20) (.tmp 22) rv2 (.slice (some ⟨X.heap.size, 0, none⟩) 1 1) (by kernel_rfl) (by kernel_rfl) rfl hrun ?_
            clear hrun
            have p7 := hp7.cell
            obtain ⟨d0, d1, d2, d3⟩ := box4' hc7
            have fC2 := frozen_of_row w7 C 2 _ 113 hc7
            refine hK _ _ ?_
            clear hK K
            refine wpAnyIn_take (i := 8) (v := ?vd63) rfl rfl (by kernel_rfl) (by kernel_rfl) (by kernel_rfl) (fun _ _ _ h => nomatch h.1) ⟨Or.inl ⟨by kernel_rfl, ?hd63⟩, fun _ => rfl⟩ ?rd63
            case hd63 => (intro w; go_simp; first | done | (with_reducible rfl))
            refine wpAnyIn_take (i := 9) (v := ?vd64) rfl rfl (by kernel_rfl) (by kernel_rfl) (by kernel_rfl) (fun _ _ _ h => nomatch h.1) ⟨Or.inl ⟨by kernel_rfl, ?hd64⟩, fun _ => rfl⟩ ?rd64
            case hd64 => (intro w; go_simp; first | done | (with_reducible rfl))
            refine wpAnyIn_ready (rs := [10]) (by kernel_rfl) (by simp) ?_
            refine AllReadyIn.cons rfl (fun K hK => ?_) AllReadyIn.nil
            go_simp
            refine hK _ _ ?_
            clear hK K
            refine wpAnyIn_done (by kernel_rfl) ?_ _
            exact ⟨rfl, _, _, _, _, _, _, _, _, _, _, rfl, HB3.out⟩
          refine AllReadyIn.cons rfl (fun K hK => ?_) AllReadyIn.nil
          go_simp
          refine hK _ _ ?_
          clear hK K
          refine wpAnyIn_ready (rs := [4]) (by kernel_rfl) (by simp) ?_
          refine AllReadyIn.cons rfl (fun K hK => ?_) AllReadyIn.nil
          go_simp
          refine hK _ _ ?_
          clear hK K
          refine wpAnyIn_ready (rs := [7]) (by kernel_rfl) (by simp) ?_
          refine AllReadyIn.cons rfl (fun K hK => ?_) AllReadyIn.nil
          rw [if_pos (by kernel_rfl)]
          refine op_appIn (.tmp 20) (.tmp 22) rv2 (.slice (some ⟨X.heap.size, 0, none⟩) 1 1) (by kernel_rfl) (by kernel_rfl) rfl hrun ?_
          clear hrun
          have p7 := hp7.cell
          obtain ⟨d0, d1, d2, d3⟩ := box4' hc7
          have fC2 := frozen_of_row w7 C 2 _ 113 hc7
          refine hK _ _ ?_
          clear hK K
          refine wpAnyIn_take (i := 8) (v := ?vd65) rfl rfl (by kernel_rfl) (by kernel_rfl) (by kernel_rfl) (fun _ _ _ h => nomatch h.1) ⟨Or.inl ⟨by kernel_rfl, ?hd65⟩, fun _ => rfl⟩ ?rd65
          case hd65 => (intro w; go_simp; first | done | (with_reducible rfl))
          refine wpAnyIn_take (i := 9) (v := ?vd66) rfl rfl (by kernel_rfl) (by kernel_rfl) (by kernel_rfl) (fun _ _ _ h => nomatch h.1) ⟨Or.inl ⟨by kernel_rfl, ?hd66⟩, fun _ => rfl⟩ ?rd66
          case hd66 => (intro w; go_simp; first | done | (with_reducible rfl))
          refine wpAnyIn_ready (rs := [10]) (by kernel_rfl) (by simp) ?_
          refine AllReadyIn.cons rfl (fun K hK => ?_) AllReadyIn.nil
          go_simp
          refine hK _ _ ?_
          clear hK K
          refine wpAnyIn_done (by kernel_rfl) ?_ _
          exact ⟨rfl, _, _, _, _, _, _, _, _, _, _, rfl, HB3.out⟩
        refine AllReadyIn.cons rfl (fun K hK => ?_) ?_
        · skip
          go_simp
          refine hK _ _ ?_
          clear hK K
          refine wpAnyIn_ready (rs := [0, 6]) (by kernel_rfl) (by simp) ?_
          refine AllReadyIn.cons rfl (fun K hK => ?_) ?_
          · skip
            go_simp
            refine hK _ _ ?_
            clear hK K
            refine wpAnyIn_ready (rs := [6]) (by kernel_rfl) (by simp) ?_
            refine AllReadyIn.cons rfl (fun K hK => ?_) AllReadyIn.nil
            go_simp
            refine hK _ _ ?_
            clear hK K
            refine wpAnyIn_ready (rs := [7]) (by kernel_rfl) (by simp) ?_
            refine AllReadyIn.cons rfl (fun K hK => ?_) AllReadyIn.nil
            rw [if_pos (by kernel_rfl)]
            refine op_appIn (.tmp 20) (.tmp 22) rv2 (.slice (some ⟨X.heap.size, 0, none⟩) 1 1) (by kernel_rfl) (by kernel_rfl) rfl hrun ?_
            clear hrun
            have p7 := hp7.cell
            obtain ⟨d0, d1, d2, d3⟩ := box4' hc7
            have fC2 := frozen_of_row w7 C 2 _ 113 hc7
            refine hK _ _ ?_
            clear hK K
            refine wpAnyIn_take (i := 8) (v := ?vd67) rfl rfl (by kernel_rfl) (by kernel_rfl) (by kernel_rfl) (fun _ _ _ h => nomatch h.1) ⟨Or.inl ⟨by kernel_rfl, ?hd67⟩, fun _ => rfl⟩ ?rd67
            case hd67 => (intro w; go_simp; first | done | (with_reducible rfl))
            refine wpAnyIn_take (i := 9) (v := ?vd68) rfl rfl (by kernel_rfl) (by kernel_rfl) (by kernel_rfl) (fun _ _ _ h => nomatch h.1) ⟨Or.inl ⟨by kernel_rfl, ?hd68⟩, fun _ => rfl⟩ ?rd68
            case hd68 => (intro w; go_simp; first | done | (with_reducible rfl))
            refine wpAnyIn_ready (rs := [10]) (by kernel_rfl) (by simp) ?_
            refine AllReadyIn.cons rfl (fun K hK => ?_) AllReadyIn.nil
            go_simp
            refine hK _ _ ?_
            clear hK K
            refine wpAnyIn_done (by kernel_rfl) ?_ _
            exact ⟨rfl, _, _, _, _, _, _, _, _, _, _, rfl, HB3.out⟩
          refine AllReadyIn.cons rfl (fun K hK => ?_) AllReadyIn.nil
          go_simp
          refine hK _ _ ?_
          clear hK K
          refine wpAnyIn_ready (rs := [0, 7]) (by kernel_rfl) (by simp) ?_
          refine AllReadyIn.cons rfl (fun K hK => ?_) ?_
          · skip
            go_simp
            refine hK _ _ ?_
            clear hK K
            refine wpAnyIn_ready (rs := [7]) (by kernel_rfl) (by simp) ?_
            refine AllReadyIn.cons rfl (fun K hK => ?_) AllReadyIn.nil
            rw [if_pos (by kernel_rfl)]
            refine op_appIn (.tmp 20) (.tmp 22) rv2 (.slice (some ⟨X.heap.size, 0, none⟩) 1 1) (by kernel_rfl) (by kernel_rfl) rfl hrun ?_
            clear hrun
            have p7 := hp7.cell
            obtain ⟨d0, d1, d2, d3⟩ := box4' hc7
            have fC2 := frozen_of_row w7 C 2 _ 113 hc7
            refine hK _ _ ?_
            clear hK K
            refine wpAnyIn_take (i := 8) (v := ?vd69) rfl rfl (by kernel_rfl) (by kernel_rfl) (by kernel_rfl) (fun _ _ _ h => nomatch h.1) ⟨Or.inl ⟨by kernel_rfl, ?hd69⟩, fun _ => rfl⟩ ?rd69
            case hd69 => (intro w; go_simp; first | done | (with_reducible rfl))
            refine wpAnyIn_take (i := 9) (v := ?vd70) rfl rfl (by kernel_rfl) (by kernel_rfl) (by kernel_rfl) (fun _ _ _ h => nomatch h.1) ⟨Or.inl ⟨by kernel_rfl, ?hd70⟩, fun _ => rfl⟩ ?rd70
            case hd70 => (intro w; go_simp; first | done | (with_reducible rfl))
            refine wpAnyIn_ready (rs := [10]) (by kernel_rfl) (by simp) ?_
            refine AllReadyIn.cons rfl (fun K hK => ?_) AllReadyIn.nil
            go_simp
            refine hK _ _ ?_
            clear hK K
            refine wpAnyIn_done (by kernel_rfl) ?_ _
            exact ⟨rfl, _, _, _, _, _, _, _, _, _, _, rfl, HB3.out⟩
          refine AllReadyIn.cons rfl (fun K hK => ?_) AllReadyIn.nil
          rw [if_pos (by kernel_rfl)]
          refine op_appIn (.tmp 20) (.tmp 22) rv2 (.slice (some ⟨X.heap.size, 0, none⟩) 1 1) (by kernel_rfl) (by kernel_rfl) rfl hrun ?_
          clear hrun
          have p7 := hp7.cell
          obtain ⟨d0, d1, d2, d3⟩ := box4' hc7
          have fC2 := frozen_of_row w7 C 2 _ 113 hc7
          refine hK _ _ ?_
          clear hK K
          refine wpAnyIn_ready (rs := [0]) (by kernel_rfl) (by simp) ?_
          refine AllReadyIn.cons rfl (fun K hK => ?_) AllReadyIn.nil
          go_simp
          refine hK _ _ ?_
          clear hK K
          refine wpAnyIn_take (i := 8) (v := ?vd71) rfl rfl (by kernel_rfl) (by kernel_rfl) (by kernel_rfl) (fun _ _ _ h => nomatch h.1) ⟨Or.inl ⟨by kernel_rfl, ?hd71⟩, fun _ => rfl⟩ ?rd71
          case hd71 => (intro w; go_simp; first | done | (with_reducible rfl))
          refine wpAnyIn_take (i := 9) (v := ?vd72) rfl rfl (by kernel_rfl) (by kernel_rfl) (by kernel_rfl) (fun _ _ _ h => nomatch h.1) ⟨Or.inl ⟨by kernel_rfl, ?hd72⟩, fun _ => rfl⟩ ?rd72
          case hd72 => (intro w; go_simp; first | done | (with_reducible rfl))
          refine wpAnyIn_ready (rs := [10]) (by kernel_rfl) (by simp) ?_
          refine AllReadyIn.cons rfl (fun K hK => ?_) AllReadyIn.nil
          go_simp
          refine hK _ _ ?_
          clear hK K
          refine wpAnyIn_done (by kernel_rfl) ?_ _
          exact ⟨rfl, _, _, _, _, _, _, _, _, _, _, rfl, HB3.out⟩
        refine AllReadyIn.cons rfl (fun K hK => ?_) AllReadyIn.nil
        go_simp
        refine hK _ _ ?_
        clear hK K
        refine wpAnyIn_ready (rs := [0, 4]) (by kernel_rfl) (by simp) ?_
        refine AllReadyIn.cons rfl (fun K hK => ?_) ?_
        · skip
          go_simp
          refine hK _ _ ?_
          clear hK K
          refine wpAnyIn_ready (rs := [4]) (by kernel_rfl) (by simp) ?_
          refine AllReadyIn.cons rfl (fun K hK => ?_) AllReadyIn.nil
          go_simp
          refine hK _ _ ?_
          clear hK K
          refine wpAnyIn_ready (rs := [7]) (by kernel_rfl) (by simp) ?_
          refine AllReadyIn.cons rfl (fun K hK => ?_) AllReadyIn.nil
          rw [if_pos (by kernel_rfl)]
          refine op_appIn (.tmp 20) (.tmp 22) rv2 (.slice (some ⟨X.heap.size, 0, none⟩) 1 1) (by kernel_rfl) (by kernel_rfl) rfl hrun ?_
          clear hrun
          have p7 := hp7.cell
          obtain ⟨d0, d1, d2, d3⟩ := box4' hc7
          have fC2 := frozen_of_row w7 C 2 _ 113 hc7
          refine hK _ _ ?_
          clear hK K
          refine wpAnyIn_take (i := 8) (v := ?vd73) rfl rfl (by kernel_rfl) (by kernel_rfl) (by kernel_rfl) (fun _ _ _ h => nomatch h.1) ⟨Or.inl ⟨by kernel_rfl, ?hd73⟩, fun _ => rfl⟩ ?rd73
          case hd73 => (intro w; go_simp; first | done | (with_reducible rfl))
          refine wpAnyIn_take (i := 9) (v := ?vd74) rfl rfl (by kernel_rfl) (by kernel_rfl) (by kernel_rfl) (fun _ _ _ h => nomatch h.1) ⟨Or.inl ⟨by kernel_rfl, ?hd74⟩, fun _ => rfl⟩ ?rd74
          case hd74 => (intro w; go_simp; first | done | (with_reducible rfl))
          refine wpAnyIn_ready (rs := [10]) (by kernel_rfl) (by simp) ?_
          refine AllReadyIn.cons rfl (fun K hK => ?_) AllReadyIn.nil
          go_simp
          refine hK _ _ ?_
          clear hK K
          refine wpAnyIn_done (by kernel_rfl) ?_ _
          exact ⟨rfl, _, _, _, _, _, _, _, _, _, _, rfl, HB3.out⟩
        refine AllReadyIn.cons rfl (fun K hK => ?_) AllReadyIn.nil
        go_simp
        refine hK _ _ ?_
        clear hK K
        refine wpAnyIn_ready (rs := [0, 7]) (by kernel_rfl) (by simp) ?_
        refine AllReadyIn.cons rfl (fun K hK => ?_) ?_
        · skip
          go_simp
          refine hK _ _ ?_
          clear hK K
          refine wpAnyIn_ready (rs := [7]) (by kernel_rfl) (by simp) ?_
          refine AllReadyIn.cons rfl (fun K hK => ?_) AllReadyIn.nil
          rw [if_pos (by kernel_rfl)]
          refine op_appIn (.tmp 20) (.tmp 22) rv2 (.slice (some ⟨X.heap.size, 0, none⟩) 1 1) (by kernel_rfl) (by kernel_rfl) rfl hrun ?_
          clear hrun
          have p7 := hp7.cell
          obtain ⟨d0, d1, d2, d3⟩ := box4' hc7
          have fC2 := frozen_of_row w7 C 2 _ 113 hc7
          refine hK _ _ ?_
          clear hK K
          refine wpAnyIn_take (i := 8) (v := ?vd75) rfl rfl (by kernel_rfl) (by kernel_rfl) (by kernel_rfl) (fun _ _ _ h => nomatch h.1) ⟨Or.inl ⟨by kernel_rfl, ?hd75⟩, fun _ => rfl⟩ ?rd75
          case hd75 => (intro w; go_simp; first | done | (with_reducible rfl))
          refine wpAnyIn_take (i := 9) (v := ?vd76) rfl rfl (by kernel_rfl) (by kernel_rfl) (by kernel_rfl) (fun _ _ _ h => nomatch h.1) ⟨Or.inl ⟨by kernel_rfl, ?hd76⟩, fun _ => rfl⟩ ?rd76
          case hd76 => (intro w; go_simp; first | done | (with_reducible rfl))
          refine wpAnyIn_ready (rs := [10]) (by kernel_rfl) (by simp) ?_
          refine AllReadyIn.cons rfl (fun K hK => ?_) AllReadyIn.nil
          go_simp
          refine hK _ _ ?_
          clear hK K
          refine wpAnyIn_done (by kernel_rfl) ?_ _
          exact ⟨rfl, _, _, _, _, _, _, _, _, _, _, rfl, HB3.out⟩
        refine AllReadyIn.cons rfl (fun K hK => ?_) AllReadyIn.nil
        rw [if_pos (by kernel_rfl)]
        refine op_appIn (.tmp 20) (.tmp 22) rv2 (.slice (some ⟨X.heap.size, 0, none⟩) 1 1) (by kernel_rfl) (by kernel_rfl) rfl hrun ?_
        clear hrun
        have p7 := hp7.cell
        obtain ⟨d0, d1, d2, d3⟩ := box4' hc7
        have fC2 := frozen_of_row w7 C 2 _ 113 hc7
        refine hK _ _ ?_
        clear hK K
        refine wpAnyIn_ready (rs := [0]) (by kernel_rfl) (by simp) ?_
        refine AllReadyIn.cons rfl (fun K hK => ?_) AllReadyIn.nil
        go_simp
        refine hK _ _ ?_
        clear hK K
        refine wpAnyIn_take (i := 8) (v := ?vd77) rfl rfl (by kernel_rfl) (by kernel_rfl) (by kernel_rfl) (fun _ _ _ h => nomatch h.1) ⟨Or.inl ⟨by kernel_rfl, ?hd77⟩, fun _ => rfl⟩ ?rd77
        case hd77 => (intro w; go_simp; first | done | (with_reducible rfl))
        refine wpAnyIn_take (i := 9) (v := ?vd78) rfl rfl (by kernel_rfl) (by kernel_rfl) (by kernel_rfl) (fun _ _ _ h => nomatch h.1) ⟨Or.inl ⟨by kernel_rfl, ?hd78⟩, fun _ => rfl⟩ ?rd78
        case hd78 => (intro w; go_simp; first | done | (with_reducible rfl))
        refine wpAnyIn_ready (rs := [10]) (by kernel_rfl) (by simp) ?_
        refine AllReadyIn.cons rfl (fun K hK => ?_) AllReadyIn.nil
        go_simp
        refine hK _ _ ?_
        clear hK K
        refine wpAnyIn_done (by kernel_rfl) ?_ _
        exact ⟨rfl, _, _, _, _, _, _, _, _, _, _, rfl, HB3.out⟩
      refine AllReadyIn.cons rfl (fun K hK => ?_) AllReadyIn.nil
      go_simp
      refine hK _ _ ?_
      clear hK K
      refine wpAnyIn_ready (rs := [0, 1]) (by kernel_rfl) (by simp) ?_
      refine AllReadyIn.cons rfl (fun K hK => ?_) ?_
      · skip
        go_simp
        refine hK _ _ ?_
        clear hK K
        refine wpAnyIn_ready (rs := [1]) (by kernel_rfl) (by simp) ?_
        refine AllReadyIn.cons rfl (fun K hK => ?_) AllReadyIn.nil
        go_simp
        refine hK _ _ ?_
        clear hK K
        refine wpAnyIn_take (i := 2) (v := ?vd79) rfl rfl (by kernel_rfl) (by kernel_rfl) (by kernel_rfl) (fun _ _ _ h => nomatch h.1) ⟨Or.inl ⟨by kernel_rfl, ?hd79⟩, fun _ => rfl⟩ ?rd79
        case hd79 => (intro w; go_simp; first | done | (with_reducible rfl))
        refine wpAnyIn_take (i := 3) (v := ?vd80) rfl rfl (by kernel_rfl) (by kernel_rfl) (by kernel_rfl) (fun _ _ _ h => nomatch h.1) ⟨Or.inl ⟨by kernel_rfl, ?hd80⟩, fun _ => rfl⟩ ?rd80
        case hd80 => (intro w; go_simp; first | done | (with_reducible rfl))
        refine wpAnyIn_ready (rs := [4]) (by kernel_rfl) (by simp) ?_
        refine AllReadyIn.cons rfl (fun K hK => ?_) AllReadyIn.nil
        go_simp
        refine hK _ _ ?_
        clear hK K
        refine wpAnyIn_ready (rs := [7]) (by kernel_rfl) (by simp) ?_
        refine AllReadyIn.cons rfl (fun K hK => ?_) AllReadyIn.nil
        rw [if_pos (by kernel_rfl)]
        refine op_appIn (.tmp 20) (.tmp 22) rv2 (.slice (some ⟨X.heap.size, 0, none⟩) 1 1) (by kernel_rfl) (by kernel_rfl) rfl hrun ?_
        clear hrun
        have p7 := hp7.cell
        obtain ⟨d0, d1, d2, d3⟩ := box4' hc7
        have fC2 := frozen_of_row w7 C 2 _ 113 hc7
        refine hK _ _ ?_
        clear hK K
        refine wpAnyIn_take (i := 8) (v := ?vd81) rfl rfl (by kernel_rfl) (by kernel_rfl) (by kernel_rfl) (fun _ _ _ h => nomatch h.1) ⟨Or.inl ⟨by kernel_rfl, ?hd81⟩, fun _ => rfl⟩ ?rd81
        case hd81 => (intro w; go_simp; first | done | (with_reducible rfl))
        refine wpAnyIn_take (i := 9) (v := ?vd82) rfl rfl (by kernel_rfl) (by kernel_rfl) (by kernel_rfl) (fun _ _ _ h => nomatch h.1) ⟨Or.inl ⟨by kernel_rfl, ?hd82⟩, fun _ => rfl⟩ ?rd82
        case hd82 => (intro w; go_simp; first | done | (with_reducible rfl))
        refine wpAnyIn_ready (rs := [10]) (by kernel_rfl) (by simp) ?_
        refine AllReadyIn.cons rfl (fun K hK => ?_) AllReadyIn.nil
        go_simp
        refine hK _ _ ?_
        clear hK K
        refine wpAnyIn_done (by kernel_rfl) ?_ _
        exact ⟨rfl, _, _, _, _, _, _, _, _, _, _, rfl, HB3.out⟩
      refine AllReadyIn.cons rfl (fun K hK => ?_) AllReadyIn.nil
      go_simp
      refine hK _ _ ?_
      clear hK K
      refine wpAnyIn_take (i := 2) (v := ?vd83) rfl rfl (by kernel_rfl) (by kernel_rfl) (by kernel_rfl) (fun _ _ _ h => nomatch h.1) ⟨Or.inl ⟨by kernel_rfl, ?hd83⟩, fun _ => rfl⟩ ?rd83
      case hd83 => (intro w; go_simp; first | done | (with_reducible rfl))
      refine wpAnyIn_take (i := 3) (v := ?vd84) rfl rfl (by kernel_rfl) (by kernel_rfl) (by kernel_rfl) (fun _ _ _ h => nomatch h.1) ⟨Or.inl ⟨by kernel_rfl, ?hd84⟩, fun _ => rfl⟩ ?rd84
      case hd84 => (intro w; go_simp; first | done | (with_reducible rfl))
      refine wpAnyIn_ready (rs := [0, 4]) (by kernel_rfl) (by simp) ?_
      refine AllReadyIn.cons rfl (fun K hK => ?_) ?_
      · skip
        go_simp
        refine hK _ _ ?_
        clear hK K
        refine wpAnyIn_ready (rs := [4]) (by kernel_rfl) (by simp) ?_
        refine AllReadyIn.cons rfl (fun K hK => ?_) AllReadyIn.nil
        go_simp
        refine hK _ _ ?_
        clear hK K
        refine wpAnyIn_ready (rs := [7]) (by kernel_rfl) (by simp) ?_
        refine AllReadyIn.cons rfl (fun K hK => ?_) AllReadyIn.nil
        rw [if_pos (by kernel_rfl)]
        refine op_appIn (.tmp 20) (.tmp 22) rv2 (.slice (some ⟨X.heap.size, 0, none⟩) 1 1) (by kernel_rfl) (by kernel_rfl) rfl hrun ?_
        clear hrun
        have p7 := hp7.cell
        obtain ⟨d0, d1, d2, d3⟩ := box4' hc7
        have fC2 := frozen_of_row w7 C 2 _ 113 hc7
        refine hK _ _ ?_
        clear hK K
        refine wpAnyIn_take (i := 8) (v := ?vd85) rfl rfl (by kernel_rfl) (by kernel_rfl) (by kernel_rfl) (fun _ _ _ h => nomatch h.1) ⟨Or.inl ⟨by kernel_rfl, ?hd85⟩, fun _ => rfl⟩ ?rd85
        case hd85 => (intro w; go_simp; first | done | (with_reducible rfl))
        refine wpAnyIn_take (i := 9) (v := ?vd86) rfl rfl (by kernel_rfl) (by kernel_rfl) (by kernel_rfl) (fun _ _ _ h => nomatch h.1) ⟨Or.inl ⟨by kernel_rfl, ?hd86⟩, fun _ => rfl⟩ ?rd86
        case hd86 => (intro w; go_simp; first | done | (with_reducible rfl))
        refine wpAnyIn_ready (rs := [10]) (by kernel_rfl) (by simp) ?_
        refine AllReadyIn.cons rfl (fun K hK => ?_) AllReadyIn.nil
        go_simp
        refine hK _ _ ?_
        clear hK K
        refine wpAnyIn_done (by kernel_rfl) ?_ _
        exact ⟨rfl, _, _, _, _, _, _, _, _, _, _, rfl, HB3.out⟩
      refine AllReadyIn.cons rfl (fun K hK => ?_) AllReadyIn.nil
      go_simp
      refine hK _ _ ?_
      clear hK K
      refine wpAnyIn_ready (rs := [0, 7]) (by kernel_rfl) (by simp) ?_
      refine AllReadyIn.cons rfl (fun K hK => ?_) ?_
      · skip
        go_simp
        refine hK _ _ ?_
        clear hK K
        refine wpAnyIn_ready (rs := [7]) (by kernel_rfl) (by simp) ?_
        refine AllReadyIn.cons rfl (fun K hK => ?_) AllReadyIn.nil
        rw [if_pos (by kernel_rfl)]
        refine op_appIn (.tmp 20) (.tmp 22) rv2 (.slice (some ⟨X.heap.size, 0, none⟩) 1 1) (by kernel_rfl) (by kernel_rfl) rfl hrun ?_
        clear hrun
        have p7 := hp7.cell
        obtain ⟨d0, d1, d2, d3⟩ := box4' hc7
        have fC2 := frozen_of_row w7 C 2 _ 113 hc7
        refine hK _ _ ?_
        clear hK K
        refine wpAnyIn_take (i := 8) (v := ?vd87) rfl rfl (by kernel_rfl) (by kernel_rfl) (by kernel_rfl) (fun _ _ _ h => nomatch h.1) ⟨Or.inl ⟨by kernel_rfl, ?hd87⟩, fun _ => rfl⟩ ?rd87
        case hd87 => (intro w; go_simp; first | done | (with_reducible rfl))
        refine wpAnyIn_take (i := 9) (v := ?vd88) rfl rfl (by kernel_rfl) (by kernel_rfl) (by kernel_rfl) (fun _ _ _ h => nomatch h.1) ⟨Or.inl ⟨by kernel_rfl, ?hd88⟩, fun _ => rfl⟩ ?rd88
        case hd88 => (intro w; go_simp; first | done | (with_reducible rfl))
        refine wpAnyIn_ready (rs := [10]) (by kernel_rfl) (by simp) ?_
        refine AllReadyIn.cons rfl (fun K hK => ?_) AllReadyIn.nil
        go_simp
        refine hK _ _ ?_
        clear hK K
        refine wpAnyIn_done (by kernel_rfl) ?_ _
        exact ⟨rfl, _, _, _, _, _, _, _, _, _, _, rfl, HB3.out⟩
      refine AllReadyIn.cons rfl (fun K hK => ?_) AllReadyIn.nil
      rw [if_pos (by kernel_rfl)]
      refine op_appIn (.tmp 20) (.tmp 22) rv2 (.slice (some ⟨X.heap.size, 0, none⟩) 1 1) (by kernel_rfl) (by kernel_rfl) rfl hrun ?_
      clear hrun
      have p7 := hp7.cell
      obtain ⟨d0, d1, d2, d3⟩ := box4' hc7
      have fC2 := frozen_of_row w7 C 2 _ 113 hc7
      refine hK _ _ ?_
      clear hK K
      refine wpAnyIn_ready (rs := [0]) (by kernel_rfl) (by simp) ?_
      refine AllReadyIn.cons rfl (fun K hK => ?_) AllReadyIn.nil
      go_simp
      refine hK _ _ ?_
      clear hK K
      refine wpAnyIn_take (i := 8) (v := ?vd89) rfl rfl (by kernel_rfl) (by kernel_rfl) (by kernel_rfl) (fun _ _ _ h => nomatch h.1) ⟨Or.inl ⟨by kernel_rfl, ?hd89⟩, fun _ => rfl⟩ ?rd89
      case hd89 => (intro w; go_simp; first | done | (with_reducible rfl))
      refine wpAnyIn_take (i := 9) (v := ?vd90) rfl rfl (by kernel_rfl) (by kernel_rfl) (by kernel_rfl) (fun _ _ _ h => nomatch h.1) ⟨Or.inl ⟨by kernel_rfl, ?hd90⟩, fun _ => rfl⟩ ?rd90
      case hd90 => (intro w; go_simp; first | done | (with_reducible rfl))
      refine wpAnyIn_ready (rs := [10]) (by kernel_rfl) (by simp) ?_
      refine AllReadyIn.cons rfl (fun K hK => ?_) AllReadyIn.nil
      go_simp
      refine hK _ _ ?_
      clear hK K
      refine wpAnyIn_done (by kernel_rfl) ?_ _
      exact ⟨rfl, _, _, _, _, _, _, _, _, _, _, rfl, HB3.out⟩
    rintro e a' w16 ⟨rfl, u16, u17, u18, u19, u20, u21, u22, u23, u24, u25, rfl, hb16⟩
    replace HB := Lib.hid hb16
    clear hb16
    obtain ⟨rv2, hc1, _, _⟩ := HB.out.c
    obtain ⟨n1, n2, n3, n4, n5⟩ := HB.out.cp
    have p0 := HB.out.p.cell
    have s0 := HB.out.s.cell
    have sf := HB.out.s.frozen
    obtain ⟨c0, c1, c2, c3⟩ := box4' hc1
    obtain ⟨x0, x1⟩ := box2' HB.out.x
    have hlp := HB.out.p.lt
    have hls := HB.out.s.lt
    have hlC := (Array.getElem?_eq_some_iff.1 hc1).1
    have hlx := (Array.getElem?_eq_some_iff.1 HB.out.x).1
    have fC1 := frozen_of_row w16 C 1 _ 113 hc1
    have hx1 : (x.seq : Int) + 1 ≤ 18446744073709551615 := by have := x.h1; omega
    have hx2 := x.h2
    have hx3 : (sumL pre : Int) + (16 + (x.data.size : Int)) ≤ 9223372036854775807 := by omega
    have n2' : w.heap.size + 1 + 1 ≠ C := Ne.symm n2
    have n3' : Bx ≠ C := Ne.symm n3
    have HB5 := Lib.hid ((HB.out.setN hbC (.inr trivial) ((x.seq : Int) + 1)).setS hS ((sumL pre : Int) + (16 + (x.data.size : Int))))
    clear hc1
    gi_wp2
    refine ⟨HB5.out.kf, HB5.out.kp, ⟨⟨⟨HB5.out.p, by rw [sumL_snoc]; exact HB5.out.s⟩, ?_⟩, HB5.out.b⟩⟩
    obtain ⟨rv', h1, h2, _⟩ := HB5.out.c
    exact ⟨rv', by rw [lastN_snoc]; exact h1, by rw [← List.append_assoc]; exact h2⟩
  case done =>
    rintro D ys W hD rfl ⟨⟨⟨hp, hs⟩, hcr⟩, hB⟩ hK
    have s0 := hs.cell
    have hcr2 := Go.Own.putObj (CR.own base C fr nx mv rs) (.deferred none) hcr hK rfl
    have hB2 : Below base w (W.putObj D (.deferred none)) := hB.trans (belowK_b (w := Wl) (by omega) W D _ _ hD hK rfl rfl)
    have Hcr2 := Lib.hid hcr2
    have HB2 := Lib.hid hB2
    clear hcr hcr2 hB2
    gi_wp2
    refine ⟨by simp, .inl ⟨_, _, rfl, run_takeDeferred hK, ?_⟩⟩
    refine ⟨_, results_tmp rfl _ _ _, rfl, ?_, HB2.out⟩
    obtain ⟨rv', h1, h2⟩ := Hcr2.out
    exact ⟨rv', by rw [← lastN_frames]; exact h1, h2⟩
  case stop =>
    rintro D c pre W _ _ h _
    exact h.elim
end Go.Proofs.YtkhmdofeonlnpaaGreatDoor

/- SEGMENT, MATHEMATICS: names in order; frames behind frames; a frame that is cut. -/
namespace Go.Proofs.YtkhmdofeonlnpaaGreatDoor
open Go.RowKit
set_option maxRecDepth 100000
set_option linter.unusedVariables false
set_option linter.unusedSimpArgs false

theorem hexd_lt : ∀ x y : Fin 16, x.1 < y.1 → (hexd x.1).toNat < (hexd y.1).toNat := by decide
theorem hexL_lt (a b : Nat) : ∀ i, a % 16 ^ i < b % 16 ^ i → Op.bytesLess (hexL a i) (hexL b i) = true
  | 0, h => by simp [Nat.mod_one] at h
  | i + 1, h => by
    have e : ∀ x : Nat, x % 16 ^ (i + 1) = x % 16 ^ i + 16 ^ i * (x / 16 ^ i % 16) := fun x => by rw [Nat.pow_succ, Nat.mod_mul]
    rw [e, e] at h
    rw [hexL, hexL, bl_cons]
    have hp : 0 < 16 ^ i := Nat.pow_pos (by omega)
    have ha := Nat.mod_lt a hp
    have hb := Nat.mod_lt b hp
    obtain ⟨x, hx⟩ : ∃ x, a / 16 ^ i % 16 = x := ⟨_, rfl⟩
    obtain ⟨y, hy⟩ : ∃ y, b / 16 ^ i % 16 = y := ⟨_, rfl⟩
    rw [hx, hy] at h ⊢
    have hx16 : x < 16 := by rw [← hx]; exact Nat.mod_lt _ (by decide)
    have hy16 : y < 16 := by rw [← hy]; exact Nat.mod_lt _ (by decide)
    rcases Nat.lt_trichotomy x y with hlt | heq | hgt
    · exact .inl (hexd_lt ⟨x, hx16⟩ ⟨y, hy16⟩ hlt)
    · subst heq
      exact .inr ⟨rfl, hexL_lt a b i (by omega)⟩
    · exfalso
      have : 16 ^ i * (y + 1) ≤ 16 ^ i * x := Nat.mul_le_mul_left _ hgt
      rw [Nat.mul_add] at this
      omega
theorem nameB_lt {a b : Nat} (h : a < b) (hb : b < 18446744073709551616) : lt (nameB a) (nameB b) = true := by
  unfold lt
  rw [Go.ByteArray.toList_eq, Go.ByteArray.toList_eq]
  have := hexL_lt a b 16 (by rw [Nat.mod_eq_of_lt (by omega), Nat.mod_eq_of_lt (by omega)]; exact h)
  exact this
theorem nameB_inj {a b : Nat} (ha : a < 18446744073709551616) (hb : b < 18446744073709551616) (h : nameB a = nameB b) : a = b :=
  nameL_inj ha hb (congrArg (fun b : ByteArray => b.data.toList) h)
theorem nameB_mono {a b : Nat} (ha : a < 18446744073709551616) (hb : b < 18446744073709551616) (h : lt (nameB a) (nameB b) = true) : a < b := by
  rcases Nat.lt_trichotomy a b with h1 | rfl | h1
  · exact h1
  · exact absurd h (lt_irrefl _)
  · exact absurd h (lt_asym (nameB_lt h1 ha))

/-- the bytes -/
abbrev bs (s : ByteArray) : List UInt8 := s.data.toList
theorem bs_inj {a b : ByteArray} (h : bs a = bs b) : a = b := ByteArray.ext (Array.toList_inj.1 h)
theorem bs_len (s : ByteArray) : (bs s).length = s.size := by simp
theorem bs_app (s t : ByteArray) : bs (s ++ t) = bs s ++ bs t := by simp
theorem bs_ext (s : ByteArray) (i j : Nat) : bs (s.extract i j) = ((bs s).take j).drop i := by
  show (s.extract i j).data.toList = _
  rw [ByteArray.data_extract, Array.toList_extract, List.extract_eq_take_drop, List.drop_take]
theorem bs_mk (l : List UInt8) : bs ⟨l.toArray⟩ = l := by simp
theorem ext_app (s t : ByteArray) (i j : Nat) (h : j ≤ s.size) : (s ++ t).extract i j = s.extract i j := by
  apply bs_inj
  rw [bs_ext, bs_ext, bs_app, List.take_append_of_le_length (by rw [bs_len]; exact h)]
theorem ext_app_end (s t : ByteArray) (i : Nat) (h : i ≤ s.size) : (s ++ t).extract i (s ++ t).size = s.extract i s.size ++ t := by
  apply bs_inj
  rw [bs_ext, bs_app, bs_app, bs_ext, List.take_of_length_le (by simp), List.take_of_length_le (by simp), List.drop_append_of_le_length (by rw [bs_len]; exact h)]
theorem size_app (s t : ByteArray) : (s ++ t).size = s.size + t.size := by simp
theorem app_nil_left {s : ByteArray} (h : s.size = 0) (t : ByteArray) : s ++ t = t := by
  have e : bs s = [] := List.eq_nil_of_length_eq_zero (by rw [bs_len]; exact h)
  apply bs_inj
  rw [bs_app, e, List.nil_append]

theorem sizeB_app {s : ByteArray} (t : ByteArray) (h : 4 ≤ s.size) : sizeB (s ++ t) = sizeB s := by
  unfold sizeB; rw [ext_app s t 0 4 h]
theorem firstM_iff {s d : ByteArray} {n : Int} : firstM s n = some d ↔ (16 ≤ s.size ∧ n < 4611686018427387904 ∧ sizeB s ≤ 65536 ∧ sizeB s + 16 ≤ s.size ∧ (⟨(headL n.toNat (s.extract 16 (16 + sizeB s))).toArray⟩ : ByteArray) = s.extract 0 16 ∧ d = s.extract 16 (16 + sizeB s)) := by
  constructor
  · intro h
    unfold firstM at h
    by_cases h1 : s.size < 16
    · rw [if_pos h1] at h; cases h
    rw [if_neg h1] at h
    by_cases h2 : 4611686018427387904 ≤ n
    · rw [if_pos h2] at h; cases h
    rw [if_neg h2] at h
    by_cases h3 : 65536 < sizeB s
    · rw [if_pos h3] at h; cases h
    rw [if_neg h3] at h
    by_cases h4 : s.size - 16 < sizeB s
    · rw [if_pos h4] at h; cases h
    rw [if_neg h4] at h
    have k1 : 16 ≤ s.size := Nat.le_of_not_lt h1
    have k2 : n < 4611686018427387904 := Int.lt_of_not_ge h2
    have k3 : sizeB s ≤ 65536 := Nat.le_of_not_lt h3
    have k4 : sizeB s + 16 ≤ s.size := by clear h h2 h3 k2 k3; omega
    by_cases h5 : (⟨(headL n.toNat (s.extract 16 (16 + sizeB s))).toArray⟩ : ByteArray) = s.extract 0 16
    · rw [if_pos h5] at h
      exact ⟨k1, k2, k3, k4, h5, (Option.some.inj h).symm⟩
    · rw [if_neg h5] at h; cases h
  · rintro ⟨k1, k2, k3, k4, k5, k6⟩
    unfold firstM
    rw [if_neg (Nat.not_lt.2 k1), if_neg (Int.not_le.2 k2), if_neg (Nat.not_lt.2 k3), if_neg (by clear k5 k6 k2 k3; omega), if_pos k5, k6]
theorem firstM_app {s d : ByteArray} {n : Int} (h : firstM s n = some d) (t : ByteArray) : firstM (s ++ t) n = some d := by
  obtain ⟨h1, h2, h3, h4, h5, h6⟩ := firstM_iff.1 h
  have e := sizeB_app t (show 4 ≤ s.size by omega)
  refine firstM_iff.2 ⟨by rw [size_app]; omega, h2, by rw [e]; exact h3, by rw [e, size_app]; omega, ?_, ?_⟩
  · rw [e, ext_app s t 16 _ (by omega), ext_app s t 0 16 (by omega)]; exact h5
  · rw [e, ext_app s t 16 _ (by omega)]; exact h6
theorem framesL_app : ∀ (k : Nat) (s t : ByteArray) (n : Nat), s.size ≤ k → sumL (framesL s n) = s.size → framesL (s ++ t) n = framesL s n ++ framesL t (n + (framesL s n).length)
  | k, s, t, n, hk, h => by
    cases hf : firstM s (n : Int) with
    | none =>
      rw [framesL_none hf] at h ⊢
      rw [app_nil_left (by simpa [sumL] using h.symm)]
      simp
    | some d =>
      have hb := (firstM_bd hf).2.2
      cases k with
      | zero => omega
      | succ k =>
        rw [framesL_some hf] at h ⊢
        rw [framesL_some (firstM_app hf t), ext_app_end s t _ (by omega)]
        have hs : (s.extract (16 + d.size) s.size).size = s.size - (16 + d.size) := by simp
        rw [framesL_app k _ t (n + 1) (by rw [hs]; omega) (by rw [hs]; simp only [sumL, List.map_cons, List.sum_cons] at h ⊢; omega)]
        rw [List.cons_append, List.length_cons, show n + ((framesL (s.extract (16 + d.size) s.size) (n + 1)).length + 1) = n + 1 + (framesL (s.extract (16 + d.size) s.size) (n + 1)).length by omega]
theorem framesL_join {s : ByteArray} {n : Nat} (h : sumL (framesL s n) = s.size) (t : ByteArray) : framesL (s ++ t) n = framesL s n ++ framesL t (n + (framesL s n).length) := framesL_app s.size s t n (Nat.le_refl _) h

/-- a frame's bytes -/
def frameB (n : Nat) (d : ByteArray) : ByteArray := ⟨(frameL n d).toArray⟩
theorem frameB_size (n : Nat) (d : ByteArray) : (frameB n d).size = 16 + d.size := by
  show (frameL n d).toArray.size = _
  rw [List.size_toArray, frameL_len]
theorem bs_frame (n : Nat) (d : ByteArray) : bs (frameB n d) = headL n d ++ bs d := by
  show (frameL n d).toArray.toList = _
  rw [frameL]
theorem frame_head (n : Nat) (d : ByteArray) : bs ((frameB n d).extract 0 16) = headL n d := by
  rw [bs_ext, bs_frame, List.drop_zero, List.take_append_of_le_length (by rw [headL_len]; exact Nat.le_refl _), List.take_of_length_le (by rw [headL_len]; exact Nat.le_refl _)]
theorem frame_data (n : Nat) (d : ByteArray) : (frameB n d).extract 16 (16 + d.size) = d := by
  apply bs_inj
  rw [bs_ext, bs_frame, List.take_of_length_le (by rw [List.length_append, headL_len, bs_len]; exact Nat.le_refl _)]
  exact List.drop_left' (headL_len n d)
/-- a beginning of a frame -/
theorem cut_size {n k : Nat} {d : ByteArray} (hk : 4 ≤ k) (hd : d.size ≤ 65536) : sizeB ((frameB n d).extract 0 k) = d.size := by
  unfold sizeB
  have : bs (((frameB n d).extract 0 k).extract 0 4) = (headL n d).take 4 := by
    rw [bs_ext, bs_ext, bs_frame, List.drop_zero, List.drop_zero, List.take_take, Nat.min_eq_left hk, List.take_append_of_le_length (by rw [headL_len]; omega)]
  show M.unle (bs _) = _
  rw [this, headL_size n d (by omega)]
theorem frame_whole (n : Nat) (d : ByteArray) : (frameB n d).extract 0 (16 + d.size) = frameB n d := by
  apply bs_inj
  rw [bs_ext, List.take_of_length_le (by rw [bs_len, frameB_size]; exact Nat.le_refl _), List.drop_zero]
theorem first_frame {n : Nat} {d : ByteArray} (hn : n < 4611686018427387904) (hd : d.size ≤ 65536) : firstM (frameB n d) (n : Int) = some d := by
  have hs : sizeB (frameB n d) = d.size := by
    have := cut_size (n := n) (k := 16 + d.size) (d := d) (by omega) hd
    rwa [frame_whole] at this
  have hz := frameB_size n d
  refine firstM_iff.2 ⟨by omega, by omega, by omega, by omega, ?_, ?_⟩
  · rw [hs, frame_data, Int.toNat_natCast]
    apply bs_inj
    rw [frame_head, bs_mk]
  · rw [hs, frame_data]
theorem first_cut {n k : Nat} {d : ByteArray} (hk : k < 16 + d.size) (hd : d.size ≤ 65536) : firstM ((frameB n d).extract 0 k) (n : Int) = none := by
  have hz : ((frameB n d).extract 0 k).size = k := by rw [ByteArray.size_extract, frameB_size]; omega
  unfold firstM
  by_cases h16 : k < 16
  · rw [if_pos (by rw [hz]; exact h16)]
  rw [if_neg (by rw [hz]; exact h16)]
  split
  · rfl
  rw [cut_size (by omega) hd, if_neg (by omega), if_pos (by rw [hz]; omega)]
theorem framesL_nil {s : ByteArray} (h : s.size = 0) (n : Nat) : framesL s n = [] := framesL_none (by unfold firstM; rw [if_pos (by omega)])
theorem frames_frame {n : Nat} {d : ByteArray} (hn : n < 4611686018427387904) (hd : d.size ≤ 65536) : framesL (frameB n d) n = [⟨n, d, hn, hd⟩] := by
  rw [framesL_some (first_frame hn hd)]
  congr 1
  exact framesL_nil (by rw [ByteArray.size_extract, frameB_size]; omega) _
theorem frames_cut {n k : Nat} {d : ByteArray} (hk : k < 16 + d.size) (hd : d.size ≤ 65536) : framesL ((frameB n d).extract 0 k) n = [] := framesL_none (first_cut hk hd)
theorem sumL_app (a b : List Rec) : sumL (a ++ b) = sumL a + sumL b := by simp [sumL]
theorem sumF_le : ∀ (k : Nat) (s : ByteArray) (n : Nat), s.size ≤ k → sumL (framesL s n) ≤ s.size
  | k, s, n, hk => by
    cases hf : firstM s (n : Int) with
    | none => rw [framesL_none hf]; simp [sumL]
    | some d =>
      have hb := (firstM_bd hf).2.2
      cases k with
      | zero => omega
      | succ k =>
        rw [framesL_some hf]
        have := sumF_le k (s.extract (16 + d.size) s.size) (n + 1) (by simp; omega)
        simp only [ByteArray.size_extract] at this
        simp only [sumL, List.map_cons, List.sum_cons] at this ⊢
        omega
theorem sum_le (s : ByteArray) (n : Nat) : sumL (framesL s n) ≤ s.size := sumF_le s.size s n (Nat.le_refl _)
/-- cut behind its frames a text has the same frames, and nothing else -/
theorem framesF_trim : ∀ (k : Nat) (s : ByteArray) (n : Nat), s.size ≤ k → framesL (s.extract 0 (sumL (framesL s n))) n = framesL s n
  | k, s, n, hk => by
    cases hf : firstM s (n : Int) with
    | none =>
      rw [framesL_none hf]
      exact framesL_nil (by simp [sumL]) _
    | some d =>
      have hb := (firstM_bd hf).2.2
      cases k with
      | zero => omega
      | succ k =>
        have ih := framesF_trim k (s.extract (16 + d.size) s.size) (n + 1) (by simp; omega)
        rw [framesL_some hf]
        obtain ⟨m, hm⟩ : ∃ m, sumL (framesL (s.extract (16 + d.size) s.size) (n + 1)) = m := ⟨_, rfl⟩
        have hmle : m ≤ s.size - (16 + d.size) := by
          have := sum_le (s.extract (16 + d.size) s.size) (n + 1)
          rw [hm, ByteArray.size_extract] at this
          omega
        rw [hm] at ih
        have hsum : sumL (⟨n, d, (firstM_bd hf).1, (firstM_bd hf).2.1⟩ :: framesL (s.extract (16 + d.size) s.size) (n + 1)) = 16 + d.size + m := by
          rw [← hm]; simp [sumL]
        rw [hsum]
        have hz : (s.extract 0 (16 + d.size + m)).size = 16 + d.size + m := by rw [ByteArray.size_extract]; omega
        have hf2 : firstM (s.extract 0 (16 + d.size + m)) (n : Int) = some d := by
          have hext : ∀ i j, j ≤ 16 + d.size → (s.extract 0 (16 + d.size + m)).extract i j = s.extract i j := fun i j hj => by
            apply bs_inj
            rw [bs_ext, bs_ext, bs_ext, List.drop_zero, List.take_take, Nat.min_eq_left (by omega)]
          have hsz : sizeB (s.extract 0 (16 + d.size + m)) = sizeB s := by
            unfold sizeB
            rw [hext 0 4 (by omega)]
          obtain ⟨g1, g2, g3, g4, g5, g6⟩ := firstM_iff.1 hf
          have hd : sizeB s = d.size := by
            rw [g6, ByteArray.size_extract]
            omega
          refine firstM_iff.2 ⟨by omega, g2, by omega, by omega, ?_, ?_⟩
          · rw [hsz, hd, hext _ _ (Nat.le_refl _), hext 0 16 (by omega), ← hd]; exact g5
          · rw [hsz, hd, hext _ _ (Nat.le_refl _), ← hd]; exact g6
        rw [framesL_some hf2]
        have e : (s.extract 0 (16 + d.size + m)).extract (16 + d.size) (s.extract 0 (16 + d.size + m)).size = (s.extract (16 + d.size) s.size).extract 0 m := by
          apply bs_inj
          rw [bs_ext, bs_ext, bs_ext, bs_ext, hz, List.drop_zero, List.drop_zero, List.take_take, Nat.min_self]
          have e0 : (bs s).take s.size = bs s := List.take_of_length_le (by rw [bs_len]; exact Nat.le_refl _)
          rw [e0, List.drop_take]
          rw [show 16 + d.size + m - (16 + d.size) = m by omega]
        rw [e, ih]
theorem frames_trim (s : ByteArray) (n : Nat) : framesL (s.extract 0 (sumL (framesL s n))) n = framesL s n := framesF_trim s.size s n (Nat.le_refl _)
theorem frames_seq (s : ByteArray) (n : Nat) (i : Nat) (r : Rec) (h : (framesL s n)[i]? = some r) : r.seq = n + i := framesF_seq _ s n i r h
end Go.Proofs.YtkhmdofeonlnpaaGreatDoor
