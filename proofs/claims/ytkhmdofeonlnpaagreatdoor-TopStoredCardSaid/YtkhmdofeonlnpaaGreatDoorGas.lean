/- QUEUE: THE WALK OVER fail.Caught. -/
import Derived.Test.YtkhmdofeonlnpaaGreatDoorGar
import Derived.Defers
import Derived.Recover
import Derived.Carry
import Derived.Handy
namespace Go.Proofs.YtkhmdofeonlnpaaGreatDoor
open Go.RowKit
set_option maxRecDepth 100000
set_option linter.unusedVariables false
set_option linter.unusedSimpArgs false

theorem catch_idle (p : Addr) (w : World) :
    CallsD Tryz.prog 99 #[.pointer (some p)] .returning w fun e u' w' => e = .returned (.tuple #[]) ∧ u' = .returning ∧ w' = w := by
  refine callsD_of_wpS Tryz.func99 rfl fun c₀ cs hu => ?_
  apply wpS_seq
  apply wpS_region
  simp [wpOpsS, go_sem, recoverD, hu, Tryz.ntmps99, Exit.thenS]
  apply wpS_seq
  apply wpS_seq
  apply wpS_region
  simp [wpOpsS, go_sem, Exit.thenS, Array.replicate]
  refine wpS_cond (t := true) (by simp [Act.eval]) ?_
  simp only [if_true]
  refine wpS_of_wp (wp_ret ?_)
  cases c₀
  simp_all [bodyPostS, results, Tryz.results99, Exit.thenS]

/-- Caught of a closure that returns -/
def CaughtOk (w : World) (R : World → Prop) (en : Ending) (w' : World) : Prop := en = .returned (.int .i64 0) ∧ ∃ w1, R w1 ∧ w1.heap[w.heap.size]? = some (.cells #[.int .i64 0] 35 (0, 0)) ∧ w' = w1.setCell ⟨w.heap.size, 0, none⟩ (.int .i64 0)
set_option maxRecDepth 100000 in
set_option maxHeartbeats 4000000 in
theorem caught_ok (w : World) (C : Nat) (cap : Array Value) (R : World → Prop) (hent : ∀ W, (callFunc C cap).run Tryz.prog W = .ok (.enter C cap) W)
    (hcl : Calls Tryz.prog C cap (w.alloc (.cells #[.int .i64 0] 35)) fun en w1 => en = .returned (.tuple #[]) ∧ w1.heap[w.heap.size]? = some (.cells #[.int .i64 0] 35 (0, 0)) ∧ R w1) :
    Calls Tryz.prog 57 #[.func (Fn.func C) #[] cap] w (CaughtOk w R) := by
  have hmf : ∀ (fn : Fn) (first cap : Array Value) (w : World), (Instr.makeFunc fn first cap).run Tryz.prog w = .ok (.func fn first cap) w := fun _ _ _ _ => rfl
  have Hc := Lib.hid hcl
  clear hcl
  go_enter_defers Tryz.func57, Tryz.ntmps57
  go_wp2_with fail
  refine (Hc.out).mono ?_
  rintro e w1 ⟨rfl, hw1, hR⟩
  have HR := Lib.hid hR
  have Hw1 := Lib.hid hw1
  have kc := cell_of_one hw1
  have kf := free_of_one hw1
  have k2 := cell_of_one (one_setCell (u := .int .i64 0) hw1)
  clear hR hw1
  go_wp2
  refine leaves_cons (f := 99) (args := #[.pointer (some ⟨w.heap.size, 0, none⟩)]) (by simp) (by simp [go_sem]) ?_
  refine (catch_idle _ _).mono ?_
  rintro e u' w'' ⟨rfl, rfl, rfl⟩
  simp [Leaves, settle, results, Tryz.results57, go_sem, k2]
  exact ⟨rfl, _, HR.out, Hw1.out, rfl⟩

theorem vcatch_pan (p : Addr) (x y : Int) (older : List PanicEntry) (w : World) (hc : w.cell? p = some (.int .i64 y)) (hz : w.frozen? p = false) :
    CallsD Tryz.prog 99 #[.pointer (some p)] (.panicking ({ v := .iface 35 (.int .i64 x), recovered := false } :: older)) w fun e u' w' =>
      e = .returned (.tuple #[]) ∧ u' = .panicking ({ v := .iface 35 (.int .i64 x), recovered := true } :: older) ∧ w' = w.setCell p (.int .i64 x) := by
  refine callsD_of_wpS Tryz.func99 rfl fun c₀ cs hu => ?_
  apply wpS_seq
  apply wpS_region
  simp [wpOpsS, go_sem, recoverD, hu, Tryz.ntmps99, Exit.thenS]
  apply wpS_seq
  apply wpS_seq
  apply wpS_region
  simp [wpOpsS, go_sem, Exit.thenS, Array.replicate]
  refine wpS_cond (t := false) (by simp [Act.eval]) ?_
  simp only [Bool.false_eq_true, if_false]
  refine wpS_of_wp (wp_skip ?_)
  simp only [Exit.thenS]
  have hta : ∀ W, (Instr.typeAssert (.iface 35 (.int .i64 x)) 20 35 true).run Tryz.prog W = .ok (.tuple #[.int .i64 x, .bool true]) W := fun W => by kernel_rfl
  refine wpS_of_wp ?_
  go_wp2
  cases c₀
  simp_all [bodyPostS, results, Tryz.results99, Exit.thenS]

/-- Caught of a check -/
def CaughtE (w : World) (R : World → Prop) (c : Int) (en : Ending) (w' : World) : Prop := en = .returned (.int .i64 c) ∧ ∃ w1, R w1 ∧ w1.heap[w.heap.size]? = some (.cells #[.int .i64 0] 35 (0, 0)) ∧ w' = w1.setCell ⟨w.heap.size, 0, none⟩ (.int .i64 c)
set_option maxRecDepth 100000 in
set_option maxHeartbeats 4000000 in
theorem caught_no (w : World) (C : Nat) (cap : Array Value) (R : World → Prop) (c : Int) (hent : ∀ W, (callFunc C cap).run Tryz.prog W = .ok (.enter C cap) W)
    (hcl : Calls Tryz.prog C cap (w.alloc (.cells #[.int .i64 0] 35)) fun en w1 => en = .panicked [{ v := .iface 35 (.int .i64 c), recovered := false }] ∧ w1.heap[w.heap.size]? = some (.cells #[.int .i64 0] 35 (0, 0)) ∧ R w1) :
    Calls Tryz.prog 57 #[.func (Fn.func C) #[] cap] w (CaughtE w R c) := by
  have hmf : ∀ (fn : Fn) (first cap : Array Value) (w : World), (Instr.makeFunc fn first cap).run Tryz.prog w = .ok (.func fn first cap) w := fun _ _ _ _ => rfl
  have Hc := Lib.hid hcl
  clear hcl
  go_enter_defers Tryz.func57, Tryz.ntmps57
  go_wp2_with fail
  refine (Hc.out).mono ?_
  rintro e w1 ⟨rfl, hw1, hR⟩
  have HR := Lib.hid hR
  have Hw1 := Lib.hid hw1
  have kc := cell_of_one hw1
  have kf := free_of_one hw1
  have k2 := cell_of_one (one_setCell (u := .int .i64 c) hw1)
  clear hR hw1
  go_wp2
  refine leaves_cons (f := 99) (args := #[.pointer (some ⟨w.heap.size, 0, none⟩)]) (by simp) (by simp [go_sem]) ?_
  refine (vcatch_pan _ c 0 [] _ kc kf).mono ?_
  rintro e u' w'' ⟨rfl, rfl, rfl⟩
  simp [Leaves, settle, results, Tryz.results57, go_sem, k2]
  exact ⟨rfl, _, HR.out, Hw1.out, rfl⟩
/-- Caught of what ends well, or with the error -/
theorem caught_any (w : World) (C : Nat) (cap : Array Value) (R : World → Prop) (c : Int) (hent : ∀ W, (callFunc C cap).run Tryz.prog W = .ok (.enter C cap) W)
    (hcl : Calls Tryz.prog C cap (w.alloc (.cells #[.int .i64 0] 35)) fun en w1 => Ends c (.tuple #[]) en ∧ w1.heap[w.heap.size]? = some (.cells #[.int .i64 0] 35 (0, 0)) ∧ R w1) :
    Calls Tryz.prog 57 #[.func (Fn.func C) #[] cap] w (CaughtE w R c) := by
  by_cases hc : c = 0
  · subst hc
    refine (caught_ok w C cap R hent (hcl.mono fun en w1 h => ?_)).mono fun en w' h => h
    obtain ⟨h1 | h1, h2, h3⟩ := h
    · exact ⟨h1.2, h2, h3⟩
    · exact absurd rfl h1.1
  · refine (caught_no w C cap R c hent (hcl.mono fun en w1 h => ?_)).mono fun en w' h => h
    obtain ⟨h1 | h1, h2, h3⟩ := h
    · exact absurd h1.1 hc
    · exact ⟨h1.2, h2, h3⟩
end Go.Proofs.YtkhmdofeonlnpaaGreatDoor

/- QUEUE: THE WALKS OVER change's closure, change. -/
namespace Go.Proofs.YtkhmdofeonlnpaaGreatDoor
open Go.RowKit
set_option maxRecDepth 100000
set_option linter.unusedVariables false
set_option linter.unusedSimpArgs false

/-- what a step tells of itself by a variable of its caller's: the values of the cells of block bx -/
abbrev Tell := Ans → List Value
def told (V : Tell) (a : Ans) : List Value := if a.2.2 = 0 then V a else []
/-- what a closure does with a queue that is being changed -/
def DoP (W : World) (base g : Nat) (u : Value) (bx : Nat) (V : Tell) (a : Ans) (en : Ending) (w' : World) : Prop := Ends a.2.2 (.tuple #[]) en ∧ ∃ w2, Left W base g u a.1 w2 ∧ w' = w2.setCells bx 0 (told V a)
/-- the variables of the caller's are as they were -/
def Olds (w : World) (B : Nat) (W : World) : Prop := ∀ k, k < B → W.heap[k]? = w.heap[k]?
structure DoC (C : Nat) (cp : Array Value) (w : World) (bx : Nat) (V : Tell) (q : Q) (s : QS) : Prop where
  ent : ∀ (args : Array Value) (W : World), (callFunc C args).run Tryz.prog W = .ok (.enter C args) W
  ok : ∀ (W : World) (base g : Nat) (ad : Option Addr) (n cap : Nat) (u : Value), QAt W base g ad n cap u q → QRight q → q.l.broken = false → Tabs W → w.heap.size ≤ base → 5 < base → Olds w w.heap.size W →
    Calls Tryz.prog C (#[.pointer (some ⟨g, 0, none⟩)] ++ cp) W (DoP W base g u bx V (stM q s))

set_option maxHeartbeats 4000000 in
theorem change1_any (w W : World) (base g bp bd bx : Nat) (ad : Option Addr) (n cap : Nat) (u : Value) (q : Q) (C : Nat) (cp : Array Value) (V : Tell) (s : QS) (hD : DoC C cp w bx V q s) (h : QAt W base g ad n cap u q) (hR : QRight q) (hT : Tabs W) (hb : w.heap.size ≤ base) (hb3 : 5 < base) (hO : Olds w w.heap.size W)
    (hbp : W.cell? ⟨bp, 0, none⟩ = some (.pointer (some ⟨g, 0, none⟩))) (hbd : W.cell? ⟨bd, 0, none⟩ = some (.func (.func C) #[] cp)) :
    Calls Tryz.prog 77 #[.pointer (some ⟨bp, 0, none⟩), .pointer (some ⟨bd, 0, none⟩)] W (DoP W base g u bx V (chQ q s)) := by
  have HD := Lib.hid hD
  have hent := hD.ent
  have H := Lib.hid h
  have HR := Lib.hid hR
  have HT := Lib.hid hT
  have HO := Lib.hid hO
  obtain ⟨d0, d1, d2, d3, d4, d5, d6, d7, d8, d9⟩ := box10 h.h
  have hlg := h.lt
  obtain ⟨br, hbr⟩ : ∃ br, q.l.broken = br := ⟨_, rfl⟩
  rw [hbr] at d7
  have Hbr := Lib.hid hbr
  clear hD h hR hT hO hbr
  go_enter Tryz.func77, Tryz.ntmps77
  cases br with
  | true =>
    have hc : chQ q s = (q, zE, 6) := by unfold chQ; rw [if_pos Hbr.out]
    have Hc := Lib.hid hc
    clear hc
    go_wp2_with fail
    refine (unless_no 6 W).mono ?_
    rintro en w1 ⟨rfl, rfl⟩
    go_wp2
    rw [Hc.out]
    exact ⟨rfl, .inr ⟨by simp, rfl⟩, W, ⟨ad, n, cap, u, H.out, Kq.refl _ _ _, fun b e => .inl e⟩, rfl⟩
  | false =>
    have hc : chQ q s = stM q s := by unfold chQ; rw [if_neg (by rw [Hbr.out]; simp)]
    rw [hc]
    clear hc
    go_wp2_with fail
    refine (unless_yes 6 W).mono ?_
    rintro en w1 ⟨rfl, rfl⟩
    go_wp2_with fail
    refine (HD.out.ok W base g ad n cap u H.out HR.out Hbr.out HT.out hb hb3 HO.out).mono ?_
    rintro en w1 ⟨hen, w2, hl, rfl⟩
    have Hl := Lib.hid hl
    clear hl
    rcases hen with ⟨hc, rfl⟩ | ⟨hc, rfl⟩
    · have Hc := Lib.hid hc
      clear hc
      go_wp2
      go_end0
      exact ⟨.inl ⟨Hc.out, rfl⟩, w2, Hl.out, rfl⟩
    · have Hc := Lib.hid hc
      clear hc
      go_wp2
      exact ⟨rfl, .inr ⟨Hc.out, rfl⟩, w2, Hl.out, rfl⟩

theorem blk_at {X : World} {o : Obj} {g : Nat} (hg : g = X.heap.size) : (X.alloc o).heap[g]? = some o := by subst hg; exact blk_new X o
theorem size_setCells (b : Nat) : ∀ (vs : List Value) (o : Nat) (w : World), (w.setCells b o vs).heap.size = w.heap.size
  | [], _, _ => rfl
  | v :: r, o, w => by rw [World.setCells, size_setCells b r]; simp [World.setCell]
theorem tape_setCells (w : World) (b : Nat) : ∀ (o : Nat) (vs : List Value), (w.setCells b o vs).tape = w.tape := fun o vs => go vs o w
where go : ∀ (vs : List Value) (o : Nat) (w : World), (w.setCells b o vs).tape = w.tape
  | [], _, _ => rfl
  | v :: r, o, w => by rw [World.setCells, go r]; rfl
/-- what change answers with -/
def ChR (w : World) (bx : Nat) (cs : Array Value) (T : TypeId) (V : Tell) (q : Q) (s : QS) (e : Ending) (w' : World) : Prop :=
  w.grownBy w' (some bx) ∧
  ((¬ QRight q ∧ e = .returned (.tuple #[.agg zqueue, .int .i64 6]) ∧ w'.heap[bx]? = some (.cells cs T (0, 0))) ∨
   (QRight q ∧ ∃ ad3 n3 cap3 ad4 n4 cap4, e = .returned (.tuple #[.agg ((chQ q s).1.cells (.slice ad3 n3 cap3) (.slice ad4 n4 cap4)), .int .i64 (chQ q s).2.2]) ∧ QIn w' ad3 n3 cap3 ad4 n4 cap4 (chQ q s).1 ∧ w'.heap[bx]? = some (.cells (spl cs.toList 0 (told V (chQ q s))).toArray T (0, 0)) ∧
     (∀ b, (Value.slice ad3 n3 cap3).ownBlock = some b → w.heap.size ≤ b) ∧ (∀ b, (Value.slice ad4 n4 cap4).ownBlock = some b → w.heap.size ≤ b)))
theorem Inp.same2 {w w' : World} {B : Nat} {ad : Option Addr} {n cap : Nat} {fs : List F} (h : Inp w B ad n cap fs) (hk : fs ≠ [] → ∀ b, (Value.slice ad n cap).ownBlock = some b → w'.heap[b]? = w.heap[b]?) : Inp w' B ad n cap fs := by
  by_cases hne : fs = []
  · subst hne
    exact ⟨h.1, h.2.1, h.2.2.1, fun h => absurd rfl h⟩
  · exact h.same (hk hne)
/-- a list of files lies in no box of a number -/
theorem Inp.no_int {w : World} {B : Nat} {ad : Option Addr} {n cap : Nat} {fs : List F} (h : Inp w B ad n cap fs) (hne : fs ≠ []) {b : Nat} {k : IntKind} {x : Int} {T : TypeId} (hb : w.heap[b]? = some (.cells #[.int k x] T (0, 0))) : (Value.slice ad n cap).ownBlock ≠ some b := fun e => by
  obtain ⟨gb, off, rfl, hgb, hc⟩ := h.2.2.2 hne
  simp [Value.ownBlock] at e
  subst e
  cases fs with
  | nil => exact absurd rfl hne
  | cons f t =>
    have h0 := (hc 0 f rfl).q0
    rw [cell_of_row w gb _ _ T (0, 0) hb] at h0
    rcases Nat.eq_zero_or_pos off with q | q
    · subst q; simp at h0
    · rw [Array.getElem?_eq_none (by simp; omega)] at h0
      cases h0

set_option maxHeartbeats 8000000 in
theorem change_any (w : World) (ad : Option Addr) (n cap : Nat) (ad2 : Option Addr) (n2 cap2 : Nat) (q : Q) (h : QIn w ad n cap ad2 n2 cap2 q) (C : Nat) (cp : Array Value) (V : Tell) (s : QS) (hT : Tabs w) (hw : 5 < w.heap.size)
    (bx : Nat) (cs : Array Value) (T : TypeId) (hbx : w.heap[bx]? = some (.cells cs T (0, 0))) (hV : ∀ a, (V a).length ≤ cs.size) (hD : DoC C cp w bx V q s) :
    Calls Tryz.prog 32 #[.agg (q.cells (.slice ad n cap) (.slice ad2 n2 cap2)), .func (.func C) #[] cp] w (ChR w bx cs T V q s) := by
  have hmf : ∀ (fn : Fn) (first cap : Array Value) (w : World), (Instr.makeFunc fn first cap).run Tryz.prog w = .ok (.func fn first cap) w := fun _ _ _ _ => rfl
  have hbxl := (Array.getElem?_eq_some_iff.1 hbx).1
  obtain ⟨X0, hX0⟩ : ∃ X, X = ((w.alloc (.cells (q.cells (.slice ad n cap) (.slice ad2 n2 cap2)) 30)).alloc (.cells #[.func (.func C) #[] cp] 77)).alloc (.cells zqueue 30) := ⟨_, rfl⟩
  have hs0 : X0.heap.size = w.heap.size + 3 := by rw [hX0]; simp
  have hB0 : Below w.heap.size w X0 := by rw [hX0]; exact (((Below.refl _ w).alloc (Nat.le_refl _) _).alloc (by simp) _).alloc (by simp; omega) _
  have hx2 : X0.heap[w.heap.size]? = some (.cells (q.cells (.slice ad n cap) (.slice ad2 n2 cap2)) 30 (0, 0)) := by rw [hX0]; exact blk_alloc (blk_alloc (blk_new w _) _) _
  have hx3 : X0.heap[w.heap.size + 1]? = some (.cells #[.func (.func C) #[] cp] 77 (0, 0)) := by rw [hX0]; exact blk_alloc (blk_at (by simp)) _
  have hx4 : X0.heap[w.heap.size + 2]? = some (.cells zqueue 30 (0, 0)) := by rw [hX0]; exact blk_at (by simp)
  have HQ0 := Lib.hid h
  have HQ := Lib.hid (h.under hB0)
  have HT := Lib.hid (hT.under hB0)
  have HB0 := Lib.hid hB0
  have Hx2 := Lib.hid hx2
  have Hx3 := Lib.hid hx3
  have Hx4 := Lib.hid hx4
  have Hbx := Lib.hid hbx
  have HV := Lib.hid hV
  have HD := Lib.hid hD
  clear h hT hB0 hx3 hx4 hbx hV hD
  go_enter Tryz.func32, Tryz.ntmps32
  go_upto_region 1 with (fail)
  rw [← hX0]
  obtain ⟨d0, d1, d2, d3, d4, d5, d6, d7, d8, d9⟩ := box10 hx2
  have hlx2 := (Array.getElem?_eq_some_iff.1 hx2).1
  clear hX0 hx2
  go_wp2_with fail
  refine (qcheck_any X0 ad n cap ad2 n2 cap2 q HQ.out).mono ?_
  rintro en w1 ⟨c, rfl, hc, hb1⟩
  have HB1 := Lib.hid (HB0.out.trans (hb1.mono HB0.out.size))
  have Hy2 := Lib.hid ((hb1.block _ (by omega)).trans Hx2.out)
  have Hy3 := Lib.hid ((hb1.block _ (by omega)).trans Hx3.out)
  have Hy4 := Lib.hid ((hb1.block _ (by omega)).trans Hx4.out)
  have HQ1 := Lib.hid (HQ.out.under hb1)
  have HT1 := Lib.hid (HT.out.under hb1)
  have hs1 : w.heap.size + 3 ≤ w1.heap.size := by have := hb1.size; omega
  have Hbx1 := Lib.hid ((HB1.out.block bx hbxl).trans Hbx.out)
  clear hb1 d0 d1 d2 d3 d4 d5 d6 d7 d8 d9 hlx2
  rcases hc with ⟨hR, rfl⟩ | ⟨hR, rfl⟩
  rotate_left
  · have HR := Lib.hid hR
    clear hR
    obtain ⟨y0, y1, y2, y3, y4, y5, y6, y7, y8, y9⟩ := box10 Hy4.out
    obtain ⟨z0, z1, z2, z3, z4, z5, z6, z7, z8, z9⟩ := frz10 Hy4.out
    have hly := (Array.getElem?_eq_some_iff.1 Hy4.out).1
    have hput := cell_put10 Hy4.out (.slice none 0 0) (.bool false) (.int .i64 0) (.int .i64 0) (.int .i64 0) (.int .u64 0) (.int .u64 0) (.bool false) (.slice none 0 0) (.int .i64 0)
    obtain ⟨p0, p1, p2, p3, p4, p5, p6, p7, p8, p9⟩ := box10 hput
    have Hput := Lib.hid hput
    clear hput
    go_wp2
    refine bodyPost_ret (v := .tuple #[.agg zqueue, .int .i64 6]) (by simp [results, Tryz.results32, go_sem, p0, p1, p2, p3, p4, p5, p6, p7, p8, p9]) rfl ?_
    have hbw := below_put10 HB1.out (g := w.heap.size + 2) (by omega) (.slice none 0 0) (.bool false) (.int .i64 0) (.int .i64 0) (.int .i64 0) (.int .u64 0) (.int .u64 0) (.bool false) (.slice none 0 0) (.int .i64 0)
    exact ⟨⟨hbw.os, hbw.tape, hbw.output, hbw.size, fun k hk _ => hbw.block k hk⟩, .inl ⟨HR.out, rfl, (hbw.block bx hbxl).trans Hbx.out⟩⟩
  have HR := Lib.hid hR
  have hn1 : n ≤ 1000 := by have h1 := HQ0.out.l.d.i.1; have h2 := hR.1.1.1; omega
  have hn2 : n2 ≤ 2000 := by have h1 := HQ0.out.e.1; have h2 := hR.2.2.1; omega
  clear hR
  obtain ⟨d0, d1, d2, d3, d4, d5, d6, d7, d8, d9⟩ := box10 Hy2.out
  have hlx2 := (Array.getElem?_eq_some_iff.1 Hy2.out).1
  go_wp2_with fail
  refine (qbegin_any w1 ad n cap ad2 n2 cap2 q HQ1.out hn1 hn2).mono ?_
  rintro en w2 ⟨g, ad3, n3, cap3, uv, rfl, hq2, hown2, hb2⟩
  have H2 := Lib.hid hq2
  have HB2 := Lib.hid (HB1.out.trans (hb2.mono HB1.out.size))
  have Hu3 := Lib.hid ((hb2.block _ (by omega)).trans Hy3.out)
  have Hu4 := Lib.hid ((hb2.block _ (by omega)).trans Hy4.out)
  have HT2 := Lib.hid (HT1.out.under hb2)
  have hs2 : w1.heap.size ≤ w2.heap.size := hb2.size
  have hgb : w1.heap.size ≤ g := hq2.bg
  have hgl : g < w2.heap.size := hq2.lt
  obtain ⟨adu, capu, hu⟩ := hq2.row.form
  subst hu
  obtain ⟨N, hN⟩ : ∃ N, q.es.length = N := ⟨_, rfl⟩
  rw [hN] at hq2 H2
  have HN := Lib.hid hN
  clear hq2 hown2 hb2 hN d0 d1 d2 d3 d4 d5 d6 d7 d8 d9 hlx2
  go_upto_region 5 with (fail)
  obtain ⟨W3, hW3⟩ : ∃ W, W = w2.alloc (.cells #[.pointer (some ⟨g, 0, none⟩)] 72) := ⟨_, rfl⟩
  rw [← hW3]
  have hs3 : W3.heap.size = w2.heap.size + 1 := by rw [hW3]; simp
  have hB3 : Below w2.heap.size w2 W3 := by rw [hW3]; exact (Below.refl _ w2).alloc (Nat.le_refl _) _
  have hx7 : W3.heap[w2.heap.size]? = some (.cells #[.pointer (some ⟨g, 0, none⟩)] 72 (0, 0)) := by rw [hW3]; exact blk_new w2 _
  clear hW3
  obtain ⟨W4, hW4⟩ : ∃ W, W = W3.alloc (.cells #[.int .i64 0] 35) := ⟨_, rfl⟩
  have hs4 : W4.heap.size = W3.heap.size + 1 := by rw [hW4]; simp
  have hB4 : Below W3.heap.size W3 W4 := by rw [hW4]; exact (Below.refl _ W3).alloc (Nat.le_refl _) _
  have hx8 : W4.heap[W3.heap.size]? = some (.cells #[.int .i64 0] 35 (0, 0)) := by rw [hW4]; exact blk_new W3 _
  have hB24 : Below w2.heap.size w2 W4 := hB3.trans (hB4.mono hB3.size)
  have H4 := H2.out.under hB24
  have hT4 := HT2.out.under hB24
  have hO4 : Olds w w.heap.size W4 := fun k hk => (hB24.block k (by have := HB2.out.size; omega)).trans (HB2.out.block k hk)
  have hu3 := (hB24.block _ (by omega)).trans Hu3.out
  have hu4 := (hB24.block _ (by omega)).trans Hu4.out
  have hx7' := (hB4.block _ (by omega)).trans hx7
  have hbx4 := (hO4 bx hbxl).trans Hbx.out
  have hc1 := change1_any w W4 w1.heap.size g w2.heap.size (w.heap.size + 1) bx ad3 n3 cap3 _ q C cp V s HD.out H4 HR.out hT4 (by omega) (by omega) hO4 (cell_of_one hx7') (cell_of_one hu3)
  have hca := caught_any W3 77 #[.pointer (some ⟨w2.heap.size, 0, none⟩), .pointer (some ⟨w.heap.size + 1, 0, none⟩)] (fun x => ∃ w2', Left W4 w1.heap.size g (.slice adu N capu) (chQ q s).1 w2' ∧ x = w2'.setCells bx 0 (told V (chQ q s))) (chQ q s).2.2 (fun W => by kernel_rfl) (by
    rw [← hW4]
    refine hc1.mono fun en x hP => ?_
    obtain ⟨h1, w2', h2, rfl⟩ := hP
    refine ⟨h1, ?_, w2', h2, rfl⟩
    obtain ⟨a3, k3, c3, u3, h3, h4, h5⟩ := h2
    rw [World.heap_setCells_other w2' bx 0 _ (by have := h4.size; omega) (by have := HB2.out.size; omega)]
    exact (h4.block _ (by omega) (by omega) (fun e => by have := (H2.out.ul _ e).2; omega)).trans hx8)
  have Hca := Lib.hid hca
  have H4' := Lib.hid H4
  have Hu4' := Lib.hid hu4
  have Hbx4 := Lib.hid hbx4
  have HO4 := Lib.hid hO4
  have Hx7 := Lib.hid hx7'
  have Hx8 := Lib.hid hx8
  have hsz := HB2.out.size
  have Hos := Lib.hid (show W4.os = w.os ∧ W4.tape = w.tape ∧ W4.output = w.output from ⟨hB24.os.trans HB2.out.os, hB24.tape.trans HB2.out.tape, hB24.output.trans HB2.out.output⟩)
  clear hca hc1 hu3 hu4 hbx4 hO4 hx7' H4 hT4 hB24 hx8 hB4 hB3 hW4
  have e7 := cell_of_one hx7
  have hl7 := (Array.getElem?_eq_some_iff.1 hx7).1
  clear hx7
  go_wp2_with fail
  refine Hca.out.mono ?_
  rintro en w5 ⟨rfl, w1', ⟨w2', hleft, rfl⟩, hbox, rfl⟩
  obtain ⟨ad5, n5, cap5, u5, hq5, hk5, ho5⟩ := hleft
  have Hul := Lib.hid (fun b e => (H2.out.ul b e).2)
  obtain ⟨⟨⟨⟨⟨fs5, dn5, fu5, fa5⟩, sz5, fr5, nx5, br5⟩, es5, mo5⟩, e5, c5⟩, hqa⟩ : ∃ a, chQ q s = a := ⟨_, rfl⟩
  rw [hqa] at hq5 ⊢
  have Hqa := Lib.hid hqa
  clear hqa hbox
  obtain ⟨adu5, capu5, hu5⟩ := hq5.row.form
  subst hu5
  obtain ⟨N5, hN5⟩ : ∃ N5, es5.length = N5 := ⟨_, rfl⟩
  simp only [hN5] at hq5 ho5
  have hE5 := EIn.of_row hq5.row
  have HN5 := Lib.hid hN5
  obtain ⟨W5, hW5⟩ : ∃ W, W = (w2'.setCells bx 0 (told V (⟨⟨⟨fs5, dn5, fu5, fa5⟩, sz5, fr5, nx5, br5⟩, es5, mo5⟩, e5, c5))).setCell ⟨W3.heap.size, 0, none⟩ (.int .i64 c5) := ⟨_, rfl⟩
  rw [← hW5]
  have hz5 : W5.heap.size = w2'.heap.size := by rw [hW5]; simp [World.setCell, size_setCells]
  have hsame : ∀ b, b < w2'.heap.size → b ≠ bx → b ≠ W3.heap.size → W5.heap[b]? = w2'.heap[b]? := fun b h1 h2 h3 => by
    rw [hW5]
    exact (Below.heap_setCell _ ⟨_, 0, none⟩ _ b h3).trans (World.heap_setCells_other w2' bx 0 _ h1 h2)
  have hk4 := hk5.size
  have hbxB := (hk5.block bx (by omega) (by omega) (fun e => by have := (H2.out.ul _ e).1; omega)).trans Hbx4.out
  have hbxF : W5.heap[bx]? = some (.cells (spl cs.toList 0 (told V (⟨⟨⟨fs5, dn5, fu5, fa5⟩, sz5, fr5, nx5, br5⟩, es5, mo5⟩, e5, c5))).toArray T (0, 0)) := by
    rw [hW5]
    refine (Below.heap_setCell _ ⟨_, 0, none⟩ _ bx (by simp only; omega)).trans (heap_setCells_spl bx _ 0 w2' cs hbxB ?_)
    unfold told
    split
    · have := HV.out (⟨⟨⟨fs5, dn5, fu5, fa5⟩, sz5, fr5, nx5, br5⟩, es5, mo5⟩, e5, c5); omega
    · simp
  have ht7 := (hsame w2.heap.size (by omega) (by omega) (by omega)).trans ((hk5.block _ (by omega) (by omega) (fun e => by have := Hul.out _ e; omega)).trans Hx7.out)
  have ht4 := (hsame (w.heap.size + 2) (by omega) (by omega) (by omega)).trans ((hk5.block _ (by omega) (by omega) (fun e => by have := (H2.out.ul _ e).1; omega)).trans Hu4'.out)
  have hg5l := hq5.lt
  have htg := (hsame g hg5l (by omega) (by omega)).trans hq5.h
  have hos5 : W5.os = w2'.os ∧ W5.tape = w2'.tape ∧ W5.output = w2'.output := by
    rw [hW5]
    exact ⟨World.os_setCells _ _ _ _, tape_setCells _ _ _ _, World.output_setCells _ _ _ _⟩
  have h8 := (hk5.block W3.heap.size (by omega) (by omega) (fun e => by have := Hul.out _ e; omega)).trans Hx8.out
  clear hW5
  have Hq5 := Lib.hid hq5
  have Hk5 := Lib.hid hk5
  have Ho5 := Lib.hid ho5
  have HE5 := Lib.hid hE5
  have Hsame := Lib.hid hsame
  have HbxF := Lib.hid hbxF
  have Ht4 := Lib.hid ht4
  have Hos5 := Lib.hid hos5
  have H8 := Lib.hid h8
  clear hq5 hk5 ho5 hE5 hsame hbxF hos5 hbxB h8 hN5
  have hl7' := (Array.getElem?_eq_some_iff.1 ht7).1
  have k7 := cell_of_one ht7
  obtain ⟨d0, d1, d2, d3, d4, d5, d6, d7, d8, d9⟩ := box10 htg
  have hlg5 := (Array.getElem?_eq_some_iff.1 htg).1
  obtain ⟨y0, y1, y2, y3, y4, y5, y6, y7, y8, y9⟩ := box10 ht4
  obtain ⟨z0, z1, z2, z3, z4, z5, z6, z7, z8, z9⟩ := frz10 ht4
  have hly := (Array.getElem?_eq_some_iff.1 ht4).1
  have hput := cell_put10 ht4 (.slice ad5 n5 cap5) (.bool dn5) (.int .i64 fu5) (.int .i64 fa5) (.int .i64 sz5) (.int .u64 fr5) (.int .u64 nx5) (.bool br5) (.slice adu5 N5 capu5) (.int .i64 mo5)
  obtain ⟨p0, p1, p2, p3, p4, p5, p6, p7, p8, p9⟩ := box10 hput
  clear hput ht7 htg ht4
  go_wp2
  refine bodyPost_ret (v := .tuple #[.agg (qcells (.slice ad5 n5 cap5) dn5 fu5 fa5 sz5 fr5 nx5 br5 (.slice adu5 N5 capu5) mo5), .int .i64 c5]) (by simp [results, Tryz.results32, go_sem, p0, p1, p2, p3, p4, p5, p6, p7, p8, p9]) rfl ?_
  clear d0 d1 d2 d3 d4 d5 d6 d7 d8 d9 y0 y1 y2 y3 y4 y5 y6 y7 y8 y9 z0 z1 z2 z3 z4 z5 z6 z7 z8 z9 p0 p1 p2 p3 p4 p5 p6 p7 p8 p9
  obtain ⟨F, hF⟩ : ∃ F, F = ((((((((((W5.setCell ⟨w.heap.size + 2, 0, none⟩ (.slice ad5 n5 cap5)).setCell ⟨w.heap.size + 2, 1, none⟩ (.bool dn5)).setCell ⟨w.heap.size + 2, 2, none⟩ (.int .i64 fu5)).setCell ⟨w.heap.size + 2, 3, none⟩ (.int .i64 fa5)).setCell ⟨w.heap.size + 2, 4, none⟩ (.int .i64 sz5)).setCell ⟨w.heap.size + 2, 5, none⟩ (.int .u64 fr5)).setCell ⟨w.heap.size + 2, 6, none⟩ (.int .u64 nx5)).setCell ⟨w.heap.size + 2, 7, none⟩ (.bool br5)).setCell ⟨w.heap.size + 2, 8, none⟩ (.slice adu5 N5 capu5)).setCell ⟨w.heap.size + 2, 9, none⟩ (.int .i64 mo5)) := ⟨_, rfl⟩
  rw [← hF]
  have hF2 : F = put10 W5 (w.heap.size + 2) (.slice ad5 n5 cap5) (.bool dn5) (.int .i64 fu5) (.int .i64 fa5) (.int .i64 sz5) (.int .u64 fr5) (.int .u64 nx5) (.bool br5) (.slice adu5 N5 capu5) (.int .i64 mo5) := hF
  have hFz : F.heap.size = w2'.heap.size := by rw [hF2, put10_size]; exact hz5
  have hFo : ∀ b, b ≠ w.heap.size + 2 → F.heap[b]? = W5.heap[b]? := fun b hb => by rw [hF2]; exact put10_other hb _ _ _ _ _ _ _ _ _ _
  have hFg := put10_grown W5 (w.heap.size + 2) (.slice ad5 n5 cap5) (.bool dn5) (.int .i64 fu5) (.int .i64 fa5) (.int .i64 sz5) (.int .u64 fr5) (.int .u64 nx5) (.bool br5) (.slice adu5 N5 capu5) (.int .i64 mo5)
  rw [← hF2] at hFg
  have hFs : F.os = w2'.os ∧ F.tape = w2'.tape ∧ F.output = w2'.output := ⟨hFg.os.trans Hos5.out.1, hFg.tape.trans Hos5.out.2.1, hFg.output.trans Hos5.out.2.2⟩
  clear hF2 hFg
  clear hF
  refine ⟨⟨hFs.1.trans (Hk5.out.os.trans Hos.out.1), hFs.2.1.trans (Hk5.out.tape.trans Hos.out.2.1), hFs.2.2.trans (Hk5.out.output.trans Hos.out.2.2), by omega, fun k hk hne => ?_⟩, .inr ⟨HR.out, ad5, n5, cap5, adu5, N5, capu5, by rw [Hqa.out], ?_, ?_, ?_, ?_⟩⟩
  · have hkb : k ≠ bx := fun e => hne (by rw [e])
    exact (hFo k (by omega)).trans ((Hsame.out k (by omega) hkb (by omega)).trans ((Hk5.out.block k (by omega) (by omega) (fun e => by have := (H2.out.ul _ e).1; omega)).trans (HO4.out k hk)))
  · rw [Hqa.out]
    have hl := Hq5.out.l
    refine ⟨⟨⟨(hl.d.i.same2 (w' := F) (fun hne b e => ?_)).mono (by omega), hl.d.fit, hl.d.u0, hl.d.u1, hl.d.f0, hl.d.f1⟩, hl.s0, hl.s1, hl.f0, hl.f1, hl.n0, hl.n1⟩, ?_, Hq5.out.fit, Hq5.out.m⟩
    · have h1 := Hq5.out.vl b e
      have h2 := Hq5.out.vb b e
      exact (hFo b (by omega)).trans (Hsame.out b h1 (by omega) (fun e2 => hl.d.i.no_int hne H8.out (by rw [← e2]; exact e)))
    · obtain ⟨adx, capx, hvx, hEx⟩ := HE5.out
      injection hvx with e1 e2 e3
      subst e1 e3
      have hEx2 : EIn w2' w2'.heap.size adu5 N5 capu5 es5 := by
        have := hEx
        simp only [HN5.out] at this
        exact this
      refine (hEx2.same (w' := F) (fun b e => ?_)).mono (by omega)
      have h1 := Hq5.out.ul b e
      have h3 : b ≠ W3.heap.size := fun e2 => by
        rcases Ho5.out b e with q1 | q1
        · have := Hul.out b q1; omega
        · omega
      exact (hFo b (by omega)).trans (Hsame.out b h1.2 (by omega) h3)
  · rw [Hqa.out]
    exact (hFo bx (by omega)).trans HbxF.out
  · intro b e
    have := Hq5.out.vb b e
    omega
  · intro b e
    have := (Hq5.out.ul b e).1
    omega
end Go.Proofs.YtkhmdofeonlnpaaGreatDoor

/- QUEUE: THE CLOSURES of Put, Lease, Release, Ack. -/
namespace Go.Proofs.YtkhmdofeonlnpaaGreatDoor
open Go.RowKit
set_option maxRecDepth 100000
set_option linter.unusedVariables false
set_option linter.unusedSimpArgs false

theorem Left.block {W w2 : World} {base g : Nat} {u : Value} {q : Q} (h : Left W base g u q w2) (hbg : base ≤ g) (hul : ∀ b, u.ownBlock = some b → base ≤ b) (hg : base ≤ W.heap.size) {k : Nat} (hk : k < base) : w2.heap[k]? = W.heap[k]? := by
  obtain ⟨_, _, _, _, _, h, _⟩ := h
  exact h.block k (by omega) (by omega) (fun e => by have := hul k e; omega)
theorem told_ok {V : Tell} {a : Ans} (h : a.2.2 = 0) : told V a = V a := if_pos h
theorem told_no {V : Tell} {a : Ans} (h : a.2.2 ≠ 0) : told V a = [] := if_neg h
abbrev Vseq : Tell := fun a => [.int .u64 (a.2.1.seq : Int)]
abbrev Vno : Tell := fun _ => []
abbrev Vent : Tell := fun a => [.int .u64 (a.2.1.seq : Int), .string a.2.1.data, .bool a.2.1.leased]

set_option maxHeartbeats 4000000 in
theorem doc_put (w : World) (bs bx : Nat) (data : ByteArray) (z : Value) (q : Q) (hds : data.size ≤ 9223372036854775000) (hbs : w.heap[bs]? = some (.cells #[.string data] 9 (0, 0))) (hbx : w.heap[bx]? = some (.cells #[z] 25 (0, 0))) :
    DoC 51 #[.pointer (some ⟨bs, 0, none⟩), .pointer (some ⟨bx, 0, none⟩)] w bx Vseq q (.put data) := ⟨fun args W => by kernel_rfl, fun W base g ad n cap u h hR hbr hT hb hb3 hO => by
  have h1 := (Array.getElem?_eq_some_iff.1 hbs).1
  have h2 := (Array.getElem?_eq_some_iff.1 hbx).1
  have hsW := cell_of_one ((hO bs h1).trans hbs)
  have hlW := (Array.getElem?_eq_some_iff.1 ((hO bs h1).trans hbs)).1
  have hgl := h.lt
  have hbg := h.bg
  have H := Lib.hid h
  have hput := put_any W base g ad n cap u q data hds h (by have := hR.2.2.1; omega) hR.1 hbr hT (by omega) (by omega)
  have HP := Lib.hid hput
  have HO := Lib.hid (hO bx h2)
  have Hbx := Lib.hid hbx
  clear hput hR hT hO hbr h hbs hbx
  show Calls Tryz.prog 51 #[.pointer (some ⟨g, 0, none⟩), .pointer (some ⟨bs, 0, none⟩), .pointer (some ⟨bx, 0, none⟩)] W _
  go_enter Tryz.func51, Tryz.ntmps51
  go_wp2_with fail
  refine HP.out.mono ?_
  rintro en w1 ⟨hen, hl⟩
  have hbl := (hl.block hbg (fun b e => (H.out.ul b e).1) (by omega) (by omega : bx < base)).trans (HO.out.trans Hbx.out)
  have Hl := Lib.hid hl
  clear hl
  show _
  rcases hen with ⟨hc, rfl⟩ | ⟨hc, rfl⟩
  · have Hc := Lib.hid hc
    clear hc
    have c0 := cell_of_row w1 bx 0 _ _ (0, 0) hbl
    have f0 := frozen_of_row w1 bx 0 _ _ hbl
    have hl0 := (Array.getElem?_eq_some_iff.1 hbl).1
    clear hbl
    go_wp2
    go_end0
    refine ⟨.inl ⟨Hc.out, rfl⟩, w1, Hl.out, ?_⟩
    rw [show stM q (.put data) = putM q data from rfl, told_ok Hc.out]
    rfl
  · have Hc := Lib.hid hc
    clear hc hbl
    go_wp2
    refine ⟨rfl, .inr ⟨Hc.out, rfl⟩, w1, Hl.out, ?_⟩
    rw [show stM q (.put data) = putM q data from rfl, told_no Hc.out]
    rfl⟩

set_option maxHeartbeats 4000000 in
theorem doc_lease (w : World) (bx : Nat) (z0 z1 z2 : Value) (q : Q) (hbx : w.heap[bx]? = some (.cells #[z0, z1, z2] 39 (0, 0))) :
    DoC 52 #[.pointer (some ⟨bx, 0, none⟩)] w bx Vent q .lease := ⟨fun args W => by kernel_rfl, fun W base g ad n cap u h hR hbr hT hb hb3 hO => by
  have h2 := (Array.getElem?_eq_some_iff.1 hbx).1
  have hgl := h.lt
  have hbg := h.bg
  have H := Lib.hid h
  have hput := lease_any W base g ad n cap u q h (by have := hR.2.2.1; omega)
  have HP := Lib.hid hput
  have HO := Lib.hid (hO bx h2)
  have Hbx := Lib.hid hbx
  clear hput hR hT hO hbr h hbx
  show Calls Tryz.prog 52 #[.pointer (some ⟨g, 0, none⟩), .pointer (some ⟨bx, 0, none⟩)] W _
  go_enter Tryz.func52, Tryz.ntmps52
  go_wp2_with fail
  refine HP.out.mono ?_
  rintro en w1 ⟨hen, hl⟩
  have hbl := (hl.block hbg (fun b e => (H.out.ul b e).1) (by omega) (by omega : bx < base)).trans (HO.out.trans Hbx.out)
  have Hl := Lib.hid hl
  clear hl
  rcases hen with ⟨hc, rfl⟩ | ⟨hc, rfl⟩
  · have Hc := Lib.hid hc
    clear hc
    obtain ⟨⟨y0, y1, y2⟩, f0, f1, f2⟩ := blk3 hbl
    have hl0 := (Array.getElem?_eq_some_iff.1 hbl).1
    clear hbl
    go_wp2
    go_end0
    refine ⟨.inl ⟨Hc.out, rfl⟩, w1, Hl.out, ?_⟩
    rw [show stM q .lease = leaseM q from rfl, told_ok Hc.out]
    rfl
  · have Hc := Lib.hid hc
    clear hc hbl
    go_wp2
    refine ⟨rfl, .inr ⟨Hc.out, rfl⟩, w1, Hl.out, ?_⟩
    rw [show stM q .lease = leaseM q from rfl, told_no Hc.out]
    rfl⟩


set_option maxHeartbeats 4000000 in
theorem doc_ack (w : World) (bs bx : Nat) (s : Nat) (hs : s < 18446744073709551616) (q : Q) (hbs : w.heap[bs]? = some (.cells #[.int .u64 (s : Int)] 25 (0, 0))) :
    DoC 53 #[.pointer (some ⟨bs, 0, none⟩)] w bx Vno q (.ack s) := ⟨fun args W => by kernel_rfl, fun W base g ad n cap u h hR hbr hT hb hb3 hO => by
  have h1 := (Array.getElem?_eq_some_iff.1 hbs).1
  have hsW := cell_of_one ((hO bs h1).trans hbs)
  have hlW := (Array.getElem?_eq_some_iff.1 ((hO bs h1).trans hbs)).1
  have hgl := h.lt
  have hbg := h.bg
  have hput := qack_any W base g ad n cap u q s hs h (by have := hR.2.2.1; omega) hR.1 hbr hT (by omega) hb3
  have HP := Lib.hid hput
  clear hput hR hT hO hbr h hbs
  show Calls Tryz.prog 53 #[.pointer (some ⟨g, 0, none⟩), .pointer (some ⟨bs, 0, none⟩)] W _
  go_enter Tryz.func53, Tryz.ntmps53
  go_wp2_with fail
  refine HP.out.mono ?_
  rintro en w1 ⟨hen, hl⟩
  have Hl := Lib.hid hl
  clear hl
  rcases hen with ⟨hc, rfl⟩ | ⟨hc, rfl⟩
  · have Hc := Lib.hid hc
    clear hc
    go_wp2
    go_end0
    refine ⟨.inl ⟨Hc.out, rfl⟩, w1, Hl.out, ?_⟩
    rw [show stM q (.ack s) = ackM q s from rfl, told_ok Hc.out]
    rfl
  · have Hc := Lib.hid hc
    clear hc
    go_wp2
    refine ⟨rfl, .inr ⟨Hc.out, rfl⟩, w1, Hl.out, ?_⟩
    rw [show stM q (.ack s) = ackM q s from rfl, told_no Hc.out]
    rfl⟩
end Go.Proofs.YtkhmdofeonlnpaaGreatDoor

/- QUEUE: Do's closure. -/
namespace Go.Proofs.YtkhmdofeonlnpaaGreatDoor
open Go.RowKit
set_option maxRecDepth 100000
set_option linter.unusedVariables false
set_option linter.unusedSimpArgs false

/-- a step as it is handed in -/
abbrev stepC (k : Int) (d : ByteArray) (s : Nat) : Array Value := #[.int .u8 k, .string d, .int .u64 (s : Int)]
def qsOf (k : Int) (d : ByteArray) (s : Nat) : QS := if k = 1 then .put d else if k = 2 then .lease else if k = 3 then .release s else if k = 4 then .ack s else .none
def Vdo (k : Int) : Tell := if k = 1 then Vseq else if k = 2 then Vent else Vno






end Go.Proofs.YtkhmdofeonlnpaaGreatDoor

/- QUEUE: change's answers, taken together. -/
namespace Go.Proofs.YtkhmdofeonlnpaaGreatDoor
open Go.RowKit
set_option maxRecDepth 100000
set_option linter.unusedVariables false
set_option linter.unusedSimpArgs false

def zQ : Q := ⟨zl, [], 0⟩
open Classical in
/-- a step on a queue that may be not right -/
noncomputable def ansQ (q : Q) (s : QS) : Ans := if QRight q then chQ q s else (zQ, zE, 6)
theorem zQ_in (w : World) : QIn w none 0 0 none 0 0 zQ := ⟨⟨DIn.nothing _ (fu := 0) (fa := 0) (by unfold Num; omega) (by unfold Num; omega), by decide, by decide, by decide, by decide, by decide, by decide⟩, ⟨rfl, Nat.le_refl _, fun _ => rfl, fun h => absurd rfl h⟩, fun e h => by simp [zQ] at h, by unfold Num; decide⟩
/-- what is left of a step: the answer, what its list and its entries are, the box of the caller's -/
def AnR (w : World) (bx : Nat) (cs : Array Value) (T : TypeId) (V : Tell) (a : Ans) (e : Ending) (w' : World) : Prop :=
  w.grownBy w' (some bx) ∧ ∃ ad3 n3 cap3 ad4 n4 cap4, e = .returned (.tuple #[.agg (a.1.cells (.slice ad3 n3 cap3) (.slice ad4 n4 cap4)), .int .i64 a.2.2]) ∧ QIn w' ad3 n3 cap3 ad4 n4 cap4 a.1 ∧ w'.heap[bx]? = some (.cells (spl cs.toList 0 (told V a)).toArray T (0, 0)) ∧
     (∀ b, (Value.slice ad3 n3 cap3).ownBlock = some b → w.heap.size ≤ b) ∧ (∀ b, (Value.slice ad4 n4 cap4).ownBlock = some b → w.heap.size ≤ b)
theorem spl_nil (cs : List Value) : spl cs 0 [] = cs := by cases cs <;> rfl
theorem ChR.one {w : World} {bx : Nat} {cs : Array Value} {T : TypeId} {V : Tell} {q : Q} {s : QS} {e : Ending} {w' : World} (h : ChR w bx cs T V q s e w') : AnR w bx cs T V (ansQ q s) e w' := by
  obtain ⟨h0, h⟩ := h
  refine ⟨h0, ?_⟩
  rcases h with ⟨hR, rfl, hb⟩ | ⟨hR, h⟩
  · unfold ansQ
    rw [if_neg hR]
    refine ⟨none, 0, 0, none, 0, 0, rfl, zQ_in _, ?_, by simp [Value.ownBlock], by simp [Value.ownBlock]⟩
    rw [told_no (by simp), spl_nil]
    exact hb
  · unfold ansQ
    rw [if_pos hR]
    exact h
theorem putM_form (q : Q) (d : ByteArray) : (putM q d).2.1.data = ⟨#[]⟩ ∧ (putM q d).2.1.leased = false := by
  unfold putM
  split
  · exact ⟨rfl, rfl⟩
  split
  · exact ⟨rfl, rfl⟩
  split <;> exact ⟨rfl, rfl⟩
theorem leaseM_no (q : Q) (h : (leaseM q).2.2 ≠ 0) : (leaseM q).2.1 = zE := by
  unfold leaseM at *
  split at h
  · rfl
  · split at h
    · rfl
    · exact absurd rfl h
theorem putM_no (q : Q) (d : ByteArray) (h : (putM q d).2.2 ≠ 0) : (putM q d).2.1 = zE := by
  unfold putM at *
  split at h
  · rename_i h1; rw [if_pos h1]
  rename_i h1
  rw [if_neg h1]
  split at h
  · rename_i h2; rw [if_pos h2]
  rename_i h2
  rw [if_neg h2]
  split at h
  · exact absurd rfl h
  rename_i h3
  rw [if_neg h3]
theorem releaseM_e (q : Q) (s : Nat) : (releaseM q s).2.1 = zE := by
  unfold releaseM
  split
  · rfl
  · split <;> rfl
theorem ackM_e (q : Q) (s : Nat) : (ackM q s).2.1 = zE := by
  unfold ackM
  split
  · rfl
  · split <;> rfl
theorem ansQ_no (q : Q) (s : QS) (h : (ansQ q s).2.2 ≠ 0) : (ansQ q s).2.1 = zE := by
  unfold ansQ at *
  split at h
  · unfold chQ at *
    split at h
    · rename_i h1 h2; rw [if_pos h1, if_pos h2]
    rename_i h1 h2
    rw [if_pos h1, if_neg h2]
    cases s with
    | put d => exact putM_no q d h
    | lease => exact leaseM_no q h
    | release k => exact releaseM_e q k
    | ack k => exact ackM_e q k
    | none => rfl
  · rename_i h1; rw [if_neg h1]
theorem ansQ_noE (q : Q) (s : QS) (h : ∀ q, (stM q s).2.1 = zE) : (ansQ q s).2.1 = zE := by
  unfold ansQ
  split
  · unfold chQ
    split
    · rfl
    · exact h q
  · rfl
/-- an entry as it is told -/
abbrev entC (e : E) : Array Value := #[.int .u64 (e.seq : Int), .string e.data, .bool e.leased]
theorem told_seq (q : Q) (s : QS) : (spl [.int .u64 0] 0 (told Vseq (ansQ q s))).toArray = #[Value.int .u64 ((ansQ q s).2.1.seq : Int)] := by
  by_cases h : (ansQ q s).2.2 = 0
  · rw [told_ok h]; rfl
  · rw [told_no h, ansQ_no q s h]; rfl
theorem told_ent (q : Q) (s : QS) : (spl [.int .u64 0, .string ⟨#[]⟩, .bool false] 0 (told Vent (ansQ q s))).toArray = entC (ansQ q s).2.1 := by
  by_cases h : (ansQ q s).2.2 = 0
  · rw [told_ok h]; rfl
  · rw [told_no h, ansQ_no q s h]; rfl
/-- what a step of a caller's answers with -/
def PubR (w : World) (R : Value → Ans → Value) (a : Ans) (e : Ending) (w' : World) : Prop :=
  Below w.heap.size w w' ∧ ∃ ad n cap ad2 n2 cap2, e = .returned (R (.agg (a.1.cells (.slice ad n cap) (.slice ad2 n2 cap2))) a) ∧ QIn w' ad n cap ad2 n2 cap2 a.1 ∧ (∀ b, (Value.slice ad n cap).ownBlock = some b → w.heap.size ≤ b) ∧ (∀ b, (Value.slice ad2 n2 cap2).ownBlock = some b → w.heap.size ≤ b)
abbrev Rseq (v : Value) (a : Ans) : Value := .tuple #[v, .int .u64 (a.2.1.seq : Int), .int .i64 a.2.2]
abbrev Rent (v : Value) (a : Ans) : Value := .tuple #[v, .agg (entC a.2.1), .int .i64 a.2.2]
abbrev Rno (v : Value) (a : Ans) : Value := .tuple #[v, .int .i64 a.2.2]
end Go.Proofs.YtkhmdofeonlnpaaGreatDoor

/- QUEUE: THE WALKS OVER Put, Lease, Release, Ack, Do. -/
namespace Go.Proofs.YtkhmdofeonlnpaaGreatDoor
open Go.RowKit
set_option maxRecDepth 100000
set_option linter.unusedVariables false
set_option linter.unusedSimpArgs false

theorem QIn.same {w w' : World} {ad : Option Addr} {n cap : Nat} {ad2 : Option Addr} {n2 cap2 : Nat} {q : Q} (h : QIn w ad n cap ad2 n2 cap2 q) (hs : w.heap.size ≤ w'.heap.size)
    (h1 : ∀ b, (Value.slice ad n cap).ownBlock = some b → w'.heap[b]? = w.heap[b]?) (h2 : ∀ b, (Value.slice ad2 n2 cap2).ownBlock = some b → w'.heap[b]? = w.heap[b]?) : QIn w' ad n cap ad2 n2 cap2 q :=
  ⟨⟨⟨(h.l.d.i.same2 (fun _ => h1)).mono hs, h.l.d.fit, h.l.d.u0, h.l.d.u1, h.l.d.f0, h.l.d.f1⟩, h.l.s0, h.l.s1, h.l.f0, h.l.f1, h.l.n0, h.l.n1⟩, (h.e.same h2).mono hs, h.fit, h.m⟩
/-- a world that is a world but for the blocks from B to C -/
structure Bfr (B C : Nat) (w w' : World) : Prop where
  os : w'.os = w.os
  tape : w'.tape = w.tape
  output : w'.output = w.output
  size : w'.heap.size = w.heap.size
  block : ∀ k, k < B ∨ C ≤ k → w'.heap[k]? = w.heap[k]?
theorem Bfr.trans {B C : Nat} {a b c : World} (h : Bfr B C a b) (g : Bfr B C b c) : Bfr B C a c := ⟨g.os.trans h.os, g.tape.trans h.tape, g.output.trans h.output, g.size.trans h.size, fun k hk => (g.block k hk).trans (h.block k hk)⟩
theorem Bfr.set (B C : Nat) (w : World) (b o : Nat) (v : Value) (h1 : B ≤ b) (h2 : b < C) : Bfr B C w (w.setCell ⟨b, o, none⟩ v) := ⟨rfl, rfl, rfl, by simp [World.setCell], fun k hk => Below.heap_setCell w ⟨b, o, none⟩ v k (by show k ≠ b; omega)⟩
theorem Bfr.put10 (B C : Nat) (w : World) (b : Nat) (v0 v1 v2 v3 v4 v5 v6 v7 v8 v9 : Value) (h1 : B ≤ b) (h2 : b < C) : Bfr B C w (put10 w b v0 v1 v2 v3 v4 v5 v6 v7 v8 v9) :=
  ((((((((((Bfr.set B C w b 0 v0 h1 h2).trans (Bfr.set _ _ _ b 1 v1 h1 h2)).trans (Bfr.set _ _ _ b 2 v2 h1 h2)).trans (Bfr.set _ _ _ b 3 v3 h1 h2)).trans (Bfr.set _ _ _ b 4 v4 h1 h2)).trans (Bfr.set _ _ _ b 5 v5 h1 h2)).trans (Bfr.set _ _ _ b 6 v6 h1 h2)).trans (Bfr.set _ _ _ b 7 v7 h1 h2)).trans (Bfr.set _ _ _ b 8 v8 h1 h2)).trans (Bfr.set _ _ _ b 9 v9 h1 h2))
theorem Bfr.drew {B C : Nat} {w w' : World} (h : Bfr B C w w') : Bfr B C w w'.drew := ⟨h.os, h.tape, h.output, h.size, fun k hk => h.block k hk⟩
theorem pub_end {w X0 w1 G : World} {bx : Nat} {R : Value → Ans → Value} {a : Ans} {ad3 : Option Addr} {n3 cap3 : Nat} {ad4 : Option Addr} {n4 cap4 : Nat} {e : Ending} (hB : Below w.heap.size w X0) (hg : X0.grownBy w1 (some bx)) (hbx : w.heap.size ≤ bx) (hG : Bfr w.heap.size X0.heap.size w1 G)
    (hq : QIn w1 ad3 n3 cap3 ad4 n4 cap4 a.1) (h3 : ∀ b, (Value.slice ad3 n3 cap3).ownBlock = some b → X0.heap.size ≤ b) (h4 : ∀ b, (Value.slice ad4 n4 cap4).ownBlock = some b → X0.heap.size ≤ b)
    (he : e = .returned (R (.agg (a.1.cells (.slice ad3 n3 cap3) (.slice ad4 n4 cap4))) a)) : PubR w R a e G :=
  ⟨⟨hG.os.trans (hg.os.trans hB.os), hG.tape.trans (hg.tape.trans hB.tape), hG.output.trans (hg.output.trans hB.output), by have := hG.size; have := hg.size; have := hB.size; omega,
    fun k hk => (hG.block k (.inl hk)).trans ((hg.block k (by have := hB.size; omega) (by intro e; injection e with e; omega)).trans (hB.block k hk))⟩,
   ad3, n3, cap3, ad4, n4, cap4, he, hq.same (by have := hG.size; omega) (fun b e => hG.block b (.inr (h3 b e))) (fun b e => hG.block b (.inr (h4 b e))), fun b e => by have := h3 b e; have := hB.size; omega, fun b e => by have := h4 b e; have := hB.size; omega⟩

set_option maxHeartbeats 8000000 in
theorem put24_any (w : World) (ad : Option Addr) (n cap : Nat) (ad2 : Option Addr) (n2 cap2 : Nat) (q : Q) (h : QIn w ad n cap ad2 n2 cap2 q) (hT : Tabs w) (hw : 5 < w.heap.size) (data : ByteArray) (hds : data.size ≤ 9223372036854775000) :
    Calls Tryz.prog 17 #[.agg (q.cells (.slice ad n cap) (.slice ad2 n2 cap2)), .string data] w (PubR w Rseq (ansQ q (.put data))) := by
  obtain ⟨X0, hX0⟩ : ∃ X, X = (((w.alloc (.cells (q.cells (.slice ad n cap) (.slice ad2 n2 cap2)) 30)).alloc (.cells #[.string data] 9)).alloc (.cells zqueue 30)).alloc (.cells #[.int .u64 0] 25) := ⟨_, rfl⟩
  have hs0 : X0.heap.size = w.heap.size + 4 := by rw [hX0]; simp
  have hB0 : Below w.heap.size w X0 := by rw [hX0]; exact (((((Below.refl _ w).alloc (Nat.le_refl _) _).alloc (by simp; try omega) _).alloc (by simp; try omega) _).alloc (by simp; try omega) _)
  have hx0 : X0.heap[w.heap.size]? = some (.cells (q.cells (.slice ad n cap) (.slice ad2 n2 cap2)) 30 (0, 0)) := by rw [hX0]; exact blk_alloc (blk_alloc (blk_alloc (blk_new w _) _) _) _
  have hx1 : X0.heap[w.heap.size + 1]? = some (.cells #[.string data] 9 (0, 0)) := by rw [hX0]; exact blk_alloc (blk_alloc (blk_at (by simp)) _) _
  have hx2 : X0.heap[w.heap.size + 2]? = some (.cells zqueue 30 (0, 0)) := by rw [hX0]; exact blk_alloc (blk_at (by simp)) _
  have hx3 : X0.heap[w.heap.size + 3]? = some (.cells #[.int .u64 0] 25 (0, 0)) := by rw [hX0]; exact blk_at (by simp)
  have hch := change_any X0 ad n cap ad2 n2 cap2 q (h.under hB0) 51 #[.pointer (some ⟨w.heap.size + 1, 0, none⟩), .pointer (some ⟨w.heap.size + 3, 0, none⟩)] Vseq (.put data) (hT.under hB0) (by omega) (w.heap.size + 3) #[.int .u64 0] 25 hx3 (fun a => by simp) (doc_put X0 (w.heap.size + 1) (w.heap.size + 3) data _ q hds hx1 hx3)
  have Hch := Lib.hid hch
  have HB0 := Lib.hid hB0
  have Hx0 := Lib.hid hx0
  have Hx1 := Lib.hid hx1
  have Hx2 := Lib.hid hx2
  have Hx3 := Lib.hid hx3
  clear h hT hB0 hx1 hx2 hx3 hch
  have hmf : ∀ (fn : Fn) (first cap : Array Value) (w : World), (Instr.makeFunc fn first cap).run Tryz.prog w = .ok (.func fn first cap) w := fun _ _ _ _ => rfl
  go_enter Tryz.func17, Tryz.ntmps17
  go_upto_region 2 with (fail)
  rw [← hX0]
  obtain ⟨d0, d1, d2, d3, d4, d5, d6, d7, d8, d9⟩ := box10 hx0
  have hlx0 := (Array.getElem?_eq_some_iff.1 hx0).1
  clear hX0 hx0
  go_wp2_with fail
  refine Hch.out.mono ?_
  rintro en w1 hch
  obtain ⟨hg, ad3, n3, cap3, ad4, n4, cap4, rfl, hq, hbx, ho3, ho4⟩ := hch.one
  rw [told_seq] at hbx
  obtain ⟨a, hqa⟩ : ∃ a, ansQ q (.put data) = a := ⟨_, rfl⟩
  rw [hqa] at hq hbx ⊢
  obtain ⟨⟨⟨⟨fs5, dn5, fu5, fa5⟩, sz5, fr5, nx5, br5⟩, es5, mo5⟩, e5, c5⟩ := a
  have hy0 := (hg.block _ (by omega) (by simp)).trans Hx0.out
  have hyr := (hg.block _ (by omega) (by simp)).trans Hx2.out
  have Hg := Lib.hid hg
  have Hq := Lib.hid hq
  have Hbx := Lib.hid hbx
  have Hy0 := Lib.hid hy0
  have Hyr := Lib.hid hyr
  have Ho3 := Lib.hid ho3
  have Ho4 := Lib.hid ho4
  have Hqa := Lib.hid hqa
  obtain ⟨y0, y1, y2, y3, y4, y5, y6, y7, y8, y9⟩ := box10 hy0
  obtain ⟨z0, z1, z2, z3, z4, z5, z6, z7, z8, z9⟩ := frz10 hy0
  have hly := (Array.getElem?_eq_some_iff.1 hy0).1
  clear hg hq hbx hy0 hyr ho3 ho4 hqa hch d0 d1 d2 d3 d4 d5 d6 d7 d8 d9 hlx0
  go_upto_region 3 with (fail)
  obtain ⟨F, hF⟩ : ∃ F, F = ((((((((((w1.setCell ⟨w.heap.size, 0, none⟩ (.slice ad3 n3 cap3)).setCell ⟨w.heap.size, 1, none⟩ (.bool dn5)).setCell ⟨w.heap.size, 2, none⟩ (.int .i64 fu5)).setCell ⟨w.heap.size, 3, none⟩ (.int .i64 fa5)).setCell ⟨w.heap.size, 4, none⟩ (.int .i64 sz5)).setCell ⟨w.heap.size, 5, none⟩ (.int .u64 fr5)).setCell ⟨w.heap.size, 6, none⟩ (.int .u64 nx5)).setCell ⟨w.heap.size, 7, none⟩ (.bool br5)).setCell ⟨w.heap.size, 8, none⟩ (.slice ad4 n4 cap4)).setCell ⟨w.heap.size, 9, none⟩ (.int .i64 mo5)) := ⟨_, rfl⟩
  rw [← hF]
  have hF2 : F = put10 w1 w.heap.size (.slice ad3 n3 cap3) (.bool dn5) (.int .i64 fu5) (.int .i64 fa5) (.int .i64 sz5) (.int .u64 fr5) (.int .u64 nx5) (.bool br5) (.slice ad4 n4 cap4) (.int .i64 mo5) := hF
  clear hF y0 y1 y2 y3 y4 y5 y6 y7 y8 y9 z0 z1 z2 z3 z4 z5 z6 z7 z8 z9 hly
  have hFo : ∀ b, b ≠ w.heap.size → F.heap[b]? = w1.heap[b]? := fun b hb => by rw [hF2]; exact put10_other hb _ _ _ _ _ _ _ _ _ _
  have hFg : Bfr w.heap.size X0.heap.size w1 F := by rw [hF2]; exact Bfr.put10 _ _ _ _ _ _ _ _ _ _ _ _ _ _ (Nat.le_refl _) (by omega)
  have hF10 := cell_put10 Hy0.out (.slice ad3 n3 cap3) (.bool dn5) (.int .i64 fu5) (.int .i64 fa5) (.int .i64 sz5) (.int .u64 fr5) (.int .u64 nx5) (.bool br5) (.slice ad4 n4 cap4) (.int .i64 mo5)
  rw [← hF2] at hF10
  have hqr := (hFo (w.heap.size + 2) (by omega)).trans Hyr.out
  have hqb := (hFo (w.heap.size + 3) (by omega)).trans Hbx.out
  have HFg := Lib.hid hFg
  clear hF2 hFg hFo
  obtain ⟨d0, d1, d2, d3, d4, d5, d6, d7, d8, d9⟩ := box10 hF10
  have hl0 := (Array.getElem?_eq_some_iff.1 hF10).1
  obtain ⟨y0, y1, y2, y3, y4, y5, y6, y7, y8, y9⟩ := box10 hqr
  obtain ⟨z0, z1, z2, z3, z4, z5, z6, z7, z8, z9⟩ := frz10 hqr
  have hlr := (Array.getElem?_eq_some_iff.1 hqr).1
  have hlb := (Array.getElem?_eq_some_iff.1 hqb).1
  have b0 := cell_of_one hqb
  have hput := cell_put10 hqr (.slice ad3 n3 cap3) (.bool dn5) (.int .i64 fu5) (.int .i64 fa5) (.int .i64 sz5) (.int .u64 fr5) (.int .u64 nx5) (.bool br5) (.slice ad4 n4 cap4) (.int .i64 mo5)
  obtain ⟨p0, p1, p2, p3, p4, p5, p6, p7, p8, p9⟩ := box10 hput
  clear hF10 hqr hqb hput
  go_region
  go_wp2
  refine bodyPost_ret (v := .tuple #[.agg (qcells (.slice ad3 n3 cap3) dn5 fu5 fa5 sz5 fr5 nx5 br5 (.slice ad4 n4 cap4) mo5), .int .u64 (e5.seq : Int), .int .i64 c5]) (by simp [results, Tryz.results17, go_sem, p0, p1, p2, p3, p4, p5, p6, p7, p8, p9]) rfl ?_
  clear p0 p1 p2 p3 p4 p5 p6 p7 p8 p9
  rw [Hqa.out]
  obtain ⟨G, hG⟩ : ∃ G, G = ((((((((((F.setCell ⟨w.heap.size + 1 + 1, 0, none⟩ (.slice ad3 n3 cap3)).setCell ⟨w.heap.size + 1 + 1, 1, none⟩ (.bool dn5)).setCell ⟨w.heap.size + 1 + 1, 2, none⟩ (.int .i64 fu5)).setCell ⟨w.heap.size + 1 + 1, 3, none⟩ (.int .i64 fa5)).setCell ⟨w.heap.size + 1 + 1, 4, none⟩ (.int .i64 sz5)).setCell ⟨w.heap.size + 1 + 1, 5, none⟩ (.int .u64 fr5)).setCell ⟨w.heap.size + 1 + 1, 6, none⟩ (.int .u64 nx5)).setCell ⟨w.heap.size + 1 + 1, 7, none⟩ (.bool br5)).setCell ⟨w.heap.size + 1 + 1, 8, none⟩ (.slice ad4 n4 cap4)).setCell ⟨w.heap.size + 1 + 1, 9, none⟩ (.int .i64 mo5)).drew := ⟨_, rfl⟩
  rw [← hG]
  have hG2 : Bfr w.heap.size X0.heap.size w1 G := by rw [hG]; exact (HFg.out.trans (Bfr.put10 _ _ _ _ _ _ _ _ _ _ _ _ _ _ (by omega) (by omega))).drew
  clear hG
  exact pub_end HB0.out Hg.out (by omega) hG2 Hq.out Ho3.out Ho4.out rfl

set_option maxHeartbeats 8000000 in
theorem lease25_any (w : World) (ad : Option Addr) (n cap : Nat) (ad2 : Option Addr) (n2 cap2 : Nat) (q : Q) (h : QIn w ad n cap ad2 n2 cap2 q) (hT : Tabs w) (hw : 5 < w.heap.size) :
    Calls Tryz.prog 18 #[.agg (q.cells (.slice ad n cap) (.slice ad2 n2 cap2))] w (PubR w Rent (ansQ q (.lease))) := by
  obtain ⟨X0, hX0⟩ : ∃ X, X = (((w.alloc (.cells (q.cells (.slice ad n cap) (.slice ad2 n2 cap2)) 30)).alloc (.cells zqueue 30)).alloc (.cells #[.int .u64 0, .string ⟨#[]⟩, .bool false] 39)).alloc (.cells #[.int .u64 0, .string ⟨#[]⟩, .bool false] 39) := ⟨_, rfl⟩
  have hs0 : X0.heap.size = w.heap.size + 4 := by rw [hX0]; simp
  have hB0 : Below w.heap.size w X0 := by rw [hX0]; exact (((((Below.refl _ w).alloc (Nat.le_refl _) _).alloc (by simp; try omega) _).alloc (by simp; try omega) _).alloc (by simp; try omega) _)
  have hx0 : X0.heap[w.heap.size]? = some (.cells (q.cells (.slice ad n cap) (.slice ad2 n2 cap2)) 30 (0, 0)) := by rw [hX0]; exact blk_alloc (blk_alloc (blk_alloc (blk_new w _) _) _) _
  have hx1 : X0.heap[w.heap.size + 1]? = some (.cells zqueue 30 (0, 0)) := by rw [hX0]; exact blk_alloc (blk_alloc (blk_at (by simp)) _) _
  have hx2 : X0.heap[w.heap.size + 2]? = some (.cells #[.int .u64 0, .string ⟨#[]⟩, .bool false] 39 (0, 0)) := by rw [hX0]; exact blk_alloc (blk_at (by simp)) _
  have hx3 : X0.heap[w.heap.size + 3]? = some (.cells #[.int .u64 0, .string ⟨#[]⟩, .bool false] 39 (0, 0)) := by rw [hX0]; exact blk_at (by simp)
  have hch := change_any X0 ad n cap ad2 n2 cap2 q (h.under hB0) 52 #[.pointer (some ⟨w.heap.size + 3, 0, none⟩)] Vent (.lease) (hT.under hB0) (by omega) (w.heap.size + 3) #[.int .u64 0, .string ⟨#[]⟩, .bool false] 39 hx3 (fun a => by simp) (doc_lease X0 (w.heap.size + 3) _ _ _ q hx3)
  have Hch := Lib.hid hch
  have HB0 := Lib.hid hB0
  have Hx0 := Lib.hid hx0
  have Hx1 := Lib.hid hx1
  have Hx2 := Lib.hid hx2
  have Hx3 := Lib.hid hx3
  clear h hT hB0 hx1 hx2 hx3 hch
  have hmf : ∀ (fn : Fn) (first cap : Array Value) (w : World), (Instr.makeFunc fn first cap).run Tryz.prog w = .ok (.func fn first cap) w := fun _ _ _ _ => rfl
  go_enter Tryz.func18, Tryz.ntmps18
  go_upto_region 2 with (fail)
  rw [← hX0]
  obtain ⟨d0, d1, d2, d3, d4, d5, d6, d7, d8, d9⟩ := box10 hx0
  have hlx0 := (Array.getElem?_eq_some_iff.1 hx0).1
  clear hX0 hx0
  go_wp2_with fail
  refine Hch.out.mono ?_
  rintro en w1 hch
  obtain ⟨hg, ad3, n3, cap3, ad4, n4, cap4, rfl, hq, hbx, ho3, ho4⟩ := hch.one
  rw [told_ent] at hbx
  obtain ⟨a, hqa⟩ : ∃ a, ansQ q (.lease) = a := ⟨_, rfl⟩
  rw [hqa] at hq hbx ⊢
  obtain ⟨⟨⟨⟨fs5, dn5, fu5, fa5⟩, sz5, fr5, nx5, br5⟩, es5, mo5⟩, e5, c5⟩ := a
  have hy0 := (hg.block _ (by omega) (by simp)).trans Hx0.out
  have hyr := (hg.block _ (by omega) (by simp)).trans Hx1.out
  have hye := (hg.block _ (by omega) (by simp)).trans Hx2.out
  have Hye := Lib.hid hye
  clear hye
  have Hg := Lib.hid hg
  have Hq := Lib.hid hq
  have Hbx := Lib.hid hbx
  have Hy0 := Lib.hid hy0
  have Hyr := Lib.hid hyr
  have Ho3 := Lib.hid ho3
  have Ho4 := Lib.hid ho4
  have Hqa := Lib.hid hqa
  obtain ⟨y0, y1, y2, y3, y4, y5, y6, y7, y8, y9⟩ := box10 hy0
  obtain ⟨z0, z1, z2, z3, z4, z5, z6, z7, z8, z9⟩ := frz10 hy0
  have hly := (Array.getElem?_eq_some_iff.1 hy0).1
  clear hg hq hbx hy0 hyr ho3 ho4 hqa hch d0 d1 d2 d3 d4 d5 d6 d7 d8 d9 hlx0
  go_upto_region 3 with (fail)
  obtain ⟨F, hF⟩ : ∃ F, F = ((((((((((w1.setCell ⟨w.heap.size, 0, none⟩ (.slice ad3 n3 cap3)).setCell ⟨w.heap.size, 1, none⟩ (.bool dn5)).setCell ⟨w.heap.size, 2, none⟩ (.int .i64 fu5)).setCell ⟨w.heap.size, 3, none⟩ (.int .i64 fa5)).setCell ⟨w.heap.size, 4, none⟩ (.int .i64 sz5)).setCell ⟨w.heap.size, 5, none⟩ (.int .u64 fr5)).setCell ⟨w.heap.size, 6, none⟩ (.int .u64 nx5)).setCell ⟨w.heap.size, 7, none⟩ (.bool br5)).setCell ⟨w.heap.size, 8, none⟩ (.slice ad4 n4 cap4)).setCell ⟨w.heap.size, 9, none⟩ (.int .i64 mo5)) := ⟨_, rfl⟩
  rw [← hF]
  have hF2 : F = put10 w1 w.heap.size (.slice ad3 n3 cap3) (.bool dn5) (.int .i64 fu5) (.int .i64 fa5) (.int .i64 sz5) (.int .u64 fr5) (.int .u64 nx5) (.bool br5) (.slice ad4 n4 cap4) (.int .i64 mo5) := hF
  clear hF y0 y1 y2 y3 y4 y5 y6 y7 y8 y9 z0 z1 z2 z3 z4 z5 z6 z7 z8 z9 hly
  have hFo : ∀ b, b ≠ w.heap.size → F.heap[b]? = w1.heap[b]? := fun b hb => by rw [hF2]; exact put10_other hb _ _ _ _ _ _ _ _ _ _
  have hFg : Bfr w.heap.size X0.heap.size w1 F := by rw [hF2]; exact Bfr.put10 _ _ _ _ _ _ _ _ _ _ _ _ _ _ (Nat.le_refl _) (by omega)
  have hF10 := cell_put10 Hy0.out (.slice ad3 n3 cap3) (.bool dn5) (.int .i64 fu5) (.int .i64 fa5) (.int .i64 sz5) (.int .u64 fr5) (.int .u64 nx5) (.bool br5) (.slice ad4 n4 cap4) (.int .i64 mo5)
  rw [← hF2] at hF10
  have hqr := (hFo (w.heap.size + 1) (by omega)).trans Hyr.out
  have hqb := (hFo (w.heap.size + 3) (by omega)).trans Hbx.out
  have hqe := (hFo (w.heap.size + 2) (by omega)).trans Hye.out
  have HFg := Lib.hid hFg
  clear hF2 hFg hFo
  obtain ⟨d0, d1, d2, d3, d4, d5, d6, d7, d8, d9⟩ := box10 hF10
  have hl0 := (Array.getElem?_eq_some_iff.1 hF10).1
  obtain ⟨y0, y1, y2, y3, y4, y5, y6, y7, y8, y9⟩ := box10 hqr
  obtain ⟨z0, z1, z2, z3, z4, z5, z6, z7, z8, z9⟩ := frz10 hqr
  have hlr := (Array.getElem?_eq_some_iff.1 hqr).1
  have hlb := (Array.getElem?_eq_some_iff.1 hqb).1
  obtain ⟨⟨b0, b1, b2⟩, _⟩ := blk3 hqb
  obtain ⟨⟨r0, r1, r2⟩, t0, t1, t2⟩ := blk3 hqe
  have hle := (Array.getElem?_eq_some_iff.1 hqe).1
  have hput := cell_put10 hqr (.slice ad3 n3 cap3) (.bool dn5) (.int .i64 fu5) (.int .i64 fa5) (.int .i64 sz5) (.int .u64 fr5) (.int .u64 nx5) (.bool br5) (.slice ad4 n4 cap4) (.int .i64 mo5)
  obtain ⟨p0, p1, p2, p3, p4, p5, p6, p7, p8, p9⟩ := box10 hput
  have hput2 := (put10_other (w := F) (g := w.heap.size + 1) (b := w.heap.size + 2) (by omega) (.slice ad3 n3 cap3) (.bool dn5) (.int .i64 fu5) (.int .i64 fa5) (.int .i64 sz5) (.int .u64 fr5) (.int .u64 nx5) (.bool br5) (.slice ad4 n4 cap4) (.int .i64 mo5)).trans hqe
  have hput3 := put3 hput2 (.int .u64 (e5.seq : Int)) (.string e5.data) (.bool e5.leased)
  obtain ⟨⟨s0, s1, s2⟩, _⟩ := blk3 hput3
  clear hF10 hqr hqb hput hqe hput2 hput3
  go_region
  go_wp2
  refine bodyPost_ret (v := .tuple #[.agg (qcells (.slice ad3 n3 cap3) dn5 fu5 fa5 sz5 fr5 nx5 br5 (.slice ad4 n4 cap4) mo5), .agg (entC e5), .int .i64 c5]) (by simp [results, Tryz.results18, go_sem, p0, p1, p2, p3, p4, p5, p6, p7, p8, p9, s0, s1, s2]) rfl ?_
  clear p0 p1 p2 p3 p4 p5 p6 p7 p8 p9
  rw [Hqa.out]
  obtain ⟨G, hG⟩ : ∃ G, G = (((((((((((((F.setCell ⟨w.heap.size + 1, 0, none⟩ (.slice ad3 n3 cap3)).setCell ⟨w.heap.size + 1, 1, none⟩ (.bool dn5)).setCell ⟨w.heap.size + 1, 2, none⟩ (.int .i64 fu5)).setCell ⟨w.heap.size + 1, 3, none⟩ (.int .i64 fa5)).setCell ⟨w.heap.size + 1, 4, none⟩ (.int .i64 sz5)).setCell ⟨w.heap.size + 1, 5, none⟩ (.int .u64 fr5)).setCell ⟨w.heap.size + 1, 6, none⟩ (.int .u64 nx5)).setCell ⟨w.heap.size + 1, 7, none⟩ (.bool br5)).setCell ⟨w.heap.size + 1, 8, none⟩ (.slice ad4 n4 cap4)).setCell ⟨w.heap.size + 1, 9, none⟩ (.int .i64 mo5)).setCell ⟨w.heap.size + 1 + 1, 0, none⟩ (.int .u64 (e5.seq : Int))).setCell ⟨w.heap.size + 1 + 1, 1, none⟩ (.string e5.data)).setCell ⟨w.heap.size + 1 + 1, 2, none⟩ (.bool e5.leased)).drew := ⟨_, rfl⟩
  rw [← hG]
  have hG2 : Bfr w.heap.size X0.heap.size w1 G := by rw [hG]; exact (HFg.out.trans ((Bfr.put10 _ _ _ _ _ _ _ _ _ _ _ _ _ _ (by omega) (by omega)).trans (((Bfr.set _ _ _ _ _ _ (by omega) (by omega)).trans (Bfr.set _ _ _ _ _ _ (by omega) (by omega))).trans (Bfr.set _ _ _ _ _ _ (by omega) (by omega))))).drew
  clear hG
  exact pub_end HB0.out Hg.out (by omega) hG2 Hq.out Ho3.out Ho4.out rfl



set_option maxHeartbeats 8000000 in
theorem ack26_any (w : World) (ad : Option Addr) (n cap : Nat) (ad2 : Option Addr) (n2 cap2 : Nat) (q : Q) (h : QIn w ad n cap ad2 n2 cap2 q) (hT : Tabs w) (hw : 5 < w.heap.size) (s : Nat) (hs : s < 18446744073709551616) :
    Calls Tryz.prog 19 #[.agg (q.cells (.slice ad n cap) (.slice ad2 n2 cap2)), .int .u64 (s : Int)] w (PubR w Rno (ansQ q (.ack s))) := by
  obtain ⟨X0, hX0⟩ : ∃ X, X = ((w.alloc (.cells (q.cells (.slice ad n cap) (.slice ad2 n2 cap2)) 30)).alloc (.cells #[.int .u64 (s : Int)] 25)).alloc (.cells zqueue 30) := ⟨_, rfl⟩
  have hs0 : X0.heap.size = w.heap.size + 3 := by rw [hX0]; simp
  have hB0 : Below w.heap.size w X0 := by rw [hX0]; exact ((((Below.refl _ w).alloc (Nat.le_refl _) _).alloc (by simp; try omega) _).alloc (by simp; try omega) _)
  have hx0 : X0.heap[w.heap.size]? = some (.cells (q.cells (.slice ad n cap) (.slice ad2 n2 cap2)) 30 (0, 0)) := by rw [hX0]; exact blk_alloc (blk_alloc (blk_new w _) _) _
  have hx1 : X0.heap[w.heap.size + 1]? = some (.cells #[.int .u64 (s : Int)] 25 (0, 0)) := by rw [hX0]; exact blk_alloc (blk_at (by simp)) _
  have hx2 : X0.heap[w.heap.size + 2]? = some (.cells zqueue 30 (0, 0)) := by rw [hX0]; exact blk_at (by simp)
  have hch := change_any X0 ad n cap ad2 n2 cap2 q (h.under hB0) 53 #[.pointer (some ⟨w.heap.size + 1, 0, none⟩)] Vno (.ack s) (hT.under hB0) (by omega) (w.heap.size + 1) #[.int .u64 (s : Int)] 25 hx1 (fun a => by simp) (doc_ack X0 (w.heap.size + 1) (w.heap.size + 1) s hs q hx1)
  have Hch := Lib.hid hch
  have HB0 := Lib.hid hB0
  have Hx0 := Lib.hid hx0
  have Hx1 := Lib.hid hx1
  have Hx2 := Lib.hid hx2
  clear h hT hB0 hx1 hx2 hch
  have hmf : ∀ (fn : Fn) (first cap : Array Value) (w : World), (Instr.makeFunc fn first cap).run Tryz.prog w = .ok (.func fn first cap) w := fun _ _ _ _ => rfl
  go_enter Tryz.func19, Tryz.ntmps19
  go_upto_region 1 with (fail)
  rw [← hX0]
  obtain ⟨d0, d1, d2, d3, d4, d5, d6, d7, d8, d9⟩ := box10 hx0
  have hlx0 := (Array.getElem?_eq_some_iff.1 hx0).1
  clear hX0 hx0
  go_wp2_with fail
  refine Hch.out.mono ?_
  rintro en w1 hch
  obtain ⟨hg, ad3, n3, cap3, ad4, n4, cap4, rfl, hq, hbx, ho3, ho4⟩ := hch.one
  clear hbx; have hbx : True := trivial
  obtain ⟨a, hqa⟩ : ∃ a, ansQ q (.ack s) = a := ⟨_, rfl⟩
  rw [hqa] at hq ⊢
  obtain ⟨⟨⟨⟨fs5, dn5, fu5, fa5⟩, sz5, fr5, nx5, br5⟩, es5, mo5⟩, e5, c5⟩ := a
  have hy0 := (hg.block _ (by omega) (by simp)).trans Hx0.out
  have hyr := (hg.block _ (by omega) (by simp)).trans Hx2.out
  have Hg := Lib.hid hg
  have Hq := Lib.hid hq
  have Hbx := Lib.hid hbx
  have Hy0 := Lib.hid hy0
  have Hyr := Lib.hid hyr
  have Ho3 := Lib.hid ho3
  have Ho4 := Lib.hid ho4
  have Hqa := Lib.hid hqa
  obtain ⟨y0, y1, y2, y3, y4, y5, y6, y7, y8, y9⟩ := box10 hyr
  obtain ⟨z0, z1, z2, z3, z4, z5, z6, z7, z8, z9⟩ := frz10 hyr
  have hlr := (Array.getElem?_eq_some_iff.1 hyr).1
  have hput := cell_put10 hyr (.slice ad3 n3 cap3) (.bool dn5) (.int .i64 fu5) (.int .i64 fa5) (.int .i64 sz5) (.int .u64 fr5) (.int .u64 nx5) (.bool br5) (.slice ad4 n4 cap4) (.int .i64 mo5)
  obtain ⟨p0, p1, p2, p3, p4, p5, p6, p7, p8, p9⟩ := box10 hput
  clear hg hq hbx hy0 hyr ho3 ho4 hqa hch d0 d1 d2 d3 d4 d5 d6 d7 d8 d9 hlx0 hput
  go_wp2
  refine bodyPost_ret (v := .tuple #[.agg (qcells (.slice ad3 n3 cap3) dn5 fu5 fa5 sz5 fr5 nx5 br5 (.slice ad4 n4 cap4) mo5), .int .i64 c5]) (by simp [results, Tryz.results19, go_sem, p0, p1, p2, p3, p4, p5, p6, p7, p8, p9]) rfl ?_
  clear p0 p1 p2 p3 p4 p5 p6 p7 p8 p9
  rw [Hqa.out]
  obtain ⟨G, hG⟩ : ∃ G, G = ((((((((((w1.setCell ⟨w.heap.size + 1 + 1, 0, none⟩ (.slice ad3 n3 cap3)).setCell ⟨w.heap.size + 1 + 1, 1, none⟩ (.bool dn5)).setCell ⟨w.heap.size + 1 + 1, 2, none⟩ (.int .i64 fu5)).setCell ⟨w.heap.size + 1 + 1, 3, none⟩ (.int .i64 fa5)).setCell ⟨w.heap.size + 1 + 1, 4, none⟩ (.int .i64 sz5)).setCell ⟨w.heap.size + 1 + 1, 5, none⟩ (.int .u64 fr5)).setCell ⟨w.heap.size + 1 + 1, 6, none⟩ (.int .u64 nx5)).setCell ⟨w.heap.size + 1 + 1, 7, none⟩ (.bool br5)).setCell ⟨w.heap.size + 1 + 1, 8, none⟩ (.slice ad4 n4 cap4)).setCell ⟨w.heap.size + 1 + 1, 9, none⟩ (.int .i64 mo5)) := ⟨_, rfl⟩
  rw [← hG]
  have hG2 : Bfr w.heap.size X0.heap.size w1 G := by rw [hG]; exact Bfr.put10 _ _ _ _ _ _ _ _ _ _ _ _ _ _ (by omega) (by omega)
  clear hG
  exact pub_end HB0.out Hg.out (by omega) hG2 Hq.out Ho3.out Ho4.out rfl
end Go.Proofs.YtkhmdofeonlnpaaGreatDoor

/- QUEUE: THE WALKS OVER unopened, the law's whole; what Open answers. -/
namespace Go.Proofs.YtkhmdofeonlnpaaGreatDoor
open Go.RowKit
set_option maxRecDepth 100000
set_option linter.unusedVariables false
set_option linter.unusedSimpArgs false

/-- the queue of a log that was not opened -/
def unop (l : L) (most : Int) : Q := if l.broken then ⟨l, [], most⟩ else zQ
open Classical in
noncomputable def openQ (d : D) (size most : Int) : Q × Int :=
  if ¬ Right d.files then (zQ, 6) else if ¬ (1 ≤ most ∧ most ≤ 1024) then (zQ, 2)
  else if (openM d size).2.2 ≠ 0 then (unop (openM d size).1 most, (openM d size).2.2)
  else if 1024 < (entM (openM d size).2.1).length then (zQ, 3)
  else (⟨(openM d size).1, entM (openM d size).2.1, most⟩, 0)

set_option maxHeartbeats 4000000 in
theorem unopened_any (w : World) (ad : Option Addr) (n cap : Nat) (l : L) (most : Int) :
    Calls Tryz.prog 26 #[.agg (l.cells (.slice ad n cap)), .int .i64 most] w fun e w' => Below w.heap.size w w' ∧ ∃ ad2 n2 cap2, e = .returned (.agg ((unop l most).cells (.slice ad2 n2 cap2) (.slice none 0 0))) ∧ ((l.broken = true ∧ ad2 = ad ∧ n2 = n ∧ cap2 = cap) ∨ (l.broken = false ∧ ad2 = none ∧ n2 = 0 ∧ cap2 = 0)) := by
  obtain ⟨⟨fs, down, fuse, fault⟩, size, fr, nx, broken⟩ := l
  obtain ⟨X, hX⟩ : ∃ X, X = (w.alloc (.cells (lcells (.slice ad n cap) down fuse fault size fr nx broken) 27)).alloc (.cells zqueue 30) := ⟨_, rfl⟩
  have hb0 : Below w.heap.size w X := by rw [hX]; exact ((Below.refl _ w).alloc (Nat.le_refl _) _).alloc (by simp) _
  have hx0 : X.heap[w.heap.size]? = some (.cells (lcells (.slice ad n cap) down fuse fault size fr nx broken) 27 (0, 0)) := by rw [hX]; exact blk_alloc (blk_new w _) _
  have hx1 : X.heap[w.heap.size + 1]? = some (.cells zqueue 30 (0, 0)) := by rw [hX]; exact blk_at (by simp)
  have Hb0 := Lib.hid hb0
  have Hx1 := Lib.hid hx1
  clear hb0
  go_enter Tryz.func26, Tryz.ntmps26
  go_upto_region 1 with (fail)
  rw [← hX]
  clear hX
  obtain ⟨d0, d1, d2, d3, d4, d5, d6, d7⟩ := box8 hx0
  have hl0 := (Array.getElem?_eq_some_iff.1 hx0).1
  obtain ⟨y0, y1, y2, y3, y4, y5, y6, y7, y8, y9⟩ := box10 hx1
  obtain ⟨z0, z1, z2, z3, z4, z5, z6, z7, z8, z9⟩ := frz10 hx1
  have hl1 := (Array.getElem?_eq_some_iff.1 hx1).1
  clear hx0 hx1
  cases broken with
  | false =>
    have hput := cell_put10 Hx1.out (.slice none 0 0) (.bool false) (.int .i64 0) (.int .i64 0) (.int .i64 0) (.int .u64 0) (.int .u64 0) (.bool false) (.slice none 0 0) (.int .i64 0)
    obtain ⟨p0, p1, p2, p3, p4, p5, p6, p7, p8, p9⟩ := box10 hput
    clear hput
    go_wp2
    refine bodyPost_ret (v := .agg zqueue) (by simp [results, Tryz.results26, go_sem, p0, p1, p2, p3, p4, p5, p6, p7, p8, p9]) rfl ?_
    exact ⟨below_put10 Hb0.out (by omega) _ _ _ _ _ _ _ _ _ _, none, 0, 0, rfl, rfl, rfl, rfl⟩
  | true =>
    have hput := cell_put10 Hx1.out (.slice ad n cap) (.bool down) (.int .i64 fuse) (.int .i64 fault) (.int .i64 size) (.int .u64 fr) (.int .u64 nx) (.bool true) (.slice none 0 0) (.int .i64 most)
    obtain ⟨p0, p1, p2, p3, p4, p5, p6, p7, p8, p9⟩ := box10 hput
    clear hput
    go_wp2
    refine bodyPost_ret (v := .agg (qcells (.slice ad n cap) down fuse fault size fr nx true (.slice none 0 0) most)) (by simp [results, Tryz.results26, go_sem, p0, p1, p2, p3, p4, p5, p6, p7, p8, p9]) rfl ?_
    exact ⟨below_put10 Hb0.out (by omega) _ _ _ _ _ _ _ _ _ _, ad, n, cap, rfl, rfl, rfl, rfl⟩

end Go.Proofs.YtkhmdofeonlnpaaGreatDoor

/- QUEUE: THE ITERATOR THAT GOES BACKWARD OVER RECORDS. -/
namespace Go.Proofs.YtkhmdofeonlnpaaGreatDoor
open Go.RowKit Go.Shelf
attribute [local go_sem] Oper.semAt_some
set_option maxRecDepth 100000
set_option linter.unusedVariables false
set_option linter.unusedSimpArgs false
/-- records at a place -/
def RWAt (w : World) (g off : Nat) (l : List Rec) : Prop := ∀ i r, l[i]? = some r → w.cell? ⟨g, off + i * 2, none⟩ = some (.int .u64 (r.seq : Int)) ∧ w.cell? ⟨g, off + i * 2 + 1, none⟩ = some (.string r.data)
/-- what lies below n₀ but three blocks from C on is kept -/
structure Keep3 (n₀ C : Nat) (W W' : World) : Prop where
  size : W.heap.size ≤ W'.heap.size
  low : ∀ k, k < n₀ → (k < C ∨ C + 3 ≤ k) → W'.heap[k]? = W.heap[k]?
theorem Keep3.refl {n₀ C : Nat} (W : World) : Keep3 n₀ C W W := ⟨Nat.le_refl _, fun _ _ _ => rfl⟩
theorem Keep3.trans {n₀ C : Nat} {A B D : World} (h : Keep3 n₀ C A B) (k : Keep3 n₀ C B D) : Keep3 n₀ C A D := ⟨Nat.le_trans h.size k.size, fun i hi hc => (k.low i hi hc).trans (h.low i hi hc)⟩
theorem Keep3.put {n₀ C : Nat} {w : World} (hn : n₀ ≤ w.heap.size) (W : World) (l : Nat) (o o' : Obj) (hl : w.heap.size ≤ l) (_ : W.heap[l]? = some o) (_ : o.isCells = false) (_ : o.isWalk = false) : Keep3 n₀ C W (W.putObj l o') :=
  ⟨by simp, fun k hk _ => World.putObj_heap_other (by omega)⟩
theorem Keep3.of_below {n₀ C : Nat} {W X : World} (hb : Below W.heap.size W X) (hn : n₀ ≤ W.heap.size) : Keep3 n₀ C W X := ⟨hb.size, fun k hk _ => hb.block k (by omega)⟩
theorem RWAt.kc {w w' : World} {n₀ C g off : Nat} {l : List Rec} (h : RWAt w g off l) (hg : g < n₀) (hC : g < C) (hk : Keep3 n₀ C w w') : RWAt w' g off l := fun i s hi => by
  obtain ⟨h0, h1⟩ := h i s hi
  exact ⟨(World.cell?_of_block (hk.low g hg (.inl hC))).trans h0, (World.cell?_of_block (hk.low g hg (.inl hC))).trans h1⟩
theorem RWAt.below {w w' : World} {B g off : Nat} {l : List Rec} (h : RWAt w g off l) (hg : g < B) (hb : Below B w w') : RWAt w' g off l := fun i s hi => by
  obtain ⟨h0, h1⟩ := h i s hi
  exact ⟨(hb.cell (p := ⟨g, _, none⟩) hg).trans h0, (hb.cell (p := ⟨g, _, none⟩) hg).trans h1⟩

theorem rbackward_any (w : World) (ad : Option Addr) (n cap : Nat) : Calls Tryz.prog 68 #[.slice ad n cap] w fun e w' => e = .returned (.func (.func 118) #[] #[.pointer (some ⟨w.heap.size, 0, none⟩)]) ∧ w.alloc (.cells #[.slice ad n cap] 65) = w' := by
  go_enter Tryz.func68, Tryz.ntmps68
  go_wp2
  go_ret
  exact ⟨rfl, rfl⟩

set_option maxHeartbeats 4000000 in
theorem rback_it (l Bs n₀ C g off cap : Nat) (lf : List Rec) (hB : Bs < n₀) (hBC : Bs < C ∨ C + 3 ≤ Bs) (hg : lf ≠ [] → g < n₀ ∧ g < C) (hlen : lf.length ≤ 1000000000) (W : World)
    (ad : Option Addr) (had : lf ≠ [] → ad = some ⟨g, off, none⟩) (hbs : W.cell? ⟨Bs, 0, none⟩ = some (.slice ad lf.length cap)) (hat : lf ≠ [] → RWAt W g off lf) (J Jx : List (Nat × Rec) → World → Prop) (hJ : AbidesFrom W.heap.size J)
    (N : Nat) (hN : lf.length ≤ N)
    (hY : ∀ pre x W1, J pre W1 → pre.length < N → YieldAt Fence.wide 3 Tryz.prog l #[.int .i64 (x.1 : Int), .agg x.2.cells] W1 fun e W' => (e = .returned (.bool true) ∧ J (pre ++ [x]) W' ∧ Keep3 n₀ C W1 W') ∨ (e = .returned (.bool false) ∧ Jx (pre ++ [x]) W'))
    (h0 : J [] W) :
    CallsIn Fence.wide 4 Tryz.prog 118 #[.func (.yield l) #[] #[], .pointer (some ⟨Bs, 0, none⟩)] W fun e W' => (∃ v, e = .returned v) ∧
      ((∃ xs, xs.map Prod.snd = lf.reverse ∧ J xs W') ∨ (∃ pre, True ∧ Jx pre W')) := by
  refine callsIn_of_wp Tryz.func118 rfl trivial ?_ rfl
  simp only [Tryz.ntmps118, List.size_toArray, List.length_cons, List.length_nil, Nat.reduceAdd, Nat.reduceSub, Array.replicate_succ, Array.replicate_zero, List.push_toArray, List.append_toArray, List.nil_append, List.cons_append]
  gi_wp2
  gi_loopw [3] (fun i wr => ∃ (j : Nat) (pre : List (Nat × Rec)), i = .int .i64 ((j : Int) - 1) ∧ j ≤ lf.length ∧ pre.map Prod.snd = (lf.drop j).reverse ∧ J pre wr ∧ Keep3 n₀ C W wr) (fun i _ => (intOf i + 1).toNat)
  case atStart => exact ⟨lf.length, [], rfl, Nat.le_refl _, by simp, h0, Keep3.refl W⟩
  case round =>
    obtain ⟨j, pre, rfl, hj, hpre, hJs, hkc⟩ := hrel
    have hbr : wr.cell? ⟨Bs, 0, none⟩ = some (.slice ad lf.length cap) := (World.cell?_of_block (hkc.low Bs hB hBC)).trans hbs
    have hpl : pre.length = lf.length - j := by have := congrArg List.length hpre; simpa using this
    by_cases hj0 : j = 0
    · subst hj0
      have Hpre := Lib.hid hpre
      have Hkc := Lib.hid hkc
      clear hpre hkc hpl
      gi_wp2
      go_end0
      exact ⟨⟨_, rfl⟩, .inl ⟨pre, by simpa using Hpre.out, hJs⟩⟩
    · obtain ⟨k, rfl⟩ : ∃ k, j = k + 1 := ⟨j - 1, by omega⟩
      have hne : lf ≠ [] := by rintro rfl; simp at hj
      obtain ⟨s, hs⟩ : ∃ s, lf[k]? = some s := ⟨lf[k]'(by omega), by simp⟩
      have hadr := had hne
      subst hadr
      obtain ⟨q0, q1⟩ := (hat hne).kc (hg hne).1 (hg hne).2 hkc k s hs
      obtain ⟨fn, tmps, assign, body, hy, hR⟩ := hY pre (k, s) wr hJs (by omega)
      dsimp only at hy
      have hkI : ((k + 1 : Nat) : Int) - 1 = (k : Int) := by omega
      have hk1 : (k : Int) < (lf.length : Int) := by omega
      have hk0 : (0 : Int) ≤ (k : Int) := by omega
      have hnext : (pre ++ [(k, s)]).map Prod.snd = (lf.drop k).reverse := by
        have hkl : k < lf.length := by omega
        rw [List.map_append, hpre, List.drop_eq_getElem_cons hkl]
        have : lf[k] = s := by
          have := List.getElem?_eq_some_iff.1 hs
          exact this.2
        simp [this]
      have Hnext := Lib.hid hnext
      have Hkc := Lib.hid hkc
      rw [hkI]
      clear hkI hnext hpre hkc hpl hj0 hs
      gi_wp2
      refine hR.mono ?_
      clear hR hy q0 q1
      rintro e W3 (⟨rfl, hJ3, hk3⟩ | ⟨rfl, hJx3⟩)
      · have Hk3 := Lib.hid hk3
        clear hk3
        gi_wp2
        go_roundw
        case rel => exact ⟨k, pre ++ [(k, s)], by go_num, by omega, Hnext.out, hJ3, Hkc.out.trans Hk3.out⟩
        case measure => simp [intOf]
      · gi_wp2
        refine bodyPost_ret (results_none rfl _ _ _) rfl ?_
        exact ⟨⟨_, rfl⟩, .inr ⟨_, trivial, hJx3⟩⟩
theorem rback_stop (Bs n₀ C g off cap : Nat) (lf : List Rec) (hB : Bs < n₀) (hBC : Bs < C ∨ C + 3 ≤ Bs) (hg : lf ≠ [] → g < n₀ ∧ g < C) (hlen : lf.length ≤ 1000000000) (w0 : World) (hn0 : n₀ ≤ w0.heap.size)
    (ad : Option Addr) (had : lf ≠ [] → ad = some ⟨g, off, none⟩) (hbs : w0.cell? ⟨Bs, 0, none⟩ = some (.slice ad lf.length cap)) (hat : lf ≠ [] → RWAt w0 g off lf) :
    SeqStopsK Fence.wide 4 Tryz.prog 118 #[.pointer (some ⟨Bs, 0, none⟩)] (fun x : Nat × Rec => #[.int .i64 (x.1 : Int), .agg x.2.cells]) (Keep3 n₀ C) (fun xs => xs.map Prod.snd = lf.reverse) (fun _ => True) lf.length w0 := by
  intro l J Jx W hW hJ hJx hY h0
  exact rback_it l Bs n₀ C g off cap lf hB hBC hg hlen W ad had ((hW.cell (p := ⟨Bs, 0, none⟩) (by show Bs < _; omega)).trans hbs) (fun hne => (hat hne).below (by have := (hg hne).1; omega) hW) J Jx hJ lf.length (Nat.le_refl _) hY h0
end Go.Proofs.YtkhmdofeonlnpaaGreatDoor
