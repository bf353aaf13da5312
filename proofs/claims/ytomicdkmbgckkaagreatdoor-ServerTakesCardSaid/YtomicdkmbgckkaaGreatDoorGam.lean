/- HTTP: THE WALK OVER fail.Caught. -/
import Derived.Test.YtomicdkmbgckkaaGreatDoorGal
import Derived.Defers
import Derived.Recover
import Derived.Carry
import Derived.Handy
namespace Go.Proofs.YtomicdkmbgckkaaGreatDoor
open Go.RowKit
set_option maxRecDepth 100000
set_option linter.unusedVariables false
set_option linter.unusedSimpArgs false

theorem one_setCell {w : World} {g : Nat} {x u : Value} {t : TypeId} (h : w.heap[g]? = some (.cells #[x] t (0, 0))) : (w.setCell ⟨g, 0, none⟩ u).heap[g]? = some (.cells #[u] t (0, 0)) := heap_setCell_same w g 0 _ t u h
theorem cell_of_one {w : World} {g : Nat} {x : Value} {t : TypeId} (h : w.heap[g]? = some (.cells #[x] t (0, 0))) : w.cell? ⟨g, 0, none⟩ = some x := cell_of_row w g 0 _ t (0, 0) h
theorem free_of_one {w : World} {g : Nat} {x : Value} {t : TypeId} (h : w.heap[g]? = some (.cells #[x] t (0, 0))) : w.frozen? ⟨g, 0, none⟩ = false := frozen_of_row w g 0 _ t h
/-- how an operation ends: with its value, or with the error -/
def Ends (c : Int) (v : Value) (e : Ending) : Prop := (c = 0 ∧ e = .returned v) ∨ (c ≠ 0 ∧ e = pan c)
theorem catch_idle (p : Addr) (w : World) :
    CallsD Tryz.prog 48 #[.pointer (some p)] .returning w fun e u' w' => e = .returned (.tuple #[]) ∧ u' = .returning ∧ w' = w := by
  refine callsD_of_wpS Tryz.func48 rfl fun c₀ cs hu => ?_
  apply wpS_seq
  apply wpS_region
  simp [wpOpsS, go_sem, recoverD, hu, Tryz.ntmps48, Exit.thenS]
  apply wpS_seq
  apply wpS_seq
  apply wpS_region
  simp [wpOpsS, go_sem, Exit.thenS, Array.replicate]
  refine wpS_cond (t := true) (by simp [Act.eval]) ?_
  simp only [if_true]
  refine wpS_of_wp (wp_ret ?_)
  cases c₀
  simp_all [bodyPostS, results, Tryz.results48, Exit.thenS]

/-- Caught of a closure that returns -/
def CaughtOk (w : World) (R : World → Prop) (en : Ending) (w' : World) : Prop := en = .returned (.int .i64 0) ∧ ∃ w1, R w1 ∧ w1.heap[w.heap.size]? = some (.cells #[.int .i64 0] 28 (0, 0)) ∧ w' = w1.setCell ⟨w.heap.size, 0, none⟩ (.int .i64 0)
set_option maxRecDepth 100000 in
set_option maxHeartbeats 4000000 in
theorem caught_ok (w : World) (C : Nat) (cap : Array Value) (R : World → Prop) (hent : ∀ W, (callFunc C cap).run Tryz.prog W = .ok (.enter C cap) W)
    (hcl : Calls Tryz.prog C cap (w.alloc (.cells #[.int .i64 0] 28)) fun en w1 => en = .returned (.tuple #[]) ∧ w1.heap[w.heap.size]? = some (.cells #[.int .i64 0] 28 (0, 0)) ∧ R w1) :
    Calls Tryz.prog 27 #[.func (Fn.func C) #[] cap] w (CaughtOk w R) := by
  have hmf : ∀ (fn : Fn) (first cap : Array Value) (w : World), (Instr.makeFunc fn first cap).run Tryz.prog w = .ok (.func fn first cap) w := fun _ _ _ _ => rfl
  have Hc := Lib.hid hcl
  clear hcl
  go_enter_defers Tryz.func27, Tryz.ntmps27
  go_wp2_with fail
  refine (Hc.out).mono ?_
  rintro e w1 ⟨rfl, hw1, hR⟩
  have HR := Lib.hid hR
  have Hw1 := Lib.hid hw1
  have kc := cell_of_one hw1
  have kf := free_of_one hw1
  have k2 := cell_of_one (one_setCell (u := .int .i64 0) hw1)
  clear hR hw1
  go_wp2
  refine leaves_cons (f := 48) (args := #[.pointer (some ⟨w.heap.size, 0, none⟩)]) (by simp) (by simp [go_sem]) ?_
  refine (catch_idle _ _).mono ?_
  rintro e u' w'' ⟨rfl, rfl, rfl⟩
  simp [Leaves, settle, results, Tryz.results27, go_sem, k2]
  exact ⟨rfl, _, HR.out, Hw1.out, rfl⟩

theorem vcatch_pan (p : Addr) (x y : Int) (older : List PanicEntry) (w : World) (hc : w.cell? p = some (.int .i64 y)) (hz : w.frozen? p = false) :
    CallsD Tryz.prog 48 #[.pointer (some p)] (.panicking ({ v := .iface 28 (.int .i64 x), recovered := false } :: older)) w fun e u' w' =>
      e = .returned (.tuple #[]) ∧ u' = .panicking ({ v := .iface 28 (.int .i64 x), recovered := true } :: older) ∧ w' = w.setCell p (.int .i64 x) := by
  refine callsD_of_wpS Tryz.func48 rfl fun c₀ cs hu => ?_
  apply wpS_seq
  apply wpS_region
  simp [wpOpsS, go_sem, recoverD, hu, Tryz.ntmps48, Exit.thenS]
  apply wpS_seq
  apply wpS_seq
  apply wpS_region
  simp [wpOpsS, go_sem, Exit.thenS, Array.replicate]
  refine wpS_cond (t := false) (by simp [Act.eval]) ?_
  simp only [Bool.false_eq_true, if_false]
  refine wpS_of_wp (wp_skip ?_)
  simp only [Exit.thenS]
  have hta : ∀ W, (Instr.typeAssert (.iface 28 (.int .i64 x)) 20 28 true).run Tryz.prog W = .ok (.tuple #[.int .i64 x, .bool true]) W := fun W => by kernel_rfl
  refine wpS_of_wp ?_
  go_wp2
  cases c₀
  simp_all [bodyPostS, results, Tryz.results48, Exit.thenS]

/-- Caught of a check -/
def CaughtE (w : World) (R : World → Prop) (c : Int) (en : Ending) (w' : World) : Prop := en = .returned (.int .i64 c) ∧ ∃ w1, R w1 ∧ w1.heap[w.heap.size]? = some (.cells #[.int .i64 0] 28 (0, 0)) ∧ w' = w1.setCell ⟨w.heap.size, 0, none⟩ (.int .i64 c)
set_option maxRecDepth 100000 in
set_option maxHeartbeats 4000000 in
theorem caught_no (w : World) (C : Nat) (cap : Array Value) (R : World → Prop) (c : Int) (hent : ∀ W, (callFunc C cap).run Tryz.prog W = .ok (.enter C cap) W)
    (hcl : Calls Tryz.prog C cap (w.alloc (.cells #[.int .i64 0] 28)) fun en w1 => en = .panicked [{ v := .iface 28 (.int .i64 c), recovered := false }] ∧ w1.heap[w.heap.size]? = some (.cells #[.int .i64 0] 28 (0, 0)) ∧ R w1) :
    Calls Tryz.prog 27 #[.func (Fn.func C) #[] cap] w (CaughtE w R c) := by
  have hmf : ∀ (fn : Fn) (first cap : Array Value) (w : World), (Instr.makeFunc fn first cap).run Tryz.prog w = .ok (.func fn first cap) w := fun _ _ _ _ => rfl
  have Hc := Lib.hid hcl
  clear hcl
  go_enter_defers Tryz.func27, Tryz.ntmps27
  go_wp2_with fail
  refine (Hc.out).mono ?_
  rintro e w1 ⟨rfl, hw1, hR⟩
  have HR := Lib.hid hR
  have Hw1 := Lib.hid hw1
  have kc := cell_of_one hw1
  have kf := free_of_one hw1
  have k2 := cell_of_one (one_setCell (u := .int .i64 c) hw1)
  clear hR hw1
  go_wp2
  refine leaves_cons (f := 48) (args := #[.pointer (some ⟨w.heap.size, 0, none⟩)]) (by simp) (by simp [go_sem]) ?_
  refine (vcatch_pan _ c 0 [] _ kc kf).mono ?_
  rintro e u' w'' ⟨rfl, rfl, rfl⟩
  simp [Leaves, settle, results, Tryz.results27, go_sem, k2]
  exact ⟨rfl, _, HR.out, Hw1.out, rfl⟩
/-- Caught of what ends well, or with the error -/
theorem caught_any (w : World) (C : Nat) (cap : Array Value) (R : World → Prop) (c : Int) (hent : ∀ W, (callFunc C cap).run Tryz.prog W = .ok (.enter C cap) W)
    (hcl : Calls Tryz.prog C cap (w.alloc (.cells #[.int .i64 0] 28)) fun en w1 => Ends c (.tuple #[]) en ∧ w1.heap[w.heap.size]? = some (.cells #[.int .i64 0] 28 (0, 0)) ∧ R w1) :
    Calls Tryz.prog 27 #[.func (Fn.func C) #[] cap] w (CaughtE w R c) := by
  by_cases hc : c = 0
  · subst hc
    refine (caught_ok w C cap R hent (hcl.mono fun en w1 h => ?_)).mono fun en w' h => h
    obtain ⟨h1 | h1, h2, h3⟩ := h
    · exact ⟨h1.2, h2, h3⟩
    · exact absurd rfl h1.1
  · refine (caught_no w C cap R c hent (hcl.mono fun en w1 h => ?_)).mono fun en w' h => h
    obtain ⟨h1 | h1, h2, h3⟩ := h
    · exact absurd h1.1 hc
    · exact ⟨h1.2, h2, h3⟩
end Go.Proofs.YtomicdkmbgckkaaGreatDoor

/- HTTP: THE WALK OVER what ReadRequest does with a cursor. -/
namespace Go.Proofs.YtomicdkmbgckkaaGreatDoor
open Go.RowKit
set_option maxRecDepth 100000
set_option linter.unusedVariables false
set_option linter.unusedSimpArgs false

theorem H.head_val {t : H.T} {h : H.Hd} (e : H.head t = .ok h) : h.value.length ≤ t.length := by
  unfold H.head at e
  simp only at e
  split at e
  · injection e with e
    rw [← e]
    exact Nat.le_trans (trimS_len _ _) (cut_len t [58]).2
  · cases e
theorem H.headsF_ok : ∀ (n : Nat) (f : H.Fr) (l : H.T) (f' : H.Fr) (r : H.T), H.headsF n f l = .ok (f', r) → r.length < l.length ∧ (Short f → Short f')
  | 0, f, l, f', r, h => by cases h
  | n + 1, f, l, f', r, h => by
    simp only [H.headsF] at h
    cases hl : H.line l with
    | error e => rw [hl] at h; cases h
    | ok p =>
      obtain ⟨t, r1⟩ := p
      rw [hl] at h
      simp only at h
      have hlen := H.line_len hl
      split at h
      · injection h with h
        injection h with h1 h2
        subst h1 h2
        exact ⟨hlen.2.1, id⟩
      · cases hd : H.head t with
        | error e => rw [hd] at h; cases h
        | ok hh =>
          rw [hd] at h
          simp only at h
          cases ha : H.addHead f hh with
          | error e => rw [ha] at h; cases h
          | ok f2 =>
            rw [ha] at h
            simp only at h
            have ih := H.headsF_ok n f2 r1 f' r h
            have hv := H.head_val hd
            refine ⟨by omega, fun hs => ih.2 ?_⟩
            unfold H.addHead at ha
            split at ha
            · injection ha with ha
              rw [← ha]
              refine ⟨fun s hm => ?_, hs.2⟩
              simp only [List.mem_append, List.mem_singleton] at hm
              rcases hm with hm | hm
              · exact hs.1 s hm
              · rw [hm]; omega
            · split at ha
              · injection ha with ha
                rw [← ha]
                refine ⟨hs.1, fun s hm => ?_⟩
                simp only [List.mem_append, List.mem_singleton] at hm
                rcases hm with hm | hm
                · exact hs.2 s hm
                · rw [hm]; omega
              · split at ha
                · injection ha with ha
                  rw [← ha]
                  exact hs
                · cases ha
theorem H.heads_ok {l r : H.T} {f : H.Fr} (h : H.heads l = .ok (f, r)) : r.length < l.length ∧ Short f :=
  have := H.headsF_ok _ _ _ _ _ h
  ⟨this.1, this.2 ⟨by simp, by simp⟩⟩
theorem H.requestLine_len {l r : H.T} {p : H.T × H.T} (h : H.requestLine l = .ok (p, r)) : r.length < l.length := by
  unfold H.requestLine at h
  cases hl : H.line l with
  | error e => rw [hl] at h; cases h
  | ok q =>
    obtain ⟨t, r1⟩ := q
    rw [hl] at h
    simp only at h
    split at h
    · injection h with h; injection h with _ h; rw [← h]; exact (H.line_len hl).2.1
    · cases h
theorem H.statusLine_len {l r : H.T} {n : Nat} (h : H.statusLine l = .ok (n, r)) : r.length < l.length := by
  unfold H.statusLine at h
  cases hl : H.line l with
  | error e => rw [hl] at h; cases h
  | ok q =>
    obtain ⟨t, r1⟩ := q
    rw [hl] at h
    simp only at h
    split at h
    · split at h
      · cases h
      · split at h
        · injection h with h; injection h with _ h; rw [← h]; exact (H.line_len hl).2.1
        · cases h
    · cases h
theorem row_base {w : World} {B B' : Nat} {e : TypeId} {size : Nat} {v : Value} {n : Nat} {xs : List Value} (h : w.ownsRow B e size v n xs) (hb : B' ≤ B) : w.ownsRow B' e size v n xs := by
  refine ⟨h.1, ?_⟩
  rcases h.2 with h2 | ⟨g, cap, cur, hv, hbg, hr⟩
  · exact .inl h2
  · exact .inr ⟨g, cap, cur, hv, Nat.le_trans hb hbg, hr⟩
/-- the cells of a request, of a response -/
def qcells (m t : H.T) (v : Value) (b : H.T) : Array Value := #[S m, S t, v, S b]
def scells (n : Nat) (v : Value) (b : H.T) : Array Value := #[.int .i64 (n : Int), v, S b]
/-- two blocks may be turned -/
structure Two (w w' : World) (g k : Nat) : Prop where
  os : w'.os = w.os
  tape : w'.tape = w.tape
  output : w'.output = w.output
  size : w.heap.size ≤ w'.heap.size
  block : ∀ j, j < w.heap.size → j ≠ g → j ≠ k → w'.heap[j]? = w.heap[j]?
theorem Two.of {w w' : World} {g k : Nat} (h : w.grownBy w' (some g)) : Two w w' g k := ⟨h.os, h.tape, h.output, h.size, fun j hj h1 _ => h.block j hj (fun e => h1 (by injection e))⟩
/-- how the closure ends -/
def Did {α : Type} (w : World) (g k : Nat) (most : Int) (r : H.R α) (V : α → World → Prop) (e : Ending) (w' : World) : Prop :=
  match r with
    | .ok (a, l) => Two w w' g k ∧ e = .returned (.tuple #[]) ∧ V a w' ∧ Crs w' g l most
    | .error c => w.grownBy w' (some g) ∧ e = pan c
theorem box4 {w : World} {g : Nat} {x0 x1 x2 x3 : Value} {t : TypeId} (h : w.heap[g]? = some (.cells #[x0, x1, x2, x3] t (0, 0))) : w.cell? ⟨g, 0, none⟩ = some x0 ∧ w.cell? ⟨g, 1, none⟩ = some x1 ∧ w.cell? ⟨g, 2, none⟩ = some x2 ∧ w.cell? ⟨g, 3, none⟩ = some x3 :=
  ⟨cell_of_row w g 0 _ t (0, 0) h, cell_of_row w g 1 _ t (0, 0) h, cell_of_row w g 2 _ t (0, 0) h, cell_of_row w g 3 _ t (0, 0) h⟩
theorem frz4 {w : World} {g : Nat} {x0 x1 x2 x3 : Value} {t : TypeId} (h : w.heap[g]? = some (.cells #[x0, x1, x2, x3] t (0, 0))) : w.frozen? ⟨g, 0, none⟩ = false ∧ w.frozen? ⟨g, 1, none⟩ = false ∧ w.frozen? ⟨g, 2, none⟩ = false ∧ w.frozen? ⟨g, 3, none⟩ = false :=
  ⟨frozen_of_row w g 0 _ t h, frozen_of_row w g 1 _ t h, frozen_of_row w g 2 _ t h, frozen_of_row w g 3 _ t h⟩
theorem set_grown1 (w : World) (g i : Nat) (v : Value) : w.grownBy (w.setCell ⟨g, i, none⟩ v) (some g) :=
  ⟨rfl, rfl, rfl, by simp [World.setCell], fun k _ hk => Below.heap_setCell w ⟨g, i, none⟩ v k (fun e => hk (by rw [e]))⟩
theorem put4 {W : World} {k : Nat} {x0 x1 x2 x3 : Value} {t : TypeId} (h : W.heap[k]? = some (.cells #[x0, x1, x2, x3] t (0, 0))) (v0 v1 v2 v3 : Value) {V : World} (hV : V = (((W.setCell ⟨k, 0, none⟩ v0).setCell ⟨k, 1, none⟩ v1).setCell ⟨k, 2, none⟩ v2).setCell ⟨k, 3, none⟩ v3) :
    V.heap[k]? = some (.cells #[v0, v1, v2, v3] t (0, 0)) ∧ W.grownBy V (some k) := by
  refine ⟨?_, ?_⟩
  · rw [hV]
    exact heap_setCell_same _ k 3 _ t _ (heap_setCell_same _ k 2 _ t _ (heap_setCell_same _ k 1 _ t _ (heap_setCell_same W k 0 _ t _ h)))
  · rw [hV]
    exact (((set_grown1 W k 0 v0).trans (set_grown1 _ k 1 v1)).trans (set_grown1 _ k 2 v2)).trans (set_grown1 _ k 3 v3)
end Go.Proofs.YtomicdkmbgckkaaGreatDoor

/- HTTP: THE WALK OVER what ReadRequest does with a cursor. -/
namespace Go.Proofs.YtomicdkmbgckkaaGreatDoor
open Go.RowKit
set_option maxRecDepth 100000
set_option linter.unusedVariables false
set_option linter.unusedSimpArgs false

/-- a request in a box -/
def QAt (w : World) (B k : Nat) (q : H.Rq) : Prop := ∃ v, w.heap[k]? = some (.cells (qcells q.method q.target v q.body) 50 (0, 0)) ∧ HRow w B v q.hs
set_option maxHeartbeats 4000000 in
theorem req_any (w : World) (g k : Nat) (l : H.T) (most : Int) (hc : Crs w g l most) (hl : l.length ≤ 149533581377000) (hT : Tabs w) (h8 : 8 ≤ g) (hm : H.okMost most) (hk : w.heap[k]? = some (.cells #[S [], S [], .slice none 0 0, S []] 50 (0, 0))) (hgk : g ≠ k) :
    Calls Tryz.prog 20 #[.pointer (some ⟨g, 0, none⟩), .pointer (some ⟨k, 0, none⟩)] w (Did w g k most (H.reqR most l) fun q w' => QAt w' w.heap.size k q) := by
  have hgl := hc.lt
  have hkl := blk_lt hk
  have HK := Lib.hid hk
  have HT := Lib.hid hT
  have Hm := Lib.hid hm
  obtain ⟨RR, hRR⟩ : ∃ R, H.reqR most l = R := ⟨_, rfl⟩
  rw [hRR]
  have HR := Lib.hid hRR
  clear hRR
  have h27 := requestLine_any w g l most hc (by omega) hT h8
  clear hc hT hk hm
  cases hr : H.requestLine l with
  | error c =>
    have e1 : RR = .error c := by rw [← HR.out]; unfold H.reqR; rw [hr]
    subst e1
    rw [hr] at h27
    go_enter Tryz.func20, Tryz.ntmps20
    go_wp2_with (refine h27.mono ?_; rintro e w1 ⟨hg, rfl⟩)
    exact ⟨rfl, hg, rfl⟩
  | ok p =>
    obtain ⟨⟨mt, tg⟩, r⟩ := p
    have hlen := H.requestLine_len hr
    have e1 : RR = match H.heads r with | .error e => .error e | .ok (f, r') => match H.body most f r' with | .error e => .error e | .ok (b, r'') => .ok (⟨mt, tg, f.hs, b⟩, r'') := by
      rw [← HR.out]; unfold H.reqR; rw [hr]
      simp only
      rcases H.heads r with e | ⟨f, r'⟩
      · rfl
      · simp only
        rcases H.body most f r' with e | ⟨b, r''⟩ <;> rfl
    have HE := Lib.hid e1
    clear e1 HR
    rw [hr] at h27
    go_enter Tryz.func20, Tryz.ntmps20
    go_wp2_with fail
    refine h27.mono ?_
    rintro e w1 ⟨hg, x, rfl, rfl, hc1⟩
    have HG1 := Lib.hid hg
    have HC1 := Lib.hid hc1
    have HT1 := Lib.hid (HT.out.grown hg h8 hgl)
    have HK1 := Lib.hid ((hg.block k hkl (fun e => hgk (by injection e with e; exact e.symm))).trans HK.out)
    have hz1 := hg.size
    clear hg hc1 h27 hr HT HK
    have h28 := heads_any w1 g r most HC1.out (by omega) HT1.out h8
    cases hh : H.heads r with
    | error c =>
      rw [hh] at h28
      have e1 := HE.out
      rw [hh] at e1
      simp only at e1
      subst e1
      go_wp2_with (refine h28.mono ?_; rintro e w2 ⟨hg2, rfl⟩)
      exact ⟨rfl, (HG1.out.trans hg2), rfl⟩
    | ok p =>
      obtain ⟨f, r2⟩ := p
      have hho := H.heads_ok hh
      rw [hh] at h28
      go_wp2_with fail
      refine h28.mono ?_
      rintro e w2 ⟨hg2, x, rfl, ⟨v, lv, cv, rfl, rv, rl, rc⟩, hc2⟩
      have hgl1 : g < w1.heap.size := by omega
      have HG2 := Lib.hid (HG1.out.trans hg2)
      have HC2 := Lib.hid hc2
      have HT2 := Lib.hid (HT1.out.grown hg2 h8 hgl1)
      have HK2 := Lib.hid ((hg2.block k (by omega) (fun e => hgk (by injection e with e; exact e.symm))).trans HK1.out)
      have HV := Lib.hid rv
      have HL := Lib.hid rl
      have HCd := Lib.hid rc
      have hz2 := hg2.size
      clear hg2 hc2 rv rl rc h28 HG1 HC1 HT1 HK1
      obtain ⟨adl, capl, rfl⟩ := row_form HL.out
      obtain ⟨adc, capc, rfl⟩ := row_form HCd.out
      obtain ⟨W, hW⟩ : ∃ W, W = w2.alloc (.cells #[.slice adl f.lens.length capl, .slice adc f.cods.length capc] 65) := ⟨_, rfl⟩
      have hbW : Below w2.heap.size w2 W := by rw [hW]; exact (Below.refl _ w2).alloc (Nat.le_refl _) _
      have HF := Lib.hid (show W.heap[w2.heap.size]? = some (.cells #[.slice adl f.lens.length capl, .slice adc f.cods.length capc] 65 (0, 0)) from by rw [hW]; exact blk_new w2 _)
      have HG3 := Lib.hid (HG2.out.trans (below_grown hbW (some g)))
      have HC3 := Lib.hid (HC2.out.under hbW)
      have HT3 := Lib.hid (HT2.out.under hbW)
      have HK3 := Lib.hid (blk_under HK2.out hbW)
      have HV3 := Lib.hid (show HRow W (w1.heap.size + 4) v f.hs from row_below HV.out hbW)
      have HL3 := Lib.hid (show TRow W (w1.heap.size + 4) _ f.lens from row_below HL.out hbW)
      have HC3' := Lib.hid (show TRow W (w1.heap.size + 4) _ f.cods from row_below HCd.out hbW)
      have hz3 := hbW.size
      clear hbW HG2 HC2 HT2 HK2 HV HL HCd
      go_upto_region 2 with (fail)
      rw [← hW]
      clear hW
      obtain ⟨c0, c1⟩ := box2 HF.out
      have hlf := blk_lt HF.out
      have h29 := body_any W g r2 most HC3.out (by omega) HT3.out h8 Hm.out f _ _ _ HL3.out HC3'.out hho.2
      cases hb : H.body most f r2 with
      | error c =>
        rw [hb] at h29
        have e1 := HE.out
        rw [hh] at e1
        simp only [hb] at e1
        subst e1
        go_wp2_with (refine h29.mono ?_; rintro e w4 ⟨hg4, rfl⟩)
        exact ⟨rfl, (HG3.out.trans hg4), rfl⟩
      | ok p =>
        obtain ⟨bd, r3⟩ := p
        rw [hb] at h29
        have e1 := HE.out
        rw [hh] at e1
        simp only [hb] at e1
        subst e1
        go_wp2_with fail
        refine h29.mono ?_
        rintro e w4 ⟨hg4, x, rfl, rfl, hc4⟩
        have hgl3 : g < W.heap.size := by omega
        have HG4 := Lib.hid (HG3.out.trans hg4)
        have HC4 := Lib.hid hc4
        have HK4 := Lib.hid ((hg4.block k (by omega) (fun e => hgk (by injection e with e; exact e.symm))).trans HK3.out)
        have HV4 := Lib.hid (show HRow w4 (w1.heap.size + 4) v f.hs from row_far HV3.out hg4 (by omega))
        have hz4 := hg4.size
        clear hg4 hc4 h29 HG3 HC3 HT3 HK3 HV3 HL3 HC3' HF c0 c1 hlf
        obtain ⟨adv, capv, rfl⟩ := row_form HV4.out
        obtain ⟨q0, q1, q2, q3⟩ := box4 HK4.out
        obtain ⟨y0, y1, y2, y3⟩ := frz4 HK4.out
        have hlk := blk_lt HK4.out
        go_wp2
        obtain ⟨V, hV⟩ : ∃ V, V = (((w4.setCell ⟨k, 0, none⟩ (S mt)).setCell ⟨k, 1, none⟩ (S tg)).setCell ⟨k, 2, none⟩ (.slice adv f.hs.length capv)).setCell ⟨k, 3, none⟩ (S bd) := ⟨_, rfl⟩
        rw [← hV]
        obtain ⟨hkV, hgV⟩ := put4 HK4.out _ _ _ _ hV
        clear hV q0 q1 q2 q3 y0 y1 y2 y3
        go_end0
        have hzV := hgV.size
        refine ⟨⟨hgV.os.trans HG4.out.os, hgV.tape.trans HG4.out.tape, hgV.output.trans HG4.out.output, by omega, fun j hj h1 h2 => (hgV.block j (by omega) (fun e => h2 (by injection e))).trans (HG4.out.block j hj (fun e => h1 (by injection e)))⟩, rfl, ⟨_, hkV, ?_⟩, ?_⟩
        · exact row_base (row_far HV4.out hgV (by omega)) (by omega)
        · exact (hgV.block g (by omega) (fun e => hgk (by injection e))).trans HC4.out
end Go.Proofs.YtomicdkmbgckkaaGreatDoor

/- HTTP: THE WALKS OVER read, ReadRequest. -/
namespace Go.Proofs.YtomicdkmbgckkaaGreatDoor
open Go.RowKit
set_option maxRecDepth 100000
set_option linter.unusedVariables false
set_option linter.unusedSimpArgs false

def H.readR {α : Type} (most : Int) (r : H.R α) (l : H.T) : Except Int (α × Nat) :=
  if H.okMost most then match r with
    | .ok (a, l') => .ok (a, l.length - l'.length)
    | .error c => .error c
  else .error 2
/-- what the closure of read answers -/
def Inn {α : Type} (w : World) (k zb : Nat) (r : Except Int (α × Nat)) (V : α → World → Prop) (e : Ending) (w' : World) : Prop :=
  match r with
    | .ok (a, n) => Two w w' k zb ∧ e = .returned (.tuple #[]) ∧ V a w' ∧ w'.heap[zb]? = some (.cells #[.int .i64 (n : Int)] 3 (0, 0))
    | .error c => Below w.heap.size w w' ∧ e = pan c
set_option maxHeartbeats 4000000 in
theorem inner_any {α : Type} (w : World) (l : H.T) (most : Int) (hmo : -9223372036854775808 ≤ most ∧ most ≤ 9223372036854775807) (C : Nat) (cap : Array Value) (mb sb db zb k : Nat) (r : H.R α) (V : α → World → Prop) (hl : l.length ≤ 149533581377000)
    (hs : w.heap[sb]? = some (.cells #[S l] 9 (0, 0))) (hm : w.heap[mb]? = some (.cells #[.int .i64 most] 3 (0, 0))) (hd : w.heap[db]? = some (.cells #[.func (.func C) #[] cap] 69 (0, 0))) (hz : w.heap[zb]? = some (.cells #[.int .i64 0] 3 (0, 0)))
    (h1 : sb ≠ zb ∧ sb ≠ k) (h2 : k ≠ zb) (hkl : k < w.heap.size) (hlen : ∀ a r', r = .ok (a, r') → r'.length ≤ l.length)
    (hent : ∀ args W, (callFunc C args).run Tryz.prog W = .ok (.enter C args) W)
    (hdo : ∀ W, Below w.heap.size w W → Crs W w.heap.size l most → H.okMost most → Calls Tryz.prog C (#[.pointer (some ⟨w.heap.size, 0, none⟩)] ++ cap) W (Did W w.heap.size k most r V))
    (hV : ∀ a W W', V a W → Two W W' zb zb → W.heap.size ≤ W'.heap.size → V a W') :
    Calls Tryz.prog 28 #[.pointer (some ⟨mb, 0, none⟩), .pointer (some ⟨sb, 0, none⟩), .pointer (some ⟨db, 0, none⟩), .pointer (some ⟨zb, 0, none⟩)] w (Inn w k zb (H.readR most r l) V) := by
  obtain ⟨RR, hRR⟩ : ∃ R, H.readR most r l = R := ⟨_, rfl⟩
  rw [hRR]
  have HR := Lib.hid hRR
  clear hRR
  have cm := cell_of_one hm
  have cs := cell_of_one hs
  have cd := cell_of_one hd
  have hlm := blk_lt hm
  have hls := blk_lt hs
  have hld := blk_lt hd
  have hlz := blk_lt hz
  by_cases hok : H.okMost most
  · obtain ⟨X, hX⟩ : ∃ X, X = w.alloc (.cells #[S l, .int .i64 most] 83) := ⟨_, rfl⟩
    have hbX : Below w.heap.size w X := by rw [hX]; exact (Below.refl _ w).alloc (Nat.le_refl _) _
    have hcX : Crs X w.heap.size l most := by rw [hX]; exact blk_new w _
    have hsz : X.heap.size = w.heap.size + 1 := by rw [hX]; simp
    have hcall := hdo X hbX hcX hok
    have HS := Lib.hid (blk_under hs hbX)
    have HZ := Lib.hid (blk_under hz hbX)
    have HbX := Lib.hid hbX
    have hm0 := hok.1
    have hm1 := hok.2
    have cd2 := cell_of_one (blk_under hd hbX)
    clear hs hm hz hd hdo
    cases hr : r with
    | error c =>
      have e1 : RR = .error c := by rw [← HR.out, hr]; unfold H.readR; rw [if_pos hok]
      subst e1
      rw [hr] at hcall
      clear hok hr HR
      go_enter Tryz.func28, Tryz.ntmps28
      go_upto_region 2 with (go_at_call 29; with_reducible refine (unless_yes _ _).mono ?_; rintro e w2 ⟨rfl, rfl⟩)
      rw [← hX]
      clear hX
      go_wp2_with fail
      refine hcall.mono ?_
      rintro e w3 ⟨hg3, rfl⟩
      go_wp2
      exact ⟨rfl, ⟨hg3.os.trans HbX.out.os, hg3.tape.trans HbX.out.tape, hg3.output.trans HbX.out.output, Nat.le_trans HbX.out.size hg3.size, fun j hj => (hg3.block j (by omega) (fun e => by injection e with e; omega)).trans (HbX.out.block j hj)⟩, rfl⟩
    | ok p =>
      obtain ⟨a, l'⟩ := p
      have e1 : RR = .ok (a, l.length - l'.length) := by rw [← HR.out, hr]; unfold H.readR; rw [if_pos hok]
      subst e1
      have hll := hlen a l' hr
      rw [hr] at hcall
      clear hok hr HR hlen
      go_enter Tryz.func28, Tryz.ntmps28
      go_upto_region 2 with (go_at_call 29; with_reducible refine (unless_yes _ _).mono ?_; rintro e w2 ⟨rfl, rfl⟩)
      rw [← hX]
      clear hX
      go_wp2_with fail
      refine hcall.mono ?_
      rintro e w3 ⟨ht, rfl, hv, hc3⟩
      have hz3 := ht.size
      have HZ3 := Lib.hid ((ht.block zb (by omega) (by omega) (by omega)).trans HZ.out)
      have HS3 := (ht.block sb (by omega) (by omega) (by omega)).trans HS.out
      have cs3 := cell_of_one HS3
      have cz3 := cell_of_one HZ3.out
      have fz3 := free_of_one HZ3.out
      have c3 := hc3.c0
      have hlg := hc3.lt
      have hls3 : sb < w3.heap.size := by omega
      have hlz3 : zb < w3.heap.size := by omega
      obtain ⟨n, hn⟩ : ∃ n, l.length - l'.length = n := ⟨_, rfl⟩
      have hn1 : ((l.length : Nat) : Int) - ((l'.length : Nat) : Int) = (n : Int) := by omega
      have hw : IntKind.i64.wrap (((l.length : Nat) : Int) - ((l'.length : Nat) : Int)) = (n : Int) := by rw [hn1, IntKind.wrap_i64]; omega
      have HV3 := Lib.hid hv
      have HT3 := Lib.hid ht
      have Hn := Lib.hid hn
      clear hv ht hc3 HS3 cm cs cd cd2 hn
      go_wp2
      obtain ⟨V3, hV3⟩ : ∃ V3, V3 = w3.setCell ⟨zb, 0, none⟩ (.int .i64 (n : Int)) := ⟨_, rfl⟩
      rw [← hV3]
      have hgV : w3.grownBy V3 (some zb) := by rw [hV3]; exact set_grown1 w3 zb 0 _
      have hkV : V3.heap[zb]? = some (.cells #[.int .i64 (n : Int)] 3 (0, 0)) := by rw [hV3]; exact one_setCell HZ3.out
      clear hV3
      go_end0
      refine ⟨⟨hgV.os.trans (HT3.out.os.trans HbX.out.os), hgV.tape.trans (HT3.out.tape.trans HbX.out.tape), hgV.output.trans (HT3.out.output.trans HbX.out.output), by have := hgV.size; have := HbX.out.size; omega, fun j hj a1 a2 => (hgV.block j (by omega) (fun e => a2 (by injection e))).trans ((HT3.out.block j (by omega) (by omega) a1).trans (HbX.out.block j hj))⟩, rfl, hV a w3 V3 HV3.out (Two.of hgV) hgV.size, by rw [hkV, ← Hn.out]⟩
  · have e1 : RR = .error 2 := by rw [← HR.out]; unfold H.readR; rw [if_neg hok]
    subst e1
    by_cases hm0 : 0 ≤ most
    · have hm1 : ¬ most ≤ 65536 := fun h => hok ⟨hm0, h⟩
      have Hq := Lib.hid (show decide (most ≤ 65536) = false from by simpa using hm1)
      go_enter Tryz.func28, Tryz.ntmps28
      go_wp2_with (go_at_call 29; first | (with_reducible refine (unless_no _ _).mono ?_; rintro e w2 ⟨rfl, rfl⟩) | (rw [Hq.out]; with_reducible refine (unless_no _ _).mono ?_; rintro e w2 ⟨rfl, rfl⟩))
      exact ⟨rfl, Below.refl _ _, rfl⟩
    · go_enter Tryz.func28, Tryz.ntmps28
      go_wp2_with (go_at_call 29; with_reducible refine (unless_no _ _).mono ?_; rintro e w2 ⟨rfl, rfl⟩)
      exact ⟨rfl, Below.refl _ _, rfl⟩
end Go.Proofs.YtomicdkmbgckkaaGreatDoor

/- HTTP: NO ERROR THAT IS READ IS NONE. -/
namespace Go.Proofs.YtomicdkmbgckkaaGreatDoor
set_option linter.unusedVariables false
set_option linter.unusedSimpArgs false
namespace H
theorem line_ne {l : T} {c : Int} (h : line l = .error c) : c ≠ 0 := by
  unfold line at h
  simp only at h
  split at h
  · injection h with h; omega
  · split at h
    · injection h with h; omega
    · split at h
      · cases h
      · injection h with h; omega
theorem head_ne {t : T} {c : Int} (h : head t = .error c) : c ≠ 0 := by
  unfold head at h
  simp only at h
  split at h
  · cases h
  · injection h with h; omega
theorem addHead_ne {f : Fr} {x : Hd} {c : Int} (h : addHead f x = .error c) : c ≠ 0 := by
  unfold addHead at h
  split at h
  · cases h
  · split at h
    · cases h
    · split at h
      · cases h
      · injection h with h; omega
theorem headsF_ne : ∀ (n : Nat) (f : Fr) (l : T) (c : Int), l.length < n → headsF n f l = .error c → c ≠ 0
  | 0, _, _, _, h, _ => by omega
  | n + 1, f, l, c, hl, h => by
    simp only [headsF] at h
    cases h1 : line l with
    | error e => rw [h1] at h; injection h with h; rw [← h]; exact line_ne h1
    | ok p =>
      obtain ⟨t, r⟩ := p
      rw [h1] at h
      simp only at h
      have hlen := line_len h1
      split at h
      · cases h
      · cases h2 : head t with
        | error e => rw [h2] at h; injection h with h; rw [← h]; exact head_ne h2
        | ok x =>
          rw [h2] at h
          simp only at h
          cases h3 : addHead f x with
          | error e => rw [h3] at h; injection h with h; rw [← h]; exact addHead_ne h3
          | ok f' => rw [h3] at h; exact headsF_ne n f' r c (by omega) h
theorem heads_ne {l : T} {c : Int} (h : heads l = .error c) : c ≠ 0 := headsF_ne _ _ _ _ (by omega) h
theorem wholeO_ne {o : Option Nat} {s : T} {d : Nat} {c : Int} (h : wholeO o s d = .error c) : c ≠ 0 := by
  unfold wholeO at h
  split at h
  · cases o with
    | none => injection h with h; omega
    | some n => cases h
  · injection h with h; omega
theorem requestLine_ne {l : T} {c : Int} (h : requestLine l = .error c) : c ≠ 0 := by
  unfold requestLine at h
  cases h1 : line l with
  | error e => rw [h1] at h; injection h with h; rw [← h]; exact line_ne h1
  | ok p =>
    obtain ⟨t, r⟩ := p
    rw [h1] at h
    simp only at h
    split at h
    · cases h
    · injection h with h; omega
theorem statusLine_ne {l : T} {c : Int} (h : statusLine l = .error c) : c ≠ 0 := by
  unfold statusLine at h
  cases h1 : line l with
  | error e => rw [h1] at h; injection h with h; rw [← h]; exact line_ne h1
  | ok p =>
    obtain ⟨t, r⟩ := p
    rw [h1] at h
    simp only at h
    split at h
    · split at h
      · rename_i e h2; injection h with h; rw [← h]; exact wholeO_ne h2
      · split at h
        · cases h
        · injection h with h; omega
    · injection h with h; omega
theorem part_ne {most : Int} {n a : Nat} {l : T} {c : Int} (h : part most n a l = .error c) : c ≠ 0 := by
  unfold part at h
  split at h
  · injection h with h; omega
  · split at h
    · injection h with h; omega
    · cases h
theorem chunkSize_ne {l : T} {c : Int} (h : chunkSize l = .error c) : c ≠ 0 := by
  unfold chunkSize at h
  cases h1 : line l with
  | error e => rw [h1] at h; injection h with h; rw [← h]; exact line_ne h1
  | ok p =>
    obtain ⟨t, r⟩ := p
    rw [h1] at h
    simp only at h
    split at h
    · rename_i e h2; injection h with h; rw [← h]; exact wholeO_ne h2
    · cases h
theorem end_ne {l : T} {c : Int} (h : endR l = .error c) : c ≠ 0 := by
  match l, h with
  | [], h => injection h with h; omega
  | [a], h => simp only [endR] at h; split at h <;> (injection h with h; omega)
  | a :: b :: u, h =>
    simp only [endR] at h
    split at h
    · split at h
      · cases h
      · injection h with h; omega
    · injection h with h; omega
theorem part_len {most : Int} {n a : Nat} {l p r : T} (h : part most n a l = .ok (p, r)) : r.length ≤ l.length := by
  unfold part at h
  split at h
  · cases h
  · split at h
    · cases h
    · injection h with h; injection h with _ h; rw [← h, List.length_drop]; omega
theorem chunksF_ne (most : Int) : ∀ (k : Nat) (acc l : T) (c : Int), l.length < k → chunksF most k acc l = .error c → c ≠ 0
  | 0, _, _, _, h, _ => by omega
  | k + 1, acc, l, c, hl, h => by
    simp only [chunksF] at h
    cases h1 : chunkSize l with
    | error e => rw [h1] at h; injection h with h; rw [← h]; exact chunkSize_ne h1
    | ok p =>
      obtain ⟨n, r⟩ := p
      have h1l := chunkSize_len h1
      rw [h1] at h
      simp only at h
      split at h
      · cases h2 : heads r with
        | error e => rw [h2] at h; injection h with h; rw [← h]; exact heads_ne h2
        | ok q => rw [h2] at h; cases h
      · cases h2 : part most n acc.length r with
        | error e => rw [h2] at h; injection h with h; rw [← h]; exact part_ne h2
        | ok q =>
          obtain ⟨pt, r2⟩ := q
          have h2l := part_len h2
          rw [h2] at h
          simp only at h
          cases h3 : endR r2 with
          | error e => rw [h3] at h; injection h with h; rw [← h]; exact end_ne h3
          | ok q =>
            obtain ⟨_, r3⟩ := q
            have h3l := end_len h3
            rw [h3] at h
            exact chunksF_ne most k _ r3 c (by omega) h
theorem chunksF_len (most : Int) : ∀ (k : Nat) (acc l b r : T), chunksF most k acc l = .ok (b, r) → r.length ≤ l.length
  | 0, _, _, _, _, h => by cases h
  | k + 1, acc, l, b, r0, h => by
    simp only [chunksF] at h
    cases h1 : chunkSize l with
    | error e => rw [h1] at h; cases h
    | ok p =>
      obtain ⟨n, r⟩ := p
      have h1l := chunkSize_len h1
      rw [h1] at h
      simp only at h
      split at h
      · cases h2 : heads r with
        | error e => rw [h2] at h; cases h
        | ok q =>
          obtain ⟨f, r2⟩ := q
          have h2l := heads_ok h2
          rw [h2] at h
          injection h with h
          injection h with _ h
          rw [← h]
          omega
      · cases h2 : part most n acc.length r with
        | error e => rw [h2] at h; cases h
        | ok q =>
          obtain ⟨pt, r2⟩ := q
          have h2l := part_len h2
          rw [h2] at h
          simp only at h
          cases h3 : endR r2 with
          | error e => rw [h3] at h; cases h
          | ok q =>
            obtain ⟨_, r3⟩ := q
            have h3l := end_len h3
            rw [h3] at h
            have := chunksF_len most k _ r3 b r0 h
            omega
theorem body_ne {most : Int} {f : Fr} {l : T} {c : Int} (h : body most f l = .error c) : c ≠ 0 := by
  unfold body at h
  split at h
  · split at h
    · exact chunksF_ne _ _ _ _ _ (by omega) h
    · injection h with h; omega
  · split at h
    · split at h
      · split at h
        · rename_i e h2; injection h with h; rw [← h]; exact wholeO_ne h2
        · exact part_ne h
      · injection h with h; omega
    · cases h
theorem body_len {most : Int} {f : Fr} {l b r : T} (h : body most f l = .ok (b, r)) : r.length ≤ l.length := by
  unfold body at h
  split at h
  · split at h
    · exact chunksF_len _ _ _ _ _ _ h
    · cases h
  · split at h
    · split at h
      · split at h
        · cases h
        · exact part_len h
      · cases h
    · injection h with h; injection h with _ h; rw [← h]; exact Nat.le_refl _
theorem reqR_ne {most : Int} {l : T} {c : Int} (h : reqR most l = .error c) : c ≠ 0 := by
  unfold reqR at h
  cases h1 : requestLine l with
  | error e => rw [h1] at h; injection h with h; rw [← h]; exact requestLine_ne h1
  | ok p =>
    obtain ⟨⟨m, t⟩, r⟩ := p
    rw [h1] at h
    simp only at h
    cases h2 : heads r with
    | error e => rw [h2] at h; injection h with h; rw [← h]; exact heads_ne h2
    | ok q =>
      obtain ⟨f, r2⟩ := q
      rw [h2] at h
      simp only at h
      cases h3 : body most f r2 with
      | error e => rw [h3] at h; injection h with h; rw [← h]; exact body_ne h3
      | ok q => rw [h3] at h; cases h
theorem reqR_len {most : Int} {l r : T} {q : Rq} (h : reqR most l = .ok (q, r)) : r.length < l.length := by
  unfold reqR at h
  cases h1 : requestLine l with
  | error e => rw [h1] at h; cases h
  | ok p =>
    obtain ⟨⟨m, t⟩, r1⟩ := p
    have hl1 := requestLine_len h1
    rw [h1] at h
    simp only at h
    cases h2 : heads r1 with
    | error e => rw [h2] at h; cases h
    | ok q =>
      obtain ⟨f, r2⟩ := q
      have hl2 := heads_ok h2
      rw [h2] at h
      simp only at h
      cases h3 : body most f r2 with
      | error e => rw [h3] at h; cases h
      | ok q =>
        obtain ⟨b, r3⟩ := q
        have hl3 := body_len h3
        rw [h3] at h
        injection h with h
        injection h with _ h
        rw [← h]
        omega
end H
end Go.Proofs.YtomicdkmbgckkaaGreatDoor

/- HTTP: THE WALKS OVER read, ReadRequest. -/
namespace Go.Proofs.YtomicdkmbgckkaaGreatDoor
open Go.RowKit
set_option maxRecDepth 100000
set_option linter.unusedVariables false
set_option linter.unusedSimpArgs false

theorem row_same {w w' : World} {B : Nat} {e : TypeId} {size : Nat} {v : Value} {n : Nat} {xs : List Value} (h : w.ownsRow B e size v n xs) (hs : ∀ j, j < w.heap.size → B ≤ j → w'.heap[j]? = w.heap[j]?) : w'.ownsRow B e size v n xs := by
  refine ⟨h.1, ?_⟩
  rcases h.2 with h2 | ⟨g, cap, cur, hv, hbg, hg, hr⟩
  · exact .inl h2
  · exact .inr ⟨g, cap, cur, hv, hbg, (hs g (blk_lt hg) hbg).trans hg, hr⟩
/-- what lies in one block and above a base stays -/
structure Stays {α : Type} (k : Nat) (V : Nat → α → World → Prop) : Prop where
  on : ∀ B a W W', V B a W → (∀ j, j < W.heap.size → (j = k ∨ B ≤ j) → W'.heap[j]? = W.heap[j]?) → W.heap.size ≤ W'.heap.size → V B a W'
  low : ∀ B B' a W, B' ≤ B → V B a W → V B' a W
theorem qat_stays (k : Nat) : Stays k (fun B q W => QAt W B k q) where
  on B q W W' h hs _ := by
    obtain ⟨v, h1, h2⟩ := h
    exact ⟨v, (hs k (blk_lt h1) (.inl rfl)).trans h1, row_same h2 (fun j hj hb => hs j hj (.inr hb))⟩
  low B B' q W hb h := by
    obtain ⟨v, h1, h2⟩ := h
    exact ⟨v, h1, row_base h2 hb⟩
def codeOf {β : Type} : Except Int β → Int
  | .ok _ => 0
  | .error c => c
set_option maxHeartbeats 4000000 in
theorem read_any {α : Type} (w : World) (l : H.T) (most : Int) (hmo : -9223372036854775808 ≤ most ∧ most ≤ 9223372036854775807) (C : Nat) (cap : Array Value) (k : Nat) (r : H.R α) (V : Nat → α → World → Prop) (hl : l.length ≤ 149533581377000)
    (hkl : k < w.heap.size) (hlen : ∀ a r', r = .ok (a, r') → r'.length ≤ l.length) (hne : ∀ c, r = .error c → c ≠ 0) (hV : Stays k V)
    (hdo : ∀ W g, Below w.heap.size w W → w.heap.size ≤ g → g ≠ k → Crs W g l most → H.okMost most → Calls Tryz.prog C (#[.pointer (some ⟨g, 0, none⟩)] ++ cap) W (Did W g k most r (V W.heap.size)))
    (hent : ∀ args W, (callFunc C args).run Tryz.prog W = .ok (.enter C args) W) :
    Calls Tryz.prog 19 #[S l, .int .i64 most, .func (.func C) #[] cap] w fun e w' => match H.readR most r l with
      | .ok (a, n) => Two w w' k k ∧ e = .returned (.tuple #[.int .i64 (n : Int), .int .i64 0]) ∧ ∃ B, w.heap.size ≤ B ∧ V B a w'
      | .error c => Below w.heap.size w w' ∧ e = .returned (.tuple #[.int .i64 0, .int .i64 c]) := by
  obtain ⟨X, hX⟩ : ∃ X, X = (((w.alloc (.cells #[S l] 9)).alloc (.cells #[.int .i64 most] 3)).alloc (.cells #[.func (.func C) #[] cap] 69)).alloc (.cells #[.int .i64 0] 3) := ⟨_, rfl⟩
  have hbX : Below w.heap.size w X := by rw [hX]; exact ((((Below.refl _ w).alloc (Nat.le_refl _) _).alloc (by simp) _).alloc (by simp; omega) _).alloc (by simp; omega) _
  have hsz : X.heap.size = w.heap.size + 4 := by rw [hX]; simp
  have h0 : X.heap[w.heap.size]? = some (.cells #[S l] 9 (0, 0)) := by rw [hX]; exact blk_alloc (blk_alloc (blk_alloc (blk_new w _) _) _) _
  have h1 : X.heap[w.heap.size + 1]? = some (.cells #[.int .i64 most] 3 (0, 0)) := by rw [hX]; exact blk_alloc (blk_alloc (blk_at (by simp)) _) _
  have h2 : X.heap[w.heap.size + 1 + 1]? = some (.cells #[.func (.func C) #[] cap] 69 (0, 0)) := by rw [hX]; exact blk_alloc (blk_at (by simp)) _
  have h3 : X.heap[w.heap.size + 1 + 1 + 1]? = some (.cells #[.int .i64 0] 3 (0, 0)) := by rw [hX]; exact blk_at (by simp)
  obtain ⟨Y, hY⟩ : ∃ Y, Y = X.alloc (.cells #[.int .i64 0] 28) := ⟨_, rfl⟩
  have hbY : Below X.heap.size X Y := by rw [hY]; exact (Below.refl _ X).alloc (Nat.le_refl _) _
  have hyz : Y.heap.size = w.heap.size + 5 := by rw [hY]; simp [hsz]
  have hbwY : Below w.heap.size w Y := hbX.trans (hbY.mono (by omega))
  have hce : Y.heap[X.heap.size]? = some (.cells #[.int .i64 0] 28 (0, 0)) := by rw [hY]; exact blk_new X _
  have hin := inner_any Y l most hmo C cap (w.heap.size + 1) w.heap.size (w.heap.size + 1 + 1) (w.heap.size + 1 + 1 + 1) k r (V (Y.heap.size + 1)) hl (blk_under h0 hbY) (blk_under h1 hbY) (blk_under h2 hbY) (blk_under h3 hbY) ⟨by omega, by omega⟩ (by omega) (by omega) hlen hent
    (fun W hbW hcW hok => by
      have hWs : Y.heap.size + 1 ≤ W.heap.size := hcW.lt
      refine (hdo W Y.heap.size (hbwY.trans (hbW.mono (by omega))) (by omega) (by omega) hcW hok).mono fun e w' hd => ?_
      cases r with
      | error c => exact hd
      | ok p => exact ⟨hd.1, hd.2.1, hV.low _ _ _ _ hWs hd.2.2.1, hd.2.2.2⟩)
    (fun a W W' hv ht hs => hV.on _ a W W' hv (fun j hj hjk => ht.block j hj (by omega) (by omega)) hs)
  have hca := caught_any X 28 #[.pointer (some ⟨w.heap.size + 1, 0, none⟩), .pointer (some ⟨w.heap.size, 0, none⟩), .pointer (some ⟨w.heap.size + 1 + 1, 0, none⟩), .pointer (some ⟨w.heap.size + 1 + 1 + 1, 0, none⟩)]
    (fun w1 => Inn Y k (w.heap.size + 1 + 1 + 1) (H.readR most r l) (V (Y.heap.size + 1)) (match H.readR most r l with | .ok _ => .returned (.tuple #[]) | .error c => pan c) w1) (codeOf (H.readR most r l)) (fun W => by kernel_rfl)
    (by
      rw [← hY]
      refine hin.mono fun e w1 hi => ?_
      have hne2 : ∀ c, H.readR most r l = .error c → c ≠ 0 := fun c hc => by
        unfold H.readR at hc
        split at hc
        · cases r with
          | ok p => cases hc
          | error c' => injection hc with hc; rw [← hc]; exact hne c' rfl
        · injection hc with hc; omega
      unfold Inn at *
      cases hq : H.readR most r l with
      | ok p =>
        obtain ⟨a, n⟩ := p
        rw [hq] at hi
        obtain ⟨i1, i2, i3, i4⟩ := hi
        exact ⟨.inl ⟨rfl, i2⟩, (i1.block _ (by omega) (by omega) (by omega)).trans hce, i1, rfl, i3, i4⟩
      | error c =>
        rw [hq] at hi
        obtain ⟨i1, i2⟩ := hi
        exact ⟨.inr ⟨hne2 c hq, i2⟩, (i1.block _ (by omega)).trans hce, i1, rfl⟩)
  have hmf : ∀ (fn : Fn) (first cap : Array Value) (w : World), (Instr.makeFunc fn first cap).run Tryz.prog w = .ok (.func fn first cap) w := fun _ _ _ _ => rfl
  have H3 := Lib.hid (blk_under h3 hbY)
  have HbY := Lib.hid hbwY
  clear h0 h1 h2 h3 hin hdo hbX hbY hce hbwY
  cases hq : H.readR most r l with
  | ok p =>
    obtain ⟨a, n⟩ := p
    rw [hq] at hca
    simp only [codeOf] at hca ⊢
    clear hq hlen hne
    go_enter Tryz.func19, Tryz.ntmps19
    go_upto_region 2 with (fail)
    rw [← hX]
    clear hX hY
    go_wp2_with fail
    refine hca.mono ?_
    rintro e w9 ⟨rfl, w1, ⟨i1, _, i3, i4⟩, hone, hw9⟩
    have hg9 : w1.grownBy w9 (some X.heap.size) := by rw [hw9]; exact set_grown1 w1 X.heap.size 0 _
    have hz1 := i1.size
    have hz9 := hg9.size
    have hZ9 : w9.heap[w.heap.size + 1 + 1 + 1]? = some (.cells #[.int .i64 (n : Int)] 3 (0, 0)) := (hg9.block _ (by omega) (fun e => by injection e with e; omega)).trans i4
    have cz := cell_of_one hZ9
    have hlz := blk_lt hZ9
    have hv9 := hV.on _ a w1 w9 i3 (fun j hj hjk => hg9.block j hj (fun e => by injection e with e; omega)) hz9
    have Hv9 := Lib.hid hv9
    have Hg9 := Lib.hid hg9
    have Hi1 := Lib.hid i1
    clear hw9 hone i1 i3 i4 hZ9 hca hg9 hv9
    go_wp2
    go_ret2
    refine ⟨⟨Hg9.out.os.trans (Hi1.out.os.trans HbY.out.os), Hg9.out.tape.trans (Hi1.out.tape.trans HbY.out.tape), Hg9.out.output.trans (Hi1.out.output.trans HbY.out.output), by omega, fun j hj a1 _ => (Hg9.out.block j (by omega) (fun e => by injection e with e; omega)).trans ((Hi1.out.block j (by omega) a1 (by omega)).trans (HbY.out.block j hj))⟩, rfl, Y.heap.size + 1, by omega, Hv9.out⟩
  | error c =>
    rw [hq] at hca
    simp only [codeOf] at hca ⊢
    clear hq hlen hne
    go_enter Tryz.func19, Tryz.ntmps19
    go_upto_region 2 with (fail)
    rw [← hX]
    clear hX hY
    go_wp2_with fail
    refine hca.mono ?_
    rintro e w9 ⟨rfl, w1, ⟨i1, _⟩, hone, hw9⟩
    have hg9 : w1.grownBy w9 (some X.heap.size) := by rw [hw9]; exact set_grown1 w1 X.heap.size 0 _
    have hz1 := i1.size
    have hz9 := hg9.size
    have hZ9 : w9.heap[w.heap.size + 1 + 1 + 1]? = some (.cells #[.int .i64 0] 3 (0, 0)) := (hg9.block _ (by omega) (fun e => by injection e with e; omega)).trans ((i1.block _ (by omega)).trans H3.out)
    have cz := cell_of_one hZ9
    have hlz := blk_lt hZ9
    have Hg9 := Lib.hid hg9
    have Hi1 := Lib.hid i1
    clear hw9 hone i1 hZ9 hca hg9
    go_wp2
    go_ret2
    exact ⟨⟨Hg9.out.os.trans (Hi1.out.os.trans HbY.out.os), Hg9.out.tape.trans (Hi1.out.tape.trans HbY.out.tape), Hg9.out.output.trans (Hi1.out.output.trans HbY.out.output), by omega, fun j hj => (Hg9.out.block j (by omega) (fun e => by injection e with e; omega)).trans ((Hi1.out.block j (by omega)).trans (HbY.out.block j hj))⟩, rfl⟩
/-- ReadRequest: what is handed out -/
def QOut (w : World) (B : Nat) (q : H.Rq) (x : Value) : Prop := ∃ v, x = .agg (qcells q.method q.target v q.body) ∧ HRow w B v q.hs
end Go.Proofs.YtomicdkmbgckkaaGreatDoor

/- HTTP: THE WALK OVER ReadRequest. -/
namespace Go.Proofs.YtomicdkmbgckkaaGreatDoor
open Go.RowKit
set_option maxRecDepth 100000
set_option linter.unusedVariables false
set_option linter.unusedSimpArgs false

theorem H.readRequest_eq (l : H.T) (most : Int) : H.readRequest l most = match H.readR most (H.reqR most l) l with | .ok (q, n) => (q, n, 0) | .error c => (⟨[], [], [], []⟩, 0, c) := by
  unfold H.readRequest H.readR
  split
  · rcases H.reqR most l with e | ⟨q, r⟩ <;> rfl
  · rfl
set_option maxHeartbeats 4000000 in
theorem readRequest_any (w : World) (l : H.T) (most : Int) (hmo : -9223372036854775808 ≤ most ∧ most ≤ 9223372036854775807) (hl : l.length ≤ 149533581377000) (hT : Tabs w) :
    Calls Tryz.prog 14 #[S l, .int .i64 most] w fun e w' => Below w.heap.size w w' ∧ ∃ x, e = .returned (.tuple #[x, .int .i64 ((H.readRequest l most).2.1 : Int), .int .i64 (H.readRequest l most).2.2]) ∧ QOut w' w.heap.size (H.readRequest l most).1 x := by
  obtain ⟨X, hX⟩ : ∃ X, X = (w.alloc (.cells #[.string ⟨#[]⟩, .string ⟨#[]⟩, .slice none 0 0, .string ⟨#[]⟩] 50)).alloc (.cells #[.string ⟨#[]⟩, .string ⟨#[]⟩, .slice none 0 0, .string ⟨#[]⟩] 50) := ⟨_, rfl⟩
  have hbX : Below w.heap.size w X := by rw [hX]; exact ((Below.refl _ w).alloc (Nat.le_refl _) _).alloc (by simp) _
  have hsz : X.heap.size = w.heap.size + 2 := by rw [hX]; simp
  have h0 : X.heap[w.heap.size]? = some (.cells #[S [], S [], .slice none 0 0, S []] 50 (0, 0)) := by rw [hX]; exact blk_alloc (blk_new w _) _
  have h1 : X.heap[w.heap.size + 1]? = some (.cells #[S [], S [], .slice none 0 0, S []] 50 (0, 0)) := by rw [hX]; exact blk_at (by simp)
  have hTX := hT.under hbX
  have h8 := hTX.sz
  have hrd := read_any X l most hmo 20 #[.pointer (some ⟨w.heap.size + 1, 0, none⟩)] (w.heap.size + 1) (H.reqR most l) (fun B q W => QAt W B (w.heap.size + 1) q) hl (by omega) (fun a r' h => by have := H.reqR_len h; omega) (fun c h => H.reqR_ne h) (qat_stays _)
    (fun W g hb hg hgk hc hok => req_any W g (w.heap.size + 1) l most hc hl (hTX.under hb) (by omega) hok (blk_under h1 hb) hgk) (fun args W => by kernel_rfl)
  have H0 := Lib.hid h0
  have H1 := Lib.hid h1
  have HbX := Lib.hid hbX
  rw [H.readRequest_eq]
  clear hT hTX h0 h1 hbX
  cases hq : H.readR most (H.reqR most l) l with
  | error c =>
    rw [hq] at hrd
    simp only at hrd ⊢
    clear hq
    go_enter Tryz.func14, Tryz.ntmps14
    go_upto_region 2 with (fail)
    rw [← hX]
    clear hX
    go_wp2_with fail
    refine hrd.mono ?_
    rintro e w3 ⟨hb3, rfl⟩
    have K0 := Lib.hid (blk_under H0.out hb3)
    have K1 := Lib.hid (blk_under H1.out hb3)
    have Hb3 := Lib.hid (HbX.out.trans (hb3.mono (by omega)))
    obtain ⟨a0, a1, a2, a3⟩ := box4 K0.out
    obtain ⟨f0, f1, f2, f3⟩ := frz4 K0.out
    obtain ⟨b0, b1, b2, b3⟩ := box4 K1.out
    have hl0 := blk_lt K0.out
    have hl1 := blk_lt K1.out
    clear hb3 hrd
    go_wp2
    obtain ⟨V, hV⟩ : ∃ V, V = (((w3.setCell ⟨w.heap.size, 0, none⟩ (S [])).setCell ⟨w.heap.size, 1, none⟩ (S [])).setCell ⟨w.heap.size, 2, none⟩ (.slice none 0 0)).setCell ⟨w.heap.size, 3, none⟩ (S []) := ⟨_, rfl⟩
    rw [← hV]
    obtain ⟨hkV, hgV⟩ := put4 K0.out _ _ _ _ hV
    obtain ⟨k0, k1, k2, k3⟩ := box4 hkV
    clear hV a0 a1 a2 a3 f0 f1 f2 f3 b0 b1 b2 b3
    refine bodyPost_ret (by simp [results, Tryz.results14, go_sem, k0, k1, k2, k3]; try rfl) rfl ?_
    exact ⟨grown_below Hb3.out hgV (Nat.le_refl _) hl0, _, rfl, _, rfl, hrow_nil _ _⟩
  | ok p =>
    obtain ⟨q, n⟩ := p
    rw [hq] at hrd
    simp only at hrd ⊢
    clear hq
    go_enter Tryz.func14, Tryz.ntmps14
    go_upto_region 2 with (fail)
    rw [← hX]
    clear hX
    go_wp2_with fail
    refine hrd.mono ?_
    rintro e w3 ⟨ht3, rfl, B, hB, ⟨v, hkq, hv⟩⟩
    have hz3 := ht3.size
    have K0 := Lib.hid ((ht3.block w.heap.size (by omega) (by omega) (by omega)).trans H0.out)
    have K1 := Lib.hid hkq
    have Hb3 := Lib.hid (show Below w.heap.size w w3 from ⟨ht3.os.trans HbX.out.os, ht3.tape.trans HbX.out.tape, ht3.output.trans HbX.out.output, by omega, fun j hj => (ht3.block j (by omega) (by omega) (by omega)).trans (HbX.out.block j hj)⟩)
    have HV := Lib.hid hv
    clear ht3 hkq hv hrd
    obtain ⟨adv, capv, rfl⟩ := row_form HV.out
    obtain ⟨a0, a1, a2, a3⟩ := box4 K0.out
    obtain ⟨f0, f1, f2, f3⟩ := frz4 K0.out
    obtain ⟨b0, b1, b2, b3⟩ := box4 (show w3.heap[w.heap.size + 1]? = some (.cells #[S q.method, S q.target, .slice adv q.hs.length capv, S q.body] 50 (0, 0)) from K1.out)
    have hl0 := blk_lt K0.out
    have hl1 := blk_lt K1.out
    go_wp2
    obtain ⟨V, hV⟩ : ∃ V, V = (((w3.setCell ⟨w.heap.size, 0, none⟩ (S q.method)).setCell ⟨w.heap.size, 1, none⟩ (S q.target)).setCell ⟨w.heap.size, 2, none⟩ (.slice adv q.hs.length capv)).setCell ⟨w.heap.size, 3, none⟩ (S q.body) := ⟨_, rfl⟩
    rw [← hV]
    obtain ⟨hkV, hgV⟩ := put4 K0.out _ _ _ _ hV
    obtain ⟨k0, k1, k2, k3⟩ := box4 hkV
    clear hV a0 a1 a2 a3 f0 f1 f2 f3 b0 b1 b2 b3
    refine bodyPost_ret (by simp [results, Tryz.results14, go_sem, k0, k1, k2, k3]; try rfl) rfl ?_
    exact ⟨grown_below Hb3.out hgV (Nat.le_refl _) hl0, _, rfl, _, rfl, row_base (row_far HV.out hgV (by omega)) (by omega)⟩
end Go.Proofs.YtomicdkmbgckkaaGreatDoor
