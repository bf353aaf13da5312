/- CONF: WHAT A LINE IS BOUNDED BY; fail.Caught; Parse's CLOSURE. -/
import Derived.Test.YtegobomfhdfodaaGreatDoorCx
import Derived.Test.YtegobomfhdfodaaGreatDoorDb0
import Derived.Defers
import Derived.Recover
import Derived.Carry
import Derived.Handy
namespace Go.Proofs.YtegobomfhdfodaaGreatDoor
open Go.RowKit
set_option maxRecDepth 100000
set_option linter.unusedVariables false
set_option linter.unusedSimpArgs false

namespace K
theorem q1_len2 {b : UInt8} {t r : T} {c : UInt8} (h : q1 b t = some (c, r)) : r.length ≤ t.length := q1_len h
theorem qt_len2 : ∀ (f : Nat) (acc l x r : T), qt f acc l = some (x, r) → x.length + r.length ≤ acc.length + l.length
  | 0, _, _, _, _, h => by cases h
  | f + 1, acc, [], _, _, h => by cases h
  | f + 1, acc, b :: t, x, r, h => by
    unfold qt at h
    split at h
    · injection h with h; injection h with h1 h2; rw [← h1, ← h2]; simp <;> omega
    · cases hq : q1 b t with
      | none => rw [hq] at h; cases h
      | some y =>
        rw [hq] at h
        obtain ⟨c, u⟩ := y
        have h1 := qt_len2 f _ _ _ _ h
        have h2 := q1_len hq
        simp only [List.length_cons, List.length_append, List.length_nil] at h1 ⊢
        omega
theorem qw_len2 {l x r : T} (h : qw l = some (x, r)) : x.length + r.length ≤ l.length := by
  unfold qw at h
  split at h
  · have := qt_len2 _ _ _ _ _ h
    simp at this ⊢; omega
  · split at h
    · injection h with h; injection h with h1 h2; rw [← h1, ← h2]; simp; omega
    · cases h
theorem item_len2 {l x r : T} (h : item l = some (x, r)) : x.length + r.length ≤ l.length := by
  unfold item at h
  cases hq : qw (bare l) with
  | none => rw [hq] at h; cases h
  | some y =>
    rw [hq] at h
    obtain ⟨a, b⟩ := y
    simp only [Option.map_some, Option.some.injEq, Prod.mk.injEq] at h
    have h1 := qw_len2 hq
    have h2 := bare_len b
    have h3 := bare_len l
    rw [← h.1, ← h.2]
    omega
theorem itemsF_fit : ∀ (f : Nat) (acc : List T) (l : T) {x : List T} {r : T} (N : Nat), itemsF f acc l = some (x, r) → (∀ s ∈ acc, s.length ≤ N) → l.length ≤ N → (∀ s ∈ x, s.length ≤ N) ∧ x.length ≤ acc.length + l.length
  | 0, _, _, _, _, _, h, _, _ => by cases h
  | f + 1, acc, l, x, r, N, h, ha, hl => by
    unfold itemsF at h
    split at h
    · rename_i h44
      cases hi : item l.tail with
      | none => rw [hi] at h; cases h
      | some y =>
        obtain ⟨y1, y2⟩ := y
        rw [hi] at h
        have h2 := item_len2 hi
        have h3 : l.tail.length + 1 ≤ l.length := by cases l with | nil => cases h44 | cons b t => simp
        have h1 := itemsF_fit f (acc ++ [y1]) y2 N h (fun s hs => by
          rcases List.mem_append.1 hs with hs | hs
          · exact ha s hs
          · simp at hs; subst hs; omega) (by omega)
        refine ⟨h1.1, ?_⟩
        have := h1.2
        simp at this
        omega
    · split at h
      · injection h with h; injection h with h1 h2; rw [← h1]; exact ⟨ha, by omega⟩
      · cases h
theorem list_fit {t : T} {x : List T} {r : T} (h : list t = some (x, r)) : (∀ s ∈ x, s.length ≤ t.length) ∧ x.length ≤ t.length + 1 := by
  have hb := bare_len t
  unfold list at h
  split at h
  · injection h with h; injection h with h1 h2; rw [← h1]; exact ⟨(fun s hs => by cases hs), by simp⟩
  · cases hi : item (bare t) with
    | none => rw [hi] at h; cases h
    | some y =>
      obtain ⟨y1, y2⟩ := y
      rw [hi] at h
      have h2 := item_len2 hi
      have h3 : y1.length ≤ t.length ∧ y2.length ≤ t.length := by omega
      have h1 := itemsF_fit (y2.length + 1) [y1] y2 t.length h (fun s hs => by rw [List.mem_singleton] at hs; rw [hs]; exact h3.1) h3.2
      refine ⟨h1.1, ?_⟩
      have := h1.2
      simp at this
      omega
theorem value_fit {u r : T} {x : Leaf} (h : value u = some (x, r)) : x.kind ≤ 2 ∧ x.text.length ≤ u.length ∧ x.list.length ≤ u.length + 1 ∧ ∀ s ∈ x.list, s.length ≤ u.length := by
  have h3 : u.tail.length ≤ u.length := by simp
  unfold value at h
  split at h
  · cases hi : qt (u.tail.length + 1) [] u.tail with
    | none => rw [hi] at h; cases h
    | some y =>
      obtain ⟨y1, y2⟩ := y
      rw [hi] at h
      have := qt_len2 _ _ _ _ _ hi
      simp only [Option.map_some, Option.some.injEq, Prod.mk.injEq] at h
      rw [← h.1]
      exact ⟨by show (1 : Nat) ≤ 2; decide, by simp at this ⊢; omega, by simp, (fun s hs => by cases hs)⟩
  · split at h
    · cases hi : list u.tail with
      | none => rw [hi] at h; cases h
      | some y =>
        obtain ⟨y1, y2⟩ := y
        rw [hi] at h
        have := list_fit hi
        simp only [Option.map_some, Option.some.injEq, Prod.mk.injEq] at h
        rw [← h.1]
        exact ⟨by show (2 : Nat) ≤ 2; decide, by simp, by have := this.2; simp only; omega, (fun s hs => by have := this.1 s hs; omega)⟩
    · cases hi : plainOf u with
      | none => rw [hi] at h; cases h
      | some y =>
        obtain ⟨y1, y2⟩ := y
        rw [hi] at h
        simp only [Option.map_some, Option.some.injEq, Prod.mk.injEq] at h
        rw [← h.1]
        unfold plainOf at hi
        split at hi
        · injection hi with hi; injection hi with h4 h5; rw [← h4]; exact ⟨by show (1 : Nat) ≤ 2; decide, by simp <;> omega, by simp, (fun s hs => by cases hs)⟩
        · cases hi
/-- a line's data are no longer than the line -/
theorem read_fit {s : T} {ln : Line} (h : read s = some ln) : ln.indent ≤ s.length ∧ ln.key.length ≤ s.length ∧ ln.node.kind ≤ 2 ∧ ln.node.text.length ≤ s.length ∧ ln.node.list.length ≤ s.length + 1 ∧ ∀ x ∈ ln.node.list, x.length ≤ s.length := by
  have hb := bare_len s
  have hbl : blanks s ≤ s.length := by unfold blanks; omega
  unfold read readK at h
  split at h
  · have hkl : ((bare s).take (upto (bare s) [58])).length ≤ s.length := by simp; omega
    split at h
    · rename_i t ht
      have htl : t.length ≤ s.length := by
        have : ((bare s).drop (upto (bare s) [58])).length ≤ s.length := by simp; omega
        rw [ht] at this; simp at this; omega
      have hbt := bare_len t
      have leaf : ∀ {ind : Nat} {key : T}, ind ≤ s.length → key.length ≤ s.length → (some (⟨ind, key, noLeaf⟩ : Line) = some ln) → ln.indent ≤ s.length ∧ ln.key.length ≤ s.length ∧ ln.node.kind ≤ 2 ∧ ln.node.text.length ≤ s.length ∧ ln.node.list.length ≤ s.length + 1 ∧ ∀ x ∈ ln.node.list, x.length ≤ s.length := by
        intro ind key h1 h2 h
        injection h with h
        subst h
        exact ⟨h1, h2, by show (0 : Nat) ≤ 2; decide, by simp [noLeaf], by simp [noLeaf], (fun x hx => by cases hx)⟩
      unfold readR at h
      split at h
      · exact leaf hbl hkl h
      · split at h
        · cases h
        · split at h
          · exact leaf hbl hkl h
          · unfold readV at h
            cases hv : value (bare t) with
            | none => rw [hv] at h; cases h
            | some y =>
              obtain ⟨y1, y2⟩ := y
              rw [hv] at h
              simp only at h
              have hf := value_fit hv
              split at h
              · injection h with h
                subst h
                exact ⟨hbl, hkl, hf.1, by have := hf.2.1; simp only; omega, by have := hf.2.2.1; simp only; omega, fun x hx => by have := hf.2.2.2 x hx; omega⟩
              · cases h
    · cases h
  · cases h
end K
theorem cell_of_one {w : World} {g : Nat} {u : Value} {t : TypeId} (h : w.heap[g]? = some (.cells #[u] t (0, 0))) : w.cell? ⟨g, 0, none⟩ = some u := cell_of_row w g 0 _ t (0, 0) h
theorem free_of_one {w : World} {g : Nat} {u : Value} {t : TypeId} (h : w.heap[g]? = some (.cells #[u] t (0, 0))) : w.frozen? ⟨g, 0, none⟩ = false := frozen_of_row w g 0 _ t h
theorem one_setCell {w : World} {g : Nat} {v u : Value} {t : TypeId} (h : w.heap[g]? = some (.cells #[v] t (0, 0))) : (w.setCell ⟨g, 0, none⟩ u).heap[g]? = some (.cells #[u] t (0, 0)) := heap_setCell_same w g 0 _ t u h
set_option maxHeartbeats 4000000 in
theorem p1_any (W : World) (base far g tx : Nat) (st : List K.L) (text : K.T) (h : MR base far g st W) (hok : K.Ok st) (hw : K.Wait st) (htx : W.heap[tx]? = some (.cells #[S text] 9 (0, 0))) (hl : text.length ≤ 100000) (hT : Tb W) (hb : base ≤ W.heap.size) (hfw : far ≤ W.heap.size) :
    Calls Tryz.prog 30 #[.pointer (some ⟨g, 0, none⟩), .pointer (some ⟨tx, 0, none⟩)] W (DP base far g W (K.step st text)) := by
  obtain ⟨o, ho⟩ : ∃ o, K.step st text = o := ⟨_, rfl⟩
  rw [ho]
  have c0 := cell_of_one htx
  have hlt := blk_lt htx
  have hrd := read_any W text (by omega) hT
  have HO := Lib.hid ho
  have H := Lib.hid (And.intro h (And.intro hok hw))
  have HL := Lib.hid hl
  have Hb := Lib.hid hb
  have Hfw := Lib.hid hfw
  have HRD := Lib.hid hrd
  clear ho h hok hw htx hl hT hb hrd hfw
  go_enter Tryz.func30, Tryz.ntmps30
  go_wp2_with fail
  refine (HRD.out).mono ?_
  intro e w1 hP
  have hO := HO.out
  unfold K.step at hO
  cases hr : K.read text with
  | none =>
    rw [hr] at hP hO
    obtain ⟨hb1, rfl⟩ := hP
    go_wp2
    rw [← hO]
    exact ⟨rfl, .of_below hb1 Hb.out, rfl⟩
  | some ln =>
    rw [hr] at hP hO
    obtain ⟨hb1, v, rfl, hv⟩ := hP
    have hf := K.read_fit hr
    have hlf : LineFit ln := ⟨by have := HL.out; omega, by have := HL.out; omega, hf.2.2.1, by have := HL.out; omega, by have := HL.out; omega, fun s hs => by have := HL.out; have := hf.2.2.2.2.2 s hs; omega⟩
    have had := add_any w1 base far g W.heap.size st ln v (H.out.1.under hb1) H.out.2.1 H.out.2.2 hv Hfw.out hlf (Nat.le_trans Hb.out hb1.size) (Nat.le_trans Hfw.out hb1.size)
    have HAD := Lib.hid had
    have Hb1 := Lib.hid hb1
    have HO2 := Lib.hid hO
    clear had hb1 hv hf hlf hO hr HRD HO
    go_wp2_with fail
    refine (HAD.out).mono ?_
    intro e w2 hD
    rw [show K.add st ln = o from HO2.out] at hD
    cases o with
    | error c =>
      obtain ⟨hb2, rfl⟩ := hD
      go_wp2
      exact ⟨rfl, (Bo.of_below Hb1.out Hb.out).trans hb2, rfl⟩
    | ok st' =>
      obtain ⟨hb2, rfl, hm, hok⟩ := hD
      go_wp2
      go_end0
      exact ⟨(Bo.of_below Hb1.out Hb.out).trans hb2, rfl, hm, hok⟩

theorem catch_idle (p : Addr) (w : World) :
    CallsD Tryz.prog 40 #[.pointer (some p)] .returning w fun e u' w' => e = .returned (.tuple #[]) ∧ u' = .returning ∧ w' = w := by
  refine callsD_of_wpS Tryz.func40 rfl fun c₀ cs hu => ?_
  apply wpS_seq
  apply wpS_region
  simp [wpOpsS, go_sem, recoverD, hu, Tryz.ntmps40, Exit.thenS]
  apply wpS_seq
  apply wpS_seq
  apply wpS_region
  simp [wpOpsS, go_sem, Exit.thenS, Array.replicate]
  refine wpS_cond (t := true) (by simp [Act.eval]) ?_
  simp only [if_true]
  refine wpS_of_wp (wp_ret ?_)
  cases c₀
  simp_all [bodyPostS, results, Tryz.results40, Exit.thenS]

/-- Caught of a closure that returns -/
def CaughtOk (w : World) (R : World → Prop) (en : Ending) (w' : World) : Prop := en = .returned (.int .i64 0) ∧ ∃ w1, R w1 ∧ w1.heap[w.heap.size]? = some (.cells #[.int .i64 0] 23 (0, 0)) ∧ w' = w1.setCell ⟨w.heap.size, 0, none⟩ (.int .i64 0)
set_option maxRecDepth 100000 in
set_option maxHeartbeats 4000000 in
theorem caught_ok (w : World) (C : Nat) (cap : Array Value) (R : World → Prop) (hent : ∀ W, (callFunc C cap).run Tryz.prog W = .ok (.enter C cap) W)
    (hcl : Calls Tryz.prog C cap (w.alloc (.cells #[.int .i64 0] 23)) fun en w1 => en = .returned (.tuple #[]) ∧ w1.heap[w.heap.size]? = some (.cells #[.int .i64 0] 23 (0, 0)) ∧ R w1) :
    Calls Tryz.prog 25 #[.func (Fn.func C) #[] cap] w (CaughtOk w R) := by
  have hmf : ∀ (fn : Fn) (first cap : Array Value) (w : World), (Instr.makeFunc fn first cap).run Tryz.prog w = .ok (.func fn first cap) w := fun _ _ _ _ => rfl
  have Hc := Lib.hid hcl
  clear hcl
  go_enter_defers Tryz.func25, Tryz.ntmps25
  go_wp2_with fail
  refine (Hc.out).mono ?_
  rintro e w1 ⟨rfl, hw1, hR⟩
  have HR := Lib.hid hR
  have Hw1 := Lib.hid hw1
  have kc := cell_of_one hw1
  have kf := free_of_one hw1
  have k2 := cell_of_one (one_setCell (u := .int .i64 0) hw1)
  clear hR hw1
  go_wp2
  refine leaves_cons (f := 40) (args := #[.pointer (some ⟨w.heap.size, 0, none⟩)]) (by simp) (by simp [go_sem]) ?_
  refine (catch_idle _ _).mono ?_
  rintro e u' w'' ⟨rfl, rfl, rfl⟩
  simp [Leaves, settle, results, Tryz.results25, go_sem, k2]
  exact ⟨rfl, _, HR.out, Hw1.out, rfl⟩

theorem vcatch_pan (p : Addr) (x y : Int) (older : List PanicEntry) (w : World) (hc : w.cell? p = some (.int .i64 y)) (hz : w.frozen? p = false) :
    CallsD Tryz.prog 40 #[.pointer (some p)] (.panicking ({ v := .iface 23 (.int .i64 x), recovered := false } :: older)) w fun e u' w' =>
      e = .returned (.tuple #[]) ∧ u' = .panicking ({ v := .iface 23 (.int .i64 x), recovered := true } :: older) ∧ w' = w.setCell p (.int .i64 x) := by
  refine callsD_of_wpS Tryz.func40 rfl fun c₀ cs hu => ?_
  apply wpS_seq
  apply wpS_region
  simp [wpOpsS, go_sem, recoverD, hu, Tryz.ntmps40, Exit.thenS]
  apply wpS_seq
  apply wpS_seq
  apply wpS_region
  simp [wpOpsS, go_sem, Exit.thenS, Array.replicate]
  refine wpS_cond (t := false) (by simp [Act.eval]) ?_
  simp only [Bool.false_eq_true, if_false]
  refine wpS_of_wp (wp_skip ?_)
  simp only [Exit.thenS]
  have hta : ∀ W, (Instr.typeAssert (.iface 23 (.int .i64 x)) 20 23 true).run Tryz.prog W = .ok (.tuple #[.int .i64 x, .bool true]) W := fun W => by kernel_rfl
  refine wpS_of_wp ?_
  go_wp2
  cases c₀
  simp_all [bodyPostS, results, Tryz.results40, Exit.thenS]

/-- Caught of a check -/
def CaughtE (w : World) (R : World → Prop) (c : Int) (en : Ending) (w' : World) : Prop := en = .returned (.int .i64 c) ∧ ∃ w1, R w1 ∧ w1.heap[w.heap.size]? = some (.cells #[.int .i64 0] 23 (0, 0)) ∧ w' = w1.setCell ⟨w.heap.size, 0, none⟩ (.int .i64 c)
set_option maxRecDepth 100000 in
set_option maxHeartbeats 4000000 in
theorem caught_no (w : World) (C : Nat) (cap : Array Value) (R : World → Prop) (c : Int) (hent : ∀ W, (callFunc C cap).run Tryz.prog W = .ok (.enter C cap) W)
    (hcl : Calls Tryz.prog C cap (w.alloc (.cells #[.int .i64 0] 23)) fun en w1 => en = .panicked [{ v := .iface 23 (.int .i64 c), recovered := false }] ∧ w1.heap[w.heap.size]? = some (.cells #[.int .i64 0] 23 (0, 0)) ∧ R w1) :
    Calls Tryz.prog 25 #[.func (Fn.func C) #[] cap] w (CaughtE w R c) := by
  have hmf : ∀ (fn : Fn) (first cap : Array Value) (w : World), (Instr.makeFunc fn first cap).run Tryz.prog w = .ok (.func fn first cap) w := fun _ _ _ _ => rfl
  have Hc := Lib.hid hcl
  clear hcl
  go_enter_defers Tryz.func25, Tryz.ntmps25
  go_wp2_with fail
  refine (Hc.out).mono ?_
  rintro e w1 ⟨rfl, hw1, hR⟩
  have HR := Lib.hid hR
  have Hw1 := Lib.hid hw1
  have kc := cell_of_one hw1
  have kf := free_of_one hw1
  have k2 := cell_of_one (one_setCell (u := .int .i64 c) hw1)
  clear hR hw1
  go_wp2
  refine leaves_cons (f := 40) (args := #[.pointer (some ⟨w.heap.size, 0, none⟩)]) (by simp) (by simp [go_sem]) ?_
  refine (vcatch_pan _ c 0 [] _ kc kf).mono ?_
  rintro e u' w'' ⟨rfl, rfl, rfl⟩
  simp [Leaves, settle, results, Tryz.results25, go_sem, k2]
  exact ⟨rfl, _, HR.out, Hw1.out, rfl⟩
end Go.Proofs.YtegobomfhdfodaaGreatDoor
