/- The statement of the law WireLooks is proved: for every slice of fields and every field within the form's own reach, the law returns true, and each argument reads afterwards as it did; no condition of ours. -/
import Derived.Test.YtnnnnlcpmocnfaaRows
import Derived.Test.YtnnnnlcpmocnfaaMessages
import Derived.Deep.RegionHeld3
import Derived.Deep.Cut
import Derived.Deep.CutRange
import Derived.Deep.QuietTactic
import Derived.BigQuiet
import Derived.ProofKit
import Derived.OpenShut
import Derived.ShutString
import Derived.Lib.SmallJoins
import Derived.SizedLaws
import Derived.Handy
import Derived.Laws.CopyOwn
import Derived.Laws.Tables
namespace Go.Proofs.Ytnnnnlcpmocnfaa.wireLooks
open Go.ChangeShapes Go.WideShapes Go.ChangeAt Go.RowKit
open Go.ChangeMaps (open_string shut_string)
open Go.Joins
open Go.Proofs.Ytnnnnlcpmocnfaa.wireFinds (lastVal_form)
set_option linter.unusedVariables false
set_option linter.unusedSimpArgs false


theorem step_app_fs {w : World} {ops : Array Oper} {o : Oper} {a : Act} {K : Act → World → Prop} {Q : Exit → Act → World → Prop} {E : Prop} (hgd : o.guard = none) (s x : Operand)
    (ho : o.op = .call { callee := .builtin .append, args := #[s, x], argTypes := #[31, 31] }) (base : Nat) (v : Value) (xs : List M.Fd) (hs : a.eval s = v) (hown : FRow w base v xs)
    (ad : Option Addr) (cap n : Nat) (fs : List M.Fd) (hx : a.eval x = .slice ad n cap) (hn : n = fs.length) (hfl : Flds w w.heap.size ad fs) (hlen : xs.length + fs.length ≤ 3518437208782) (hbase : base ≤ w.heap.size)
    (h : ∀ v' w', FRow w' base v' (xs ++ fs) → Grew w v w' v' → K (a.put o.dst v') w') :
    if Region.wanted o (yielded ops a.tmps) = true then Oper.wp Try.prog o a w K Q else E := by
  have hw : Region.wanted o (yielded ops a.tmps) = true := by simp [Region.wanted, hgd]
  rw [if_pos hw]
  subst hn
  obtain ⟨v', w', hr, h2, h3⟩ := wireMessages.run_app_fs2 o.type base v xs hown ad cap fs hfl hlen hbase
  unfold Oper.wp execOp
  simp only [ho, resolve, invoke, builtin, Sem.run_bind, Sem.run_pure, Result.andThen_ok, List.map_toArray, List.map_cons, List.map_nil, hs, hx, hr]
  exact h v' w' h2 h3

theorem step_app_f1 {w : World} {ops : Array Oper} {o : Oper} {a : Act} {K : Act → World → Prop} {Q : Exit → Act → World → Prop} {E : Prop} (hgd : o.guard = none) (s x : Operand)
    (ho : o.op = .call { callee := .builtin .append, args := #[s, x], argTypes := #[31, 31] }) (base : Nat) (v : Value) (fs : List M.Fd) (hs : a.eval s = v) (hown : FRow w base v fs)
    (f : M.Fd) (cs : Array Value) (hcs : cs.toList = fc f) (g : Nat) (hx : a.eval x = .slice (some ⟨g, 0, none⟩) 1 1) (hg : w.heap[g]? = some (.cells cs 39 (0, 0))) (hlen : fs.length ≤ 3518437208781) (hbase : base ≤ w.heap.size)
    (h : ∀ v' w', FRow w' base v' (fs ++ [f]) → Grew w v w' v' → K (a.put o.dst v') w') :
    if Region.wanted o (yielded ops a.tmps) = true then Oper.wp Try.prog o a w K Q else E := by
  have hw : Region.wanted o (yielded ops a.tmps) = true := by simp [Region.wanted, hgd]
  rw [if_pos hw]
  obtain ⟨i0, hi, hz0, hz1, hz2⟩ := info_parts Try.info39
  obtain ⟨v', w', hr, h2, h3, _, h5⟩ := run_append_own_at (P := Try.prog) w base 31 o.type 39 i0 _ 4 40 Try.underlying31 hi hz0 hz1 hz2 rfl (by decide) v fs.length (fs.flatMap fc) hown
    ⟨g, 0, none⟩ 1 1 (fc f) rfl
    (by
      intro j u hu
      rw [show (⟨g, 0, none⟩ : Addr).add j = ⟨g, j, none⟩ by unfold Addr.add; split <;> simp_all, cell_of_row _ g j cs 39 (0, 0) hg, ← Array.getElem?_toList, hcs]
      exact hu)
    (by intro u hu; exact fc_one [f] u (by simpa using hu)) (by unfold maxLen; omega) (by omega) hbase
  unfold Oper.wp execOp
  simp only [ho, resolve, invoke, builtin, Sem.run_bind, Sem.run_pure, Result.andThen_ok, List.map_toArray, List.map_cons, List.map_nil, hs, hx, hr]
  refine h v' w' ?_ ((Grew.refl w v).step h3 h5)
  unfold FRow
  rw [List.length_append, List.flatMap_append]
  simpa using h2

theorem blk_at {X : World} {o : Obj} {g : Nat} (hg : g = X.heap.size) : (X.alloc o).heap[g]? = some o := by subst hg; exact blk_new X o
theorem blk_later {X Y : World} {o : Obj} {g : Nat} (hg : X.heap[g]? = some o) (hb : Below X.heap.size X Y) : Y.heap[g]? = some o := (hb.block g (Array.getElem?_eq_some_iff.1 hg).1).trans hg
theorem blk4_set {W : World} {g : Nat} {x0 x1 x2 x3 : Value} (h : Blk4 W g x0 x1 x2 x3) (v : Value) :
    Blk4 (W.setCell ⟨g, 0, none⟩ v) g v x1 x2 x3 ∧ Blk4 (W.setCell ⟨g, 1, none⟩ v) g x0 v x2 x3 ∧ Blk4 (W.setCell ⟨g, 2, none⟩ v) g x0 x1 v x3 ∧ Blk4 (W.setCell ⟨g, 3, none⟩ v) g x0 x1 x2 v := by
  have hh : ∀ i, (W.setCell ⟨g, i, none⟩ v).heap[g]? = some (.cells (#[x0, x1, x2, x3].setIfInBounds i v) 39 (0, 0)) := fun i => by
    rw [setCell_eq_setRow W g i _ 39 (0, 0) v h]; exact setRow_heap W g _ _ 39 (0, 0) h
  exact ⟨hh 0, hh 1, hh 2, hh 3⟩
theorem box_store {W : World} {g : Nat} {x0 x1 x2 x3 : Value} (h : Blk4 W g x0 x1 x2 x3) (v0 v1 v2 v3 : Value) :
    (W.cell? ⟨g, 0, none⟩ = some x0 ∧ W.frozen? ⟨g, 0, none⟩ = false) ∧
    ((W.setCell ⟨g, 0, none⟩ v0).cell? ⟨g, 1, none⟩ = some x1 ∧ (W.setCell ⟨g, 0, none⟩ v0).frozen? ⟨g, 1, none⟩ = false) ∧
    (((W.setCell ⟨g, 0, none⟩ v0).setCell ⟨g, 1, none⟩ v1).cell? ⟨g, 2, none⟩ = some x2 ∧ ((W.setCell ⟨g, 0, none⟩ v0).setCell ⟨g, 1, none⟩ v1).frozen? ⟨g, 2, none⟩ = false) ∧
    ((((W.setCell ⟨g, 0, none⟩ v0).setCell ⟨g, 1, none⟩ v1).setCell ⟨g, 2, none⟩ v2).cell? ⟨g, 3, none⟩ = some x3 ∧ (((W.setCell ⟨g, 0, none⟩ v0).setCell ⟨g, 1, none⟩ v1).setCell ⟨g, 2, none⟩ v2).frozen? ⟨g, 3, none⟩ = false) ∧
    Blk4 ((((W.setCell ⟨g, 0, none⟩ v0).setCell ⟨g, 1, none⟩ v1).setCell ⟨g, 2, none⟩ v2).setCell ⟨g, 3, none⟩ v3) g v0 v1 v2 v3 := by
  have h1 := (blk4_set h v0).1
  have h2 := (blk4_set h1 v1).2.1
  have h3 := (blk4_set h2 v2).2.2.1
  have h4 := (blk4_set h3 v3).2.2.2
  exact ⟨⟨h.facts.1.1, h.facts.2.1⟩, ⟨h1.facts.1.2.1, h1.facts.2.2.1⟩, ⟨h2.facts.1.2.2.1, h2.facts.2.2.2.1⟩, ⟨h3.facts.1.2.2.2, h3.facts.2.2.2.2⟩, h4⟩
theorem below_swap {X : World} {B : Nat} {o o' : Obj} (h : B ≤ X.heap.size) : Below B (X.alloc o) (X.alloc o') :=
  ⟨rfl, rfl, rfl, by simp, fun k hk => by rw [Below.heap_alloc X o' k (by omega), Below.heap_alloc X o k (by omega)]⟩
theorem box_any {w3 X Y : World} {gx : Nat} {x0 x1 x2 x3 : Value} (hlt : gx < w3.heap.size) (hb : Below w3.heap.size X Y)
    (h : (X.cell? ⟨gx, 0, none⟩ = some x0 ∧ X.cell? ⟨gx, 1, none⟩ = some x1 ∧ X.cell? ⟨gx, 2, none⟩ = some x2 ∧ X.cell? ⟨gx, 3, none⟩ = some x3) ∧ Below w3.heap.size w3 X) :
    (Y.cell? ⟨gx, 0, none⟩ = some x0 ∧ Y.cell? ⟨gx, 1, none⟩ = some x1 ∧ Y.cell? ⟨gx, 2, none⟩ = some x2 ∧ Y.cell? ⟨gx, 3, none⟩ = some x3) ∧ Below w3.heap.size w3 Y := by
  obtain ⟨⟨h0, h1, h2, h3⟩, hb0⟩ := h
  exact ⟨⟨(hb.cell (p := ⟨gx, 0, none⟩) hlt).trans h0, (hb.cell (p := ⟨gx, 1, none⟩) hlt).trans h1, (hb.cell (p := ⟨gx, 2, none⟩) hlt).trans h2, (hb.cell (p := ⟨gx, 3, none⟩) hlt).trans h3⟩, hb0.trans hb⟩
theorem flds_of {P : Prop} {w w3 X : World} {ad : Option Addr} {fs : List M.Fd} (hf : Flds w w.heap.size ad fs) (h3 : Below w.heap.size w w3) (h : P ∧ Below w3.heap.size w3 X) : Flds X X.heap.size ad fs := by
  have hb : Below w.heap.size w X := h3.trans (h.2.mono h3.size)
  exact (hf.keep hb).mono hb.size
theorem lastOf_end (a : Int) (wire : Nat) (fs : List M.Fd) (f : M.Fd) (h : pick a wire f = true) : lastOf a wire (fs ++ [f]) = some f := by rw [lastOf_snoc, h]; rfl

theorem cells_keep4 {w w' : World} {g off j : Nat} {a b c : Int} {l : List UInt8} (h : At4 w g off j a b c l) (e : w'.heap[g]? = w.heap[g]?) : At4 w' g off j a b c l :=
  ⟨(World.cell?_of_block e).trans h.q0, (World.cell?_of_block e).trans h.q1, (World.cell?_of_block e).trans h.q2, (World.cell?_of_block e).trans h.q3⟩
theorem own : ownKnob Try.prog.godebug = none := by kernel_rfl
open Go.Proofs.Ytnnnnlcpmocnfaa.wireFinds (open_fds_sized)
theorem held_size {P : Prop} {w3 X : World} (h : P ∧ Below w3.heap.size w3 X) : w3.heap.size ≤ X.heap.size := h.2.size
theorem row0 {W : World} {base g : Nat} (h : W.heap[g]? = some (.cells #[] 39 (0, 0))) (hb : base ≤ g) : FRow W base (.slice (some ⟨g, 0, none⟩) 0 0) [] :=
  ⟨rfl, .inr ⟨g, 0, #[], rfl, hb, h, Nat.le_refl 0, by decide, rfl, rfl⟩⟩

theorem allOf_all (num : Int) (wire : Nat) (fs : List M.Fd) : allOf num wire (allOf num wire fs) = allOf num wire fs := by
  unfold allOf
  rw [List.filter_filter]
  congr 1
  funext f
  simp

/-- what All answers, as its caller meets it -/
theorem all_met {w : World} {ad : Option Addr} {n cap : Nat} {num wb : Int} {fs : List M.Fd} (hn : n = fs.length) (hfl : Flds w w.heap.size ad fs) (hsz : n ≤ 3518437208780) (hw0 : 0 ≤ wb) (hw1 : wb ≤ 255) :
    Calls Try.prog 29 #[.slice ad n cap, .int .i64 num, .int .u8 wb] w fun e w' => ∃ ad2 cap2, e = .returned (.slice ad2 (allOf num wb.toNat fs).length cap2) ∧ Flds w' w'.heap.size ad2 (allOf num wb.toNat fs) ∧ Below w.heap.size w w' :=
  (all_any w ad n cap num wb fs hn hfl hsz hw0 hw1).mono fun e w' h => by
    obtain ⟨v, he, hrow, hb'⟩ := h
    obtain ⟨ad2, cap2, rfl, hf2⟩ := hrow.flds (by intro f hf; exact hfl.fine f (List.mem_filter.1 (show f ∈ fs.filter (pick num wb.toNat) from hf)).1) (by have := allOf_len num wb.toNat fs; omega)
    exact ⟨ad2, cap2, he, hf2, hb'⟩

theorem last_parts (a : Int) (wb : Nat) (fs X : List M.Fd) (hX : X = allOf a wb fs) (hfine : ∀ g ∈ fs, Fine g) : ∃ A B C L t, lastVal (lastOf a wb fs) = .tuple #[.agg (fcells A B C L), .bool t] ∧
    (t = true → ∃ m x, X.length = m + 1 ∧ X[m]? = some x ∧ Fit x A B C L) ∧ (t = false → X = [] ∧ A = 0 ∧ B = 0 ∧ C = 0 ∧ L = []) := by
  cases hx : lastOf a wb fs with
  | none =>
    refine ⟨0, 0, 0, [], false, rfl, (fun h => by cases h), fun _ => ⟨?_, rfl, rfl, rfl, rfl⟩⟩
    unfold lastOf at hx
    rw [← hX] at hx
    simpa using hx
  | some x =>
    unfold lastOf at hx
    rw [← hX] at hx
    have hne : X ≠ [] := by rintro rfl; simp at hx
    have hl : 0 < X.length := List.length_pos_iff.2 hne
    have hlast : X[X.length - 1]? = some x := by rw [← List.getLast?_eq_getElem?]; exact hx
    have hmem : x ∈ X := List.mem_of_getElem? hlast
    obtain ⟨A, B, C, L, hfit⟩ := hfine x (by rw [hX] at hmem; exact (List.mem_filter.1 (show x ∈ fs.filter (pick a wb) from hmem)).1)
    refine ⟨A, B, C, L, true, by rw [lastVal, ← fc_fit hfit], fun _ => ⟨X.length - 1, x, by omega, hlast, hfit⟩, (fun h => by cases h)⟩

set_option maxRecDepth 100000 in
set_option maxHeartbeats 16000000 in
theorem walk (w : World) (ad : Option Addr) (n cap : Nat) (fs : List M.Fd) (f : M.Fd) (a b c : Int) (s : List UInt8) (hn : n = fs.length) (hfl : Flds w w.heap.size ad fs) (hsz : n ≤ 3518437208780) (hf : Fit f a b c s) :
    Calls Try.prog 10 #[.slice ad n cap, .agg (fcells a b c s)] w fun e w' => e = .returned (.bool true) ∧ Below w.heap.size w w' := by
  obtain ⟨X, hX⟩ : ∃ X, X = allOf a b.toNat fs := ⟨_, rfl⟩
  have hXl : X.length ≤ n := by rw [hX, hn]; exact allOf_len _ _ _
  obtain ⟨A, B, C, L, t, hv, ht1, ht0⟩ := last_parts a b.toNat fs X hX hfl.fine
  obtain ⟨nx, hnx⟩ : ∃ nx, nx = X.length := ⟨_, rfl⟩
  have hA : ∀ W, Below w.heap.size w W → Calls Try.prog 29 #[.slice ad n cap, .int .i64 a, .int .u8 b] W fun e w' => ∃ ad2 cap2, e = .returned (.slice ad2 nx cap2) ∧ Flds w' w'.heap.size ad2 X ∧ Below W.heap.size W w' := fun W hb => by
    rw [hnx, hX]; exact all_met hn ((hfl.keep hb).mono hb.size) hsz hf.b0 hf.b1
  have hA2 : ∀ W ad2 cap2, Flds W W.heap.size ad2 X → Calls Try.prog 29 #[.slice ad2 nx cap2, .int .i64 a, .int .u8 b] W fun e w' => ∃ ad3 cap3, e = .returned (.slice ad3 nx cap3) ∧ Flds w' w'.heap.size ad3 X ∧ Below W.heap.size W w' := fun W ad2 cap2 h => by
    have := all_met (num := a) (wb := b) (cap := cap2) hnx h (by omega) hf.b0 hf.b1
    rw [hX, allOf_all, ← hX, ← hnx] at this
    exact this
  have hL : ∀ W, Below w.heap.size w W → Calls Try.prog 27 #[.slice ad n cap, .int .i64 a, .int .u8 b] W fun e w' => e = .returned (.tuple #[.agg (fcells A B C L), .bool t]) ∧ Below W.heap.size W w' := fun W hb => by
    rw [← hv]; exact last_any W ad n cap a b fs hn ((hfl.keep hb).mono hb.size) hf.b0 hf.b1
  have HA := Lib.hid hA
  have HA2 := Lib.hid hA2
  have HL := Lib.hid hL
  have Ht1 := Lib.hid ht1
  have Ht0 := Lib.hid ht0
  have Hnx := Lib.hid hnx
  have hb0 := hf.b0
  have hb1 := hf.b1
  obtain ⟨m6, hm6⟩ : ∃ m6, m6 = (fs ++ [f]).length := ⟨_, rfl⟩
  have hpk : pick a b.toNat f = true := by rw [pick_fit hf a b hf.b0]; simp
  have hfine2 : ∀ g ∈ fs ++ [f], Fine g := by
    intro g hg
    rcases List.mem_append.1 hg with h1 | h1
    · exact hfl.fine g h1
    · simp at h1; subst h1; exact ⟨_, _, _, _, hf⟩
  have hLast : ∀ W ad6 cap6, Flds W W.heap.size ad6 (fs ++ [f]) → Calls Try.prog 27 #[.slice ad6 m6 cap6, .int .i64 a, .int .u8 b] W fun e w' => e = .returned (.tuple #[.agg (fcells a b c s), .bool true]) ∧ Below W.heap.size W w' := fun W ad6 cap6 h => by
    have := last_any W ad6 m6 cap6 a b (fs ++ [f]) hm6 h hf.b0 hf.b1
    rw [lastOf_end a b.toNat fs f hpk, lastVal, ← fc_fit hf] at this
    exact this
  have HLast := Lib.hid hLast
  have Hm6 := Lib.hid hm6
  have Hfine := Lib.hid hfine2
  have Hfc := Lib.hid (fc_fit hf)
  have Hl := Lib.hid (show ([] : List M.Fd).length + fs.length ≤ 3518437208782 by rw [← hn]; simp; omega)
  have Hl2 := Lib.hid (show fs.length ≤ 3518437208781 by omega)
  have Hl3 := Lib.hid (show (fs ++ [f]).length ≤ 9223372036854775807 by rw [List.length_append]; simp; omega)
  clear hLast hm6 hfine2 hpk
  have Hfl := Lib.hid hfl
  have Hn := Lib.hid hn
  have Hf := Lib.hid hf
  clear hA hA2 hL ht1 ht0 hnx hfl hn hf hX hv
  go_enter Try.func10, Try.ntmps10
  go_wp2_with fail
  refine (lives_any _).mono ?_
  rintro e w1 ⟨rfl, hb1'⟩
  have hx1 := (hb1'.block w.heap.size (by simp)).trans (blk_new w _)
  obtain ⟨q0, q1, q2, q3⟩ := box4 hx1
  have Hb1 := Lib.hid (((Below.refl _ w).alloc (Nat.le_refl _) _).trans (hb1'.mono (by simp)))
  have Hx1 := Lib.hid hx1
  have hs1 : w.heap.size < w1.heap.size := (Array.getElem?_eq_some_iff.1 hx1).1
  clear hb1' hx1
  go_wp2_with fail
  refine (HA.out w1 Hb1.out).mono ?_
  rintro e w2 ⟨ad2, cap2, rfl, hf2, hb2⟩
  have hx2 := (hb2.block w.heap.size hs1).trans Hx1.out
  have hs2 : w.heap.size < w2.heap.size := (Array.getElem?_eq_some_iff.1 hx2).1
  have Hb2 := Lib.hid (Hb1.out.trans (hb2.mono Hb1.out.size))
  have Hx2 := Lib.hid hx2
  have Hf2 := Lib.hid hf2
  clear hb2 hf2 q0 q1 q2 q3
  obtain ⟨q0, q1, q2, q3⟩ := box4 hx2
  clear hx2
  go_wp2_with fail
  refine (HL.out w2 Hb2.out).mono ?_
  rintro e w3 ⟨rfl, hb3⟩
  have hx3 := (hb3.block w.heap.size hs2).trans Hx2.out
  have hs3 : w.heap.size < w3.heap.size := (Array.getElem?_eq_some_iff.1 hx3).1
  have Hb3 := Lib.hid (Hb2.out.trans (hb3.mono Hb2.out.size))
  have Hx3 := Lib.hid hx3
  have Hf3 := Lib.hid ((Hf2.out.keep hb3).mono hb3.size)
  have Hf23 := Lib.hid (Hf2.out.keep hb3)
  have Hs23 := Lib.hid hb3.size
  clear hb3 q0 q1 q2 q3
  obtain ⟨W4, hW4⟩ : ∃ W4, W4 = w3.alloc (.cells (fcells A B C L) 39) := ⟨_, rfl⟩
  go_upto_region 5 with (fail)
  rw [← hW4]
  have hy4 : W4.heap[w3.heap.size]? = some (.cells (fcells A B C L) 39 (0, 0)) := by rw [hW4]; exact blk_new w3 _
  have h34 : Below w3.heap.size w3 W4 := by rw [hW4]; exact (Below.refl _ _).alloc (Nat.le_refl _) _
  have Hy4 := Lib.hid hy4
  have H34 := Lib.hid h34
  have HW4 := Lib.hid hW4
  clear hy4 h34 hW4 hx3
  go_cut [53] from 27 to 53 (fun v W => v = .bool false ∧ ∃ nq, W = W4.drewN nq)
  case first =>
    obtain ⟨r0, r1, r2, r3⟩ := box4 Hy4.out
    cases t with
    | true =>
      obtain ⟨m, x, hm, hxm, hxfit⟩ := Ht1.out rfl
      have hX0 : X ≠ [] := by rintro rfl; simp at hm
      obtain ⟨g, off, rfl, hg, hi⟩ := Hf23.out.2 hX0
      obtain ⟨ya, yb, yc, ys, hyfit, hy⟩ := hi _ x hxm
      obtain ⟨rfl, rfl, rfl, rfl⟩ := hyfit.uniq hxfit
      have hg3 : g < w3.heap.size := Nat.lt_of_lt_of_le hg Hs23.out
      obtain ⟨p0, p1, p2, p3⟩ := cells_keep4 hy (H34.out.block g hg3)
      obtain rfl : nx = m + 1 := by rw [Hnx.out]; exact hm
      have hm0 : (0 : Int) ≤ (m : Int) := by omega
      have hm1 : (m : Int) < (m : Int) + 1 := by omega
      have hmw : IntKind.i64.wrap ((m : Int) + 1 - 1) = (m : Int) := by rw [IntKind.wrap_i64]; omega
      have hmw2 : IntKind.i64.wrap (m : Int) = (m : Int) := by rw [IntKind.wrap_i64]; omega
      have hmp : (0 : Int) < (m : Int) + 1 := by omega
      have hmt2 : ((m : Int)).toNat = m := by omega
      have hmt : ((m : Int) + 1 - 1).toNat = m := by omega
      clear hi hyfit hxfit hy hg hg3 hm hxm hX0
      go_quiet (fail)
      go_wp2
      go_meet
      case rel => exact ⟨rfl, _, rfl⟩
    | false =>
      obtain ⟨hX0, rfl, rfl, rfl, rfl⟩ := Ht0.out rfl
      obtain rfl : nx = 0 := by rw [Hnx.out, hX0]; rfl
      clear hX0
      go_quiet (fail)
      go_wp2
      go_meet
      case rel => exact ⟨rfl, _, rfl⟩
  case rest =>
    obtain ⟨rfl, nq, rfl⟩ := hcut
    go_wp2
    rw [HW4.out]
    obtain ⟨q0, q1, q2, q3⟩ := box4 Hx3.out
    go_cut [8, 9] from 54 to 67 (fun p y W => ∃ g8, p = .pointer (some ⟨g8, 0, none⟩) ∧ y = .bool true ∧ W.heap[g8]? = some (.cells (fcells a b c s) 39 (0, 0)) ∧ ((W.cell? ⟨w.heap.size, 0, none⟩ = some (.int .i64 a) ∧ W.cell? ⟨w.heap.size, 1, none⟩ = some (.int .u8 b) ∧ W.cell? ⟨w.heap.size, 2, none⟩ = some (.int .u64 c) ∧ W.cell? ⟨w.heap.size, 3, none⟩ = some (.string ⟨s.toArray⟩)) ∧ Below w3.heap.size w3 W))
    case first =>
      have HS1 := Lib.hid (show (((w3.alloc (.cells (fcells A B C L) 39)).drewN nq).cell? ⟨w.heap.size, 0, none⟩ = some (.int .i64 a) ∧ ((w3.alloc (.cells (fcells A B C L) 39)).drewN nq).cell? ⟨w.heap.size, 1, none⟩ = some (.int .u8 b) ∧ ((w3.alloc (.cells (fcells A B C L) 39)).drewN nq).cell? ⟨w.heap.size, 2, none⟩ = some (.int .u64 c) ∧ ((w3.alloc (.cells (fcells A B C L) 39)).drewN nq).cell? ⟨w.heap.size, 3, none⟩ = some (.string ⟨s.toArray⟩)) ∧ Below w3.heap.size w3 ((w3.alloc (.cells (fcells A B C L) 39)).drewN nq) from
        box_any hs3 (((Below.refl _ w3).alloc (Nat.le_refl _) _).trans ⟨rfl, rfl, rfl, Nat.le_refl _, fun _ _ => rfl⟩) ⟨⟨q0, q1, q2, q3⟩, Below.refl _ _⟩)
      have Hlt := Lib.hid hs3
      clear q0 q1 q2 q3
      go_region_held3 (fun w' => (w'.cell? ⟨w.heap.size, 0, none⟩ = some (.int .i64 a) ∧ w'.cell? ⟨w.heap.size, 1, none⟩ = some (.int .u8 b) ∧ w'.cell? ⟨w.heap.size, 2, none⟩ = some (.int .u64 c) ∧ w'.cell? ⟨w.heap.size, 3, none⟩ = some (.string ⟨s.toArray⟩)) ∧ Below w3.heap.size w3 w')
        (first | (with_reducible exact box_any Hlt.out hbel7 (by assumption)) | (with_reducible exact box_any Hlt.out hbel6 (by assumption)) | (with_reducible exact box_any Hlt.out hbel5 (by assumption)) | (with_reducible exact box_any Hlt.out (Below.alloc (Below.refl _ _) (by first | omega | (simp; done) | (simp; omega) | fail) _) (by assumption)) | exact box_any Hlt.out ((Below.refl _ _).drew) HS1.out | exact box_any Hlt.out (Below.alloc (Below.refl _ _) (by first | omega | (simp; done) | (simp; omega) | fail) _) (by assumption) | exact box_any Hlt.out (below_swap (by first | omega | (simp; done) | (simp; omega) | fail)) (by assumption) | (refine box_any Hlt.out ?_ (by assumption); go_grown; done) | fail)
        (first | (refine step_app_fs rfl (.tmp 55) (.tmp 56) rfl w3.heap.size (Value.slice (some ⟨_, 0, none⟩) 0 0) [] (by rfl) (row0 (by first | (with_reducible exact blk_at (by simp)) | (with_reducible exact blk_alloc (blk_at (by simp)) _) | (with_reducible exact blk_alloc (blk_alloc (blk_at (by simp)) _) _) | fail) (by first | omega | (simp; done) | (simp; omega) | fail)) ad cap n fs (by rfl) Hn.out (flds_of Hfl.out Hb3.out (by assumption)) Hl.out (held_size (by assumption)) ?_; intro v5 w5 hrow5' hgr5; have hrow5 : FRow w5 w3.heap.size v5 fs := hrow5'; clear hrow5'; have hs5 : w3.heap.size ≤ w5.heap.size := Nat.le_trans (held_size (by assumption)) hgr5.g.size; have hbel5 : Below w3.heap.size _ w5 := hgr5.below (held_size (by assumption)) (by intro k hk; simp [Value.ownBlock] at hk; omega); (try (have hF5 : w5.heap[_]? = some (Obj.cells (fcells a b c s) 39 (0, 0)) := hgr5.blk (by first | (with_reducible exact blk_at rfl) | (with_reducible exact blk_alloc (blk_at rfl) _) | (with_reducible exact blk_alloc (blk_alloc (blk_at rfl) _) _) | fail) (by intro k hk; simp [Value.ownBlock] at hk ⊢; omega))); (try (have hA5 : w5.heap[_]? = some (Obj.cells #[Value.int .i64 0, Value.int .u8 0, Value.int .u64 0, Value.string ⟨#[]⟩] 39 (0, 0)) := hgr5.blk (by first | (with_reducible exact blk_at rfl) | (with_reducible exact blk_alloc (blk_at rfl) _) | (with_reducible exact blk_alloc (blk_alloc (blk_at rfl) _) _) | fail) (by intro k hk; simp [Value.ownBlock] at hk ⊢; omega))); (try (simp only [World.size_alloc, World.heap_drewN, World.size_drew] at hA5))) | (refine step_app_f1 rfl (.tmp 57) (.tmp 59) rfl w3.heap.size v5 fs (by rfl) (by first | (with_reducible exact hrow5) | (with_reducible exact hrow5.alloc _) | (with_reducible exact (hrow5.alloc _).alloc _) | fail) f (fcells a b c s) Hfc.out _ (by rfl) (by first | (with_reducible exact blk_at (by simp)) | (with_reducible exact blk_alloc (blk_at (by simp)) _) | (simpa using hF5) | exact blk_alloc (by simpa using hF5) _ | fail) Hl2.out (held_size (by assumption)) ?_; intro v6 w6 hrow6 hgr6; obtain ⟨ad6, cap6, hv6, hf6⟩ := hrow6.flds Hfine.out Hl3.out; rw [← Hm6.out] at hv6; subst hv6; have hs6 : w3.heap.size ≤ w6.heap.size := Nat.le_trans (held_size (by assumption)) hgr6.g.size; have hbel6 : Below w3.heap.size _ w6 := hgr6.below (held_size (by assumption)) (fun k hk => (hrow5.lt k hk).1); (try (have hA6 : w6.heap[_]? = some (Obj.cells #[Value.int .i64 0, Value.int .u8 0, Value.int .u64 0, Value.string ⟨#[]⟩] 39 (0, 0)) := hgr6.blk (by first | (with_reducible exact hA5) | (with_reducible exact blk_alloc hA5 _) | first | (with_reducible exact blk_at rfl) | (with_reducible exact blk_alloc (blk_at rfl) _) | (with_reducible exact blk_alloc (blk_alloc (blk_at rfl) _) _) | fail) (by intro k hk; first | (have := (hrow5.lt k hk).2; simp; omega) | (rcases hgr5.o with e | ⟨b, e, hb⟩; (rw [e] at hk; simp [Value.ownBlock] at hk ⊢; omega); (rw [e] at hk; injection hk with hk; simp at hb ⊢; omega)) | fail))); (try (simp only [World.size_alloc, World.heap_drewN, World.size_drew] at hA6))) | (go_at_call 27; refine (HLast.out _ ad6 cap6 (by first | exact hf6 | exact (hf6.keep (Below.alloc (Below.refl _ _) (Nat.le_refl _) _)).mono (by simp) | fail)).mono ?_; rintro e w7 ⟨rfl, hb7⟩; have hs67 : w3.heap.size ≤ w7.heap.size := Nat.le_trans (held_size (by assumption)) hb7.size; have hbel7 : Below w3.heap.size _ w7 := hb7.mono (held_size (by assumption)); (try (have hA7 : w7.heap[_]? = some (Obj.cells #[Value.int .i64 0, Value.int .u8 0, Value.int .u64 0, Value.string ⟨#[]⟩] 39 (0, 0)) := blk_later (by first | (with_reducible exact hA6) | (with_reducible exact blk_at rfl) | fail) hb7; obtain ⟨⟨z0, y0⟩, ⟨z1, y1⟩, ⟨z2, y2⟩, ⟨z3, y3⟩, hz⟩ := box_store (show Blk4 w7 _ _ _ _ _ from hA7) (.int .i64 a) (.int .u8 b) (.int .u64 c) (.string ⟨s.toArray⟩); have Hz := Lib.hid hz; clear hz))) | fail)
      all_goals
        go_wp2
        go_meet
        case rel => exact ⟨_, rfl, rfl, by first | exact Hz.out | exact blk_at (by simp) | exact blk_at rfl, by assumption⟩
    case rest =>
      obtain ⟨g8, rfl, rfl, hb8, ⟨q0, q1, q2, q3⟩, hbel⟩ := hcut
      obtain ⟨z0, z1, z2, z3⟩ := box4 hb8
      have HbW := Lib.hid (Hb3.out.trans (hbel.mono Hb3.out.size))
      have HfW := Lib.hid ((Hf3.out.keep hbel).mono hbel.size)
      clear hb8 hbel
      go_wp2_with fail
      refine (HA2.out _ ad2 cap2 HfW.out).mono ?_
      rintro e w8 ⟨ad8, cap8, rfl, hf8, hb8⟩
      have HS := Lib.hid (same_yes w8 ad8 ad2 cap8 cap2 nx X Hnx.out hf8 ((HfW.out.keep hb8).mono hb8.size))
      have Hb8 := Lib.hid (HbW.out.trans (hb8.mono HbW.out.size))
      clear hb8 hf8
      go_wp2_with fail
      refine (HS.out).mono ?_
      rintro e w9 ⟨rfl, hb9⟩
      have Hb9 := Lib.hid (Hb8.out.trans (hb9.mono Hb8.out.size))
      clear hb9
      go_wp2
      go_ret
      exact ⟨rfl, Hb9.out⟩

theorem laidOut : laidOutB Try.prog = true := by kernel_rfl

set_option maxRecDepth 100000 in
theorem lifted (os : Os) (started : os.Started) (H : Type) (enc : TypeId × Value → H) :
    ReturnsInHanded {} Try.checked os 10 .any (Rows.wireLooksSpec.pre6 enc Try.prog Try.f10 Rows.wireLooksRow.domain false) (Rows.wireLooksSpec.post enc Try.prog Try.f10 false true false false) := by
  refine returnsInHanded_of_change_sized (C := Try.checked) own started (by kernel_rfl) Try.func10
    (ChangeSpec.witness6 (enc := enc) (C := Try.checked) false ⟨#[], #[.slice none 0 0, .agg #[.int .i64 0, .int .u8 0, .int .u64 0, .string ByteArray.empty]], []⟩ 8 (by kernel_rfl) (by kernel_rfl) (by kernel_rfl) (by kernel_rfl)) ?_
  intro W base args ds gs before hval0 hW hcnd0 hsz0 hholds
  have hval : ∀ (j : Nat) t v, Try.f10.params[j]? = some t → args[j]? = some v → Value.okWide Try.prog W .any base t v := hval0
  have hsz : (DataW.weightsEach Try.prog (Try.f10.params.toList ++ Rows.wireLooksSpec.plain.varTypes Try.prog) (ds ++ gs)).all (· ≤ reachBytes) = true := hsz0
  have hW' := hW
  obtain ⟨p, q, hA0, hV, rfl, hfz, hnd⟩ := hW
  have hA : DataW.TrodAll enc Try.prog W 0 (fun _ => true) true Try.f10.params.toList args.toList ds p := hA0
  rw [Try.params10] at hA hval hsz
  obtain ⟨v0, vs0, d0, ds0, p0, q0, hargs, rfl, rfl, h0, r0⟩ := trodAll_cons hA
  obtain ⟨v1, vs1, d1, ds1, p1, q1, rfl, rfl, rfl, h1, r1⟩ := trodAll_cons r0
  obtain ⟨rfl, rfl, rfl⟩ := trodAll_nil r1
  obtain rfl : args = #[v0, v1] := by cases args; simp_all
  obtain ⟨rfl, rfl⟩ := trodVars_none hV
  have k0 := h0
  have lt0 : ∀ x ∈ p0, x.block < W.heap.size := by obtain ⟨m, hm⟩ := k0; exact DataW.trod_lt m _ _ _ hm
  have k1 := h1
  have lt1 : ∀ x ∈ p1, x.block < W.heap.size := by obtain ⟨m, hm⟩ := k1; exact DataW.trod_lt m _ _ _ hm
  obtain ⟨ad, n, cap, fs, rfl, hn, hfl, hbulk⟩ := open_fds_sized (j := 0) (hval 0 31 v0 rfl rfl) h0 hsz rfl rfl
  obtain ⟨c0, c1, c2, c3, y0, y1, y2, y3, m, rfl, rfl, rfl, g0, g1, g2, g3⟩ := open_agg4 Try.underlying39 (by kernel_rfl) Try.cells39 (hval 1 39 v1 rfl rfl) h1
  obtain ⟨na, e0, rfl, wa⟩ := DataW.trod_int Try.underlying3 g0
  obtain ⟨nb, e1, rfl, wb⟩ := DataW.trod_int Try.underlying37 g1
  obtain ⟨nc, e2, rfl, wc⟩ := DataW.trod_int Try.underlying22 g2
  obtain ⟨s, e3, rfl, ws⟩ := DataW.trod_string Try.underlying9 g3
  simp only [List.cons.injEq, and_true] at e0 e1 e2 e3
  subst e0 e1 e2 e3
  clear hA0 hval0
  obtain ⟨t, rfl⟩ : ∃ t : List UInt8, s = ⟨t.toArray⟩ := ⟨s.data.toList, by cases s; simp⟩
  have ba := bounds_i64 wa
  have bb := bounds_u8 wb
  have bc := bounds_u64 wc
  refine (walk W ad n cap fs ⟨na, nb.toNat, nc.toNat, t⟩ na nb nc t hn hfl hbulk ⟨rfl, bb.1, bb.2, bc.1, bc.2, ba.1, ba.2, by simpa [ByteArray.size, maxLen] using ws⟩).mono fun e W' ⟨he, bel⟩ => ?_
  subst he
  exact ⟨_, rfl, _, _, _, [], _, [], hW', trodAll_mk1 (shut_bool Try.underlying4 _), (trodAll_cons_mk (Below.trod laidOut (by kernel_rfl) (of_decide_eq_true (by kernel_rfl)) k0 bel lt0) (trodAll_cons_mk (Below.trod laidOut (by kernel_rfl) (of_decide_eq_true (by kernel_rfl)) k1 bel lt1) trodAll_mk0)), rfl, bel.frame _, fun h => by cases h⟩

theorem over : Rows.wireLooksRow.holds Try.pinned (OpenSpec.ofChange Rows.wireLooksSpec) :=
  OpenClaim.holds_of_wide 10 Try.f10 rfl rfl rfl rfl rfl rfl rfl ⟨rfl, rfl, rfl, rfl, rfl⟩ rfl rfl rfl rfl rfl (by kernel_rfl) Try.func10 (by kernel_rfl)
    (of_decide_eq_true (by kernel_rfl)) (by unfold Func.isWrapper; rw [if_neg (by decide +kernel)]; exact ⟨rfl, rfl⟩)
    (fun os started H enc _ => lifted os started H enc)

theorem proved : Rows.WireLooksSaid := over
#print axioms proved
end Go.Proofs.Ytnnnnlcpmocnfaa.wireLooks
