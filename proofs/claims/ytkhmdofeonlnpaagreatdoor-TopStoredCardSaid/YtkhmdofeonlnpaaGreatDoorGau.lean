/- TOP: THE SHELF CONTRACT OF strings.Index AT THIS DUMP (laid by lay-shelf and lay-plain, trimmed by trim_shelf.py). -/
import Derived.Test.YtkhmdofeonlnpaaGreatDoorGat
import Derived.Shelf.Strings.Search1
import Derived.Shelf.Strings.Search2
import Derived.Shelf.Strings.Search3
import Derived.Test.YtkhmdofeonlnpaaGreatDoorProg
import Derived.RangeFuncNested
import Derived.RangeFuncBound
import Derived.RangeFuncCalls
import Derived.RangeFuncLeaves
import Derived.Sort.CutIn
import Derived.OwnWalkIn
namespace Go.Proofs
open Go.Shelf
def Tryz.lays143_ren : Go.Shelf.Ren := ⟨fun | 143 => 160 | 219 => 199 | 217 => 220 | 225 => 204 | 224 => 203 | 267 => 221 | 266 => 238 | 314 => 239 | n => n, fun | 9 => 9 | 3 => 3 | 4 => 4 | 5 => 5 | 46 => 261 | 146 => 284 | 51 => 224 | n => n, fun | 1 => 2 | n => n⟩
theorem Tryz.lays143 : Go.Proofs.Lays.n143 Tryz.prog Tryz.lays143_ren := {
  mixed := by kernel_rfl
  f143 := Tryz.func160.trans (congrArg some (by kernel_rfl))
  f217 := Tryz.func220.trans (congrArg some (by kernel_rfl))
  f219 := Tryz.func199.trans (congrArg some (by kernel_rfl))
  f224 := Tryz.func203.trans (congrArg some (by kernel_rfl))
  f225 := Tryz.func204.trans (congrArg some (by kernel_rfl))
  f266 := Tryz.func238.trans (congrArg some (by kernel_rfl))
  f267 := Tryz.func221.trans (congrArg some (by kernel_rfl))
  f314 := Tryz.func239.trans (congrArg some (by kernel_rfl))
  t3 := Tryz.underlying3
  a3 := Tryz.isAgg3
  z3 := Tryz.sizeOf3
  v3 := Tryz.zeroValue3
  t4 := Tryz.underlying4
  a4 := Tryz.isAgg4
  z4 := Tryz.sizeOf4
  v4 := Tryz.zeroValue4
  t5 := Tryz.underlying5
  a5 := Tryz.isAgg5
  z5 := Tryz.sizeOf5
  v5 := Tryz.zeroValue5
  t9 := Tryz.underlying9
  a9 := Tryz.isAgg9
  z9 := Tryz.sizeOf9
  v9 := Tryz.zeroValue9
  t46 := Tryz.underlying261
  a46 := Tryz.isAgg261
  z46 := Tryz.sizeOf261
  v46 := Tryz.zeroValue261
  t51 := Tryz.underlying224
  a51 := Tryz.isAgg224
  z51 := Tryz.sizeOf224
  v51 := Tryz.zeroValue224
  t146 := Tryz.underlying284
  a146 := Tryz.isAgg284
  z146 := Tryz.sizeOf284
  v146 := Tryz.zeroValue284
  g1 := by kernel_rfl }
open Go.RowKit Go.Lib in
/-- strings.Index: "Index returns the index of the first instance of substr in s, or -1 if substr is not present in s.": AT A substr OF ONE BYTE c: IT RETURNS 'Lib.indexByte s c'; the world is as it was. (LAID: no walk: one application.) -/
theorem Tryz.strings_Index_one (s : ByteArray) (c : UInt8) (w : World) :
    Calls Tryz.prog 160 #[.string s, .string ⟨#[c]⟩] w fun e w' => e = .returned (.int .i64 (Lib.indexByte s.data.toList c)) ∧ w' = w := Any.strings_Index_one Tryz.lays143 s c w
end Go.Proofs

/- TOP: Parse OF THE EMPTY TEXT. -/
namespace Go.Proofs.YtkhmdofeonlnpaaGreatDoor
open Go.RowKit Go.Shelf
attribute [local go_sem] Oper.semAt_some
set_option maxRecDepth 100000
set_option linter.unusedVariables false
set_option linter.unusedSimpArgs false

theorem tblk_at {X : World} {o : Obj} {g : Nat} (hg : g = X.heap.size) : (X.alloc o).heap[g]? = some o := by subst hg; exact heap_alloc_new X o
theorem tblk_alloc {w : World} {g : Nat} {o : Obj} (h : w.heap[g]? = some o) (o' : Obj) : (w.alloc o').heap[g]? = some o := (Below.heap_alloc w o' g (Array.getElem?_eq_some_iff.1 h).1).trans h
theorem trim0 (w : World) : Calls Tryz.prog 131 #[.string ⟨#[]⟩, .string ⟨#[32]⟩] w fun e w' => e = .returned (.string ⟨#[]⟩) ∧ w = w' := by
  go_enter Tryz.func131, Tryz.ntmps131
  go_wp2
  go_ret
  exact ⟨rfl, rfl⟩
theorem says0 (w : World) : Calls Tryz.prog 98 #[.string ⟨#[]⟩] w fun e w' => e = .returned (.bool false) ∧ w = w' := by
  go_enter Tryz.func98, Tryz.ntmps98
  go_wp2_with (go_at_call 131; refine (trim0 _).mono ?_; rintro e w1 ⟨rfl, rfl⟩)
  go_ret
  exact ⟨rfl, rfl⟩
theorem idx0 (w : World) : Calls Tryz.prog 160 #[.string ⟨#[]⟩, .string ⟨#[10]⟩] w fun e w' => e = .returned (.int .i64 (-1)) ∧ w = w' :=
  (Tryz.strings_Index_one ⟨#[]⟩ 10 w).mono fun e w' h => ⟨h.1, h.2.symm⟩
theorem lines0 (w : World) (s : ByteArray) : Calls Tryz.prog 56 #[.string s] w fun e w' => e = .returned (.func (.func 96) #[] #[.pointer (some ⟨w.heap.size, 0, none⟩)]) ∧ w.alloc (.cells #[.string s] 9) = w' := by
  go_enter Tryz.func56, Tryz.ntmps56
  go_wp2
  go_ret
  exact ⟨rfl, rfl⟩
theorem split0 (w : World) (s t : ByteArray) : Calls Tryz.prog 97 #[.string s, .string t] w fun e w' => e = .returned (.func (.func 158) #[] #[.pointer (some ⟨w.heap.size + 1, 0, none⟩), .pointer (some ⟨w.heap.size, 0, none⟩), .pointer (some ⟨w.heap.size + 1 + 1, 0, none⟩)]) ∧ ((w.alloc (.cells #[.string s] 9)).alloc (.cells #[.string t] 9)).alloc (.cells #[.int .i64 0] 3) = w' := by
  have h : Calls Tryz.prog 130 #[.string s, .string t, .int .i64 0] w fun e w' => e = .returned (.func (.func 158) #[] #[.pointer (some ⟨w.heap.size + 1, 0, none⟩), .pointer (some ⟨w.heap.size, 0, none⟩), .pointer (some ⟨w.heap.size + 1 + 1, 0, none⟩)]) ∧ ((w.alloc (.cells #[.string s] 9)).alloc (.cells #[.string t] 9)).alloc (.cells #[.int .i64 0] 3) = w' := by
    go_enter Tryz.func130, Tryz.ntmps130
    go_wp2
    go_ret
    exact ⟨rfl, rfl⟩
  go_enter Tryz.func97, Tryz.ntmps97
  go_wp2_with (go_at_call 130; refine h.mono ?_; rintro e w1 ⟨rfl, rfl⟩)
  go_ret
  exact ⟨rfl, rfl⟩

set_option maxHeartbeats 4000000 in
/-- the iterator over the pieces of the empty text: one piece -/
theorem split_it (n l Bp Bs Bn : Nat) (W : World) (hp : W.cell? ⟨Bp, 0, none⟩ = some (.string ⟨#[10]⟩)) (hs : W.cell? ⟨Bs, 0, none⟩ = some (.string ⟨#[]⟩)) (J Jx : List Unit → World → Prop)
    (hY : ∀ pre x W1, J pre W1 → pre.length < 1 → YieldAt Fence.wide 3 Tryz.prog l #[.string ⟨#[]⟩] W1 fun e W' => (e = .returned (.bool true) ∧ J (pre ++ [x]) W' ∧ True) ∨ (e = .returned (.bool false) ∧ Jx (pre ++ [x]) W'))
    (h0 : J [] W) :
    CallsIn Fence.wide 4 Tryz.prog 158 #[.func (.yield l) #[] #[], .pointer (some ⟨Bp, 0, none⟩), .pointer (some ⟨Bs, 0, none⟩), .pointer (some ⟨Bn, 0, none⟩)] W fun e W' => (∃ v, e = .returned v) ∧
      ((∃ xs, xs.length = 1 ∧ J xs W') ∨ (∃ pre, True ∧ Jx pre W')) := by
  refine callsIn_of_wp Tryz.func158 rfl trivial ?_ rfl
  simp only [Tryz.ntmps158, List.size_toArray, List.length_cons, List.length_nil, Nat.reduceAdd, Nat.reduceSub, Array.replicate_succ, Array.replicate_zero, List.push_toArray, List.append_toArray, List.nil_append, List.cons_append]
  obtain ⟨fn, tmps, assign, body, hy, hR⟩ := hY [] () W h0 (by decide)
  try dsimp only at hy
  gi_wp2
  gi_loopw [7] (fun i wr => i = undef ∧ wr = W) (fun i _ => 0)
  case atStart => exact ⟨rfl, rfl⟩
  case round =>
    obtain ⟨rfl, rfl⟩ := hrel
    gi_wp2_with fail
    refine ⟨trivial, ?_⟩
    refine (callsIn_wide.2 (idx0 _)).mono ?_
    rintro e w6 ⟨rfl, rfl⟩
    gi_wp2
    refine hR.mono ?_
    clear hR hy
    rintro e W3 (⟨rfl, hJ3, _⟩ | ⟨rfl, hJx3⟩)
    · gi_wp2
      go_end0
      exact ⟨⟨_, rfl⟩, .inl ⟨_, rfl, hJ3⟩⟩
    · gi_wp2
      go_end0
      exact ⟨⟨_, rfl⟩, .inr ⟨_, trivial, hJx3⟩⟩
theorem split_stop (Bp Bs Bn : Nat) (w0 : World) (hbp : Bp < w0.heap.size) (hbs : Bs < w0.heap.size) (hp : w0.cell? ⟨Bp, 0, none⟩ = some (.string ⟨#[10]⟩)) (hs : w0.cell? ⟨Bs, 0, none⟩ = some (.string ⟨#[]⟩)) :
    SeqStopsK Fence.wide 4 Tryz.prog 158 #[.pointer (some ⟨Bp, 0, none⟩), .pointer (some ⟨Bs, 0, none⟩), .pointer (some ⟨Bn, 0, none⟩)] (fun _ : Unit => #[.string ⟨#[]⟩]) (fun _ _ => True) (fun xs => xs.length = 1) (fun _ => True) 1 w0 := by
  intro l J Jx W hW hJ hJx hY h0
  exact split_it 4 l Bp Bs Bn W ((hW.cell (p := ⟨Bp, 0, none⟩) hbp).trans hp) ((hW.cell (p := ⟨Bs, 0, none⟩) hbs).trans hs) J Jx hY h0

set_option maxHeartbeats 4000000 in
/-- the iterator over the lines of the empty text that say something: none -/
theorem lines_it (l Bq : Nat) (W : World) (hq : W.cell? ⟨Bq, 0, none⟩ = some (.string ⟨#[]⟩)) (J Jx : List Unit → World → Prop) (hJ : AbidesFrom W.heap.size J) (h0 : J [] W) :
    CallsIn Fence.wide 5 Tryz.prog 96 #[.func (.yield l) #[] #[], .pointer (some ⟨Bq, 0, none⟩)] W fun e W' => (∃ v, e = .returned v) ∧ ((∃ xs, xs = [] ∧ J xs W') ∨ (∃ pre, False ∧ Jx pre W')) := by
  have HJ := Lib.hid (show ∀ W', Below W.heap.size W W' → J [] W' from fun W' hb => hJ [] W W' none h0 ⟨hb.os, hb.tape, hb.output, hb.size, fun k hk _ => hb.block k hk⟩ (fun r e => by cases e))
  clear hJ h0
  refine callsIn_of_wp_marks Tryz.func96 rfl trivial ?_ rfl
  simp only [Tryz.ntmps96, List.size_toArray, List.length_cons, List.length_nil, Nat.reduceAdd, Nat.reduceSub, Array.replicate_succ, Array.replicate_zero, List.push_toArray, List.append_toArray, List.nil_append, List.cons_append]
  obtain ⟨W0, hW0⟩ : ∃ X, X = (W.alloc (.cells #[.func (.yield l) #[] #[]] 155)).alloc (.cells #[.int .i64 0] 3) := ⟨_, rfl⟩
  have hb0 : Below W.heap.size W W0 := by rw [hW0]; exact ((Below.refl _ W).alloc (Nat.le_refl _) _).alloc (by simp) _
  have hn0 : W0.heap[W.heap.size + 1]? = some (.cells #[.int .i64 0] 3 (0, 0)) := by rw [hW0]; exact tblk_at (by simp)
  have hs0 : W0.heap.size = W.heap.size + 2 := by rw [hW0]; simp
  have hlq : Bq < W.heap.size := World.block_lt_of_cell? W _ hq
  have hq0 : W0.cell? ⟨Bq, 0, none⟩ = some (.string ⟨#[]⟩) := (hb0.cell (p := ⟨Bq, 0, none⟩) hlq).trans hq
  gi_upto_region 2 with (fail)
  rw [← hW0]
  clear hW0
  gi_wp2_with fail
  refine ⟨trivial, ?_⟩
  refine (callsIn_wide.2 (split0 W0 ⟨#[]⟩ ⟨#[10]⟩)).mono ?_
  rintro e w6 ⟨rfl, hw6⟩
  obtain ⟨W1, hW1⟩ : ∃ X, X = w6 := ⟨_, rfl⟩
  rw [← hW1] at hw6 ⊢
  clear hW1
  have hb1 : Below W0.heap.size W0 W1 := by rw [← hw6]; exact (((Below.refl _ W0).alloc (Nat.le_refl _) _).alloc (by simp) _).alloc (by simp; omega) _
  have hs1 : W1.heap.size = W0.heap.size + 3 := by rw [← hw6]; simp
  have hp1 : W1.heap[W0.heap.size + 1]? = some (.cells #[.string ⟨#[10]⟩] 9 (0, 0)) := by rw [← hw6]; exact tblk_alloc (tblk_at (by simp)) _
  have ht1 : W1.heap[W0.heap.size]? = some (.cells #[.string ⟨#[]⟩] 9 (0, 0)) := by rw [← hw6]; exact tblk_alloc (tblk_alloc (tblk_at rfl) _) _
  have hn1 : W1.heap[W.heap.size + 1]? = some (.cells #[.int .i64 0] 3 (0, 0)) := (hb1.block _ (by omega)).trans hn0
  have hB1 : Below W.heap.size W W1 := hb0.trans (hb1.mono (by omega))
  rw [hs0] at hs1 hp1 ht1
  have Hs1 := Lib.hid hs1
  clear hw6 hn0 hq0 hb0 hb1 hs1
  gi_wp2
  clear hs0
  refine wpIn_rangeFunc_ownH (F := Fence.wide) (n := 5) rfl (by omega) (gf := 158) (lb := #[.pointer (some ⟨W.heap.size + 2 + 1, 0, none⟩), .pointer (some ⟨W.heap.size + 2, 0, none⟩), .pointer (some ⟨W.heap.size + 2 + 1 + 1, 0, none⟩)]) rfl trivial (enters_of Tryz.func158 (by kernel_rfl) rfl)
      (split_stop (W.heap.size + 2 + 1) (W.heap.size + 2) (W.heap.size + 2 + 1 + 1) W1 (by have := Hs1.out; omega) (by have := Hs1.out; omega) (cell_of_one hp1) (cell_of_one ht1)) (fun _ _ => trivial) (fun _ _ _ _ _ _ _ _ => trivial) (Below.refl _ _) (by intro x; rfl)
      (fun pre X => (X.heap[W.heap.size + 1]? = some (.cells #[.int .i64 (pre.length : Int)] 3 (0, 0)) ∧ Below W.heap.size W X) ∧ pre.length ≤ 1)
      (fun _ _ _ => False)
      (fun pre X Y row hs hg hr => ?own)
      (fun _ _ _ _ _ hs _ _ => hs)
      ⟨⟨hn1, hB1⟩, by simp⟩
      (fun x a' X => a' = ⟨#[.func (.yield l) #[] #[], .pointer (some ⟨Bq, 0, none⟩), .pointer (some ⟨W.heap.size, 0, none⟩), .pointer (some ⟨W.heap.size + 1, 0, none⟩), .string ⟨#[]⟩, .string ⟨#[]⟩, .func (.func 158) #[] #[.pointer (some ⟨W.heap.size + 2 + 1, 0, none⟩), .pointer (some ⟨W.heap.size + 2, 0, none⟩), .pointer (some ⟨W.heap.size + 2 + 1 + 1, 0, none⟩)], .string ⟨#[]⟩, undef, undef, undef, undef, undef, undef, undef, undef, undef, undef, undef], []⟩)
      (fun x a' _ X Y row hs hg hr => hs)
      ?assign ?body ?done ?stop
  case own =>
    obtain ⟨⟨h1, h2⟩, h3⟩ := hs
    have hne : row ≠ some (W.heap.size + 1) := fun e => by
      obtain ⟨_, o, ho, hc⟩ := hr _ e
      rw [h1] at ho
      cases ho
      cases hc
    refine ⟨⟨(hg.block _ (Array.getElem?_eq_some_iff.1 h1).1 (fun e => hne e.symm)).trans h1, ?_⟩, h3⟩
    exact h2.grown hg h2.size (fun r e => by have := (hr r e).1; have := Hs1.out; omega)
  case assign =>
    rintro l pre x X K ⟨⟨h1, h2⟩, h3⟩ hK
    gi_wp2
    exact hK _ _ (KeepsFrom.refl _ _) trivial ⟨⟨h1, h2⟩, h3⟩ rfl
  case body =>
    rintro l pre x a' X hl ⟨r, hr⟩ ⟨⟨h1, h2⟩, h3⟩ rfl hlt
    have hpre : pre = [] := List.eq_nil_of_length_eq_zero (by omega)
    subst hpre
    have c1 := cell_of_one h1
    have f1 := free_of_one h1
    have hlb := (Array.getElem?_eq_some_iff.1 h1).1
    have Hs := Lib.hid (show (X.setCell ⟨W.heap.size + 1, 0, none⟩ (.int .i64 1)).heap[W.heap.size + 1]? = some (.cells #[.int .i64 1] 3 (0, 0)) from one_setCell h1)
    have Hbel := Lib.hid (show Below W.heap.size W (X.setCell ⟨W.heap.size + 1, 0, none⟩ (.int .i64 1)) from h2.setCell (p := ⟨W.heap.size + 1, 0, none⟩) (by show W.heap.size ≤ W.heap.size + 1; omega) _)
    clear h2 h1
    gi_wp2_with fail
    refine ⟨trivial, ?_⟩
    refine (callsIn_wide.2 (says0 _)).mono ?_
    rintro e w9 ⟨rfl, rfl⟩
    gi_wp2
    refine ⟨(fun _ h => by cases h), ?_⟩
    gi_wp2
    refine ⟨(KeepsOthers.setCell _ _ _).from _, trivial, ⟨Hs.out, Hbel.out⟩, by simp⟩
  case done =>
    rintro D xs X hD hx ⟨⟨h1, h2⟩, h3⟩ hK
    have hb2 : Below W.heap.size W (X.putObj D (.deferred none)) := h2.grown (grownBy_putObj' X D (.deferred none)) h2.size (fun k e => by cases e; have := Hs1.out; omega)
    have HK := Lib.hid hK
    have HB2 := Lib.hid hb2
    clear hb2 h1 h2 h3 hK
    gi_wp2
    refine ⟨by simp, .inl ⟨_, _, rfl, run_takeDeferred HK.out, ?_⟩⟩
    refine ⟨_, results_none rfl _ _ _, ⟨_, rfl⟩, .inl ⟨[], rfl, HJ.out _ HB2.out⟩⟩
  case stop =>
    rintro D c pre W _ _ h _
    exact h.elim
theorem lines_stop (Bq : Nat) (w0 : World) (hbq : Bq < w0.heap.size) (hq : w0.cell? ⟨Bq, 0, none⟩ = some (.string ⟨#[]⟩)) :
    SeqStopsK Fence.wide 5 Tryz.prog 96 #[.pointer (some ⟨Bq, 0, none⟩)] (fun _ : Unit => #[.int .i64 0, .string ⟨#[]⟩]) (fun _ _ => True) (fun xs => xs = []) (fun _ => False) 0 w0 := by
  intro l J Jx W hW hJ hJx hY h0
  exact lines_it l Bq W ((hW.cell (p := ⟨Bq, 0, none⟩) hbq).trans hq) J Jx hJ h0
theorem last0 (w : World) (g : Nat) (cap : Nat) : Calls Tryz.prog 103 #[.slice (some ⟨g, 0, none⟩) 1 cap] w fun e w' => e = .returned (.pointer (some ⟨g, 0, none⟩)) ∧ w = w' := by
  go_enter Tryz.func103, Tryz.ntmps103
  go_wp2
  go_ret
  exact ⟨rfl, rfl⟩
set_option maxHeartbeats 1000000 in
theorem all0 (w : World) (g b cap : Nat) (hg : w.heap[g]? = some (.cells #[.slice (some ⟨b, 0, none⟩) 1 cap] 95 (0, 0))) (hb : w.heap[b]? = some (.cells #[.int .i64 0, .slice none 0 0] 93 (0, 0))) :
    Calls Tryz.prog 61 #[.pointer (some ⟨g, 0, none⟩)] w fun e w' => e = .returned (.agg #[.int .u8 0, .string ⟨#[]⟩, .slice none 0 0, .slice none 0 0]) ∧ Below w.heap.size w w' := by
  obtain ⟨X, hX⟩ : ∃ X, X = w.alloc (.cells #[.int .u8 0, .string ⟨#[]⟩, .slice none 0 0, .slice none 0 0] 58) := ⟨_, rfl⟩
  have hbX : Below w.heap.size w X := by rw [hX]; exact (Below.refl _ w).alloc (Nat.le_refl _) _
  have hx : X.heap[w.heap.size]? = some (.cells #[.int .u8 0, .string ⟨#[]⟩, .slice none 0 0, .slice none 0 0] 58 (0, 0)) := by rw [hX]; exact tblk_at rfl
  have c0 := cell_of_one ((hbX.block g (Array.getElem?_eq_some_iff.1 hg).1).trans hg)
  have d0 := cell_of_row X b 1 _ 93 (0, 0) ((hbX.block b (Array.getElem?_eq_some_iff.1 hb).1).trans hb)
  have x0 := cell_of_row X w.heap.size 0 _ 58 (0, 0) hx
  have x1 := cell_of_row X w.heap.size 1 _ 58 (0, 0) hx
  have x2 := cell_of_row X w.heap.size 2 _ 58 (0, 0) hx
  have x3 := cell_of_row X w.heap.size 3 _ 58 (0, 0) hx
  have f0 : X.frozen? ⟨w.heap.size, 0, none⟩ = false := frozen_of_row X w.heap.size 0 _ 58 hx
  have f1 : X.frozen? ⟨w.heap.size, 1, none⟩ = false := frozen_of_row X w.heap.size 1 _ 58 hx
  have f2 : X.frozen? ⟨w.heap.size, 2, none⟩ = false := frozen_of_row X w.heap.size 2 _ 58 hx
  have f3 : X.frozen? ⟨w.heap.size, 3, none⟩ = false := frozen_of_row X w.heap.size 3 _ 58 hx
  have hl1 := (Array.getElem?_eq_some_iff.1 hx).1
  simp at d0 x0 x1 x2 x3
  have HB := Lib.hid hbX
  clear hbX hg hb
  go_enter Tryz.func61, Tryz.ntmps61
  go_upto_region 1 with (fail)
  rw [← hX]
  clear hX
  go_wp2
  go_loopw [3] (fun i wr => i = undef ∧ wr = X) (fun i _ => 0)
  case atStart => exact ⟨rfl, rfl⟩
  case round =>
    obtain ⟨rfl, rfl⟩ := hrel
    go_wp2_with (go_at_call 103; refine (last0 _ b cap).mono ?_; rintro e w1 ⟨rfl, rfl⟩)
    refine bodyPost_ret (v := .agg #[.int .u8 0, .string ⟨#[]⟩, .slice none 0 0, .slice none 0 0]) (by simp [results, Tryz.results61, go_sem, x0, x1, x2, x3]) rfl ?_
    exact ⟨rfl, (((HB.out.setCell (p := ⟨w.heap.size, 0, none⟩) (Nat.le_refl _) _).setCell (p := ⟨w.heap.size, 1, none⟩) (Nat.le_refl _) _).setCell (p := ⟨w.heap.size, 2, none⟩) (Nat.le_refl _) _).setCell (p := ⟨w.heap.size, 3, none⟩) (Nat.le_refl _) _⟩
set_option maxHeartbeats 4000000 in
theorem parse_in (w : World) : CallsIn Fence.wide 6 Tryz.prog 21 #[.string ⟨#[]⟩] w fun e w' => e = .returned (.tuple #[.agg #[.int .u8 0, .string ⟨#[]⟩, .slice none 0 0, .slice none 0 0], .int .i64 0, .int .i64 0]) ∧ Below w.heap.size w w' := by
  refine callsIn_of_wp_marks Tryz.func21 rfl trivial ?_ rfl
  simp only [Tryz.ntmps21, List.size_toArray, List.length_cons, List.length_nil, Nat.reduceAdd, Nat.reduceSub, Array.replicate_succ, Array.replicate_zero, List.push_toArray, List.append_toArray, List.nil_append, List.cons_append]
  obtain ⟨W0, hW0⟩ : ∃ X, X = ((w.alloc (.cells #[.int .u8 0, .string ⟨#[]⟩, .slice none 0 0, .slice none 0 0] 58)).alloc (.cells #[.int .i64 0] 35)).alloc (.cells #[.int .i64 0] 3) := ⟨_, rfl⟩
  have hb0 : Below w.heap.size w W0 := by rw [hW0]; exact (((Below.refl _ w).alloc (Nat.le_refl _) _).alloc (by simp) _).alloc (by simp; omega) _
  have hx : W0.heap[w.heap.size]? = some (.cells #[.int .u8 0, .string ⟨#[]⟩, .slice none 0 0, .slice none 0 0] 58 (0, 0)) := by rw [hW0]; exact tblk_alloc (tblk_alloc (tblk_at rfl) _) _
  have hy : W0.heap[w.heap.size + 1]? = some (.cells #[.int .i64 0] 35 (0, 0)) := by rw [hW0]; exact tblk_alloc (tblk_at (by simp)) _
  have hz : W0.heap[w.heap.size + 1 + 1]? = some (.cells #[.int .i64 0] 3 (0, 0)) := by rw [hW0]; exact tblk_at (by simp)
  have hs0 : W0.heap.size = w.heap.size + 3 := by rw [hW0]; simp
  have Hs0 := Lib.hid hs0
  clear hs0
  gi_upto_region 1 with (fail)
  rw [← hW0]
  clear hW0
  obtain ⟨W1, hW1⟩ : ∃ X, X = (W0.alloc (.cells #[.int .i64 0, .slice none 0 0] 93)).alloc (.cells #[.slice (some ⟨W0.heap.size, 0, none⟩) 1 1] 95) := ⟨_, rfl⟩
  have hb1 : Below W0.heap.size W0 W1 := by rw [hW1]; exact ((Below.refl _ W0).alloc (Nat.le_refl _) _).alloc (by simp) _
  have hm : W1.heap[W0.heap.size]? = some (.cells #[.int .i64 0, .slice none 0 0] 93 (0, 0)) := by rw [hW1]; exact tblk_alloc (tblk_at rfl) _
  have hl : W1.heap[W0.heap.size + 1]? = some (.cells #[.slice (some ⟨W0.heap.size, 0, none⟩) 1 1] 95 (0, 0)) := by rw [hW1]; exact tblk_at (by simp)
  gi_upto_region 4 with (fail)
  rw [← hW1]
  clear hW1
  gi_wp2_with fail
  refine ⟨trivial, ?_⟩
  refine (callsIn_wide.2 (lines0 W1 ⟨#[]⟩)).mono ?_
  rintro e w6 ⟨rfl, hw6⟩
  obtain ⟨W2, hW2⟩ : ∃ X, X = w6 := ⟨_, rfl⟩
  rw [← hW2] at hw6 ⊢
  clear hW2
  have hb2 : Below W1.heap.size W1 W2 := by rw [← hw6]; exact (Below.refl _ W1).alloc (Nat.le_refl _) _
  have hs2 : W2.heap.size = W1.heap.size + 1 := by rw [← hw6]; simp
  have hq : W2.heap[W1.heap.size]? = some (.cells #[.string ⟨#[]⟩] 9 (0, 0)) := by rw [← hw6]; exact tblk_at rfl
  have hc := cell_of_one hq
  have hlq := (Array.getElem?_eq_some_iff.1 hq).1
  have hb02 := hb1.trans (hb2.mono hb1.size)
  have HB02 := Lib.hid (hb0.trans (hb02.mono hb0.size))
  have Hx := Lib.hid ((hb02.block _ (Array.getElem?_eq_some_iff.1 hx).1).trans hx)
  have Hy := Lib.hid ((hb02.block _ (Array.getElem?_eq_some_iff.1 hy).1).trans hy)
  have Hz := Lib.hid ((hb02.block _ (Array.getElem?_eq_some_iff.1 hz).1).trans hz)
  have Hm := Lib.hid ((hb2.block _ (Array.getElem?_eq_some_iff.1 hm).1).trans hm)
  have Hl := Lib.hid ((hb2.block _ (Array.getElem?_eq_some_iff.1 hl).1).trans hl)
  clear hw6 hb0 hb1 hb2 hb02 hs2 hx hy hz hm hl hq
  gi_wp2
  refine wpIn_rangeFunc_ownH (F := Fence.wide) (n := 6) rfl (by omega) (gf := 96) (lb := #[.pointer (some ⟨W1.heap.size, 0, none⟩)]) rfl trivial (enters_of Tryz.func96 (by kernel_rfl) rfl)
      (lines_stop W1.heap.size W2 hlq hc) (fun _ _ => trivial) (fun _ _ _ _ _ _ _ _ => trivial) (Below.refl _ _) (by intro x; rfl)
      (fun _ X => Below W2.heap.size W2 X)
      (fun _ _ _ => False)
      (ownFrom_below (Nat.le_refl _) (Nat.le_refl _))
      (fun _ _ _ _ _ hs _ _ => hs)
      (Below.refl _ _)
      (fun x a' X => True)
      (fun x a' _ X Y row hs hg hr => trivial)
      ?assign ?body ?done ?stop
  case assign =>
    rintro l pre x X K hI hK
    gi_wp2
    exact hK _ _ ((KeepsOthers.alloc _ _).from _) trivial (hI.alloc hI.size _) trivial
  case body =>
    rintro l pre x a' X hl _ _ _ hlt
    exact absurd hlt (Nat.not_lt_zero _)
  case done =>
    rintro D xs X hD hx hI hK
    have hbX := hI
    replace Hx := Lib.hid ((hI.block _ (Array.getElem?_eq_some_iff.1 Hx.out).1).trans Hx.out)
    replace Hy := Lib.hid ((hI.block _ (Array.getElem?_eq_some_iff.1 Hy.out).1).trans Hy.out)
    replace Hz := Lib.hid ((hI.block _ (Array.getElem?_eq_some_iff.1 Hz.out).1).trans Hz.out)
    replace Hm := Lib.hid ((hI.block _ (Array.getElem?_eq_some_iff.1 Hm.out).1).trans Hm.out)
    replace Hl := Lib.hid ((hI.block _ (Array.getElem?_eq_some_iff.1 Hl.out).1).trans Hl.out)
    have HD := Lib.hid (Nat.le_trans HB02.out.size hD)
    replace HB02 := Lib.hid (HB02.out.trans (hI.mono HB02.out.size))
    have HK := Lib.hid hK
    clear hbX hI hK hD
    gi_wp2_with fail
    refine ⟨trivial, ?_⟩
    refine (callsIn_wide.2 (all0 X (W0.heap.size + 1) W0.heap.size 1 Hl.out Hm.out)).mono ?_
    rintro e X1 ⟨rfl, hb1⟩
    replace Hx := Lib.hid ((hb1.block _ (Array.getElem?_eq_some_iff.1 Hx.out).1).trans Hx.out)
    replace Hy := Lib.hid ((hb1.block _ (Array.getElem?_eq_some_iff.1 Hy.out).1).trans Hy.out)
    replace Hz := Lib.hid ((hb1.block _ (Array.getElem?_eq_some_iff.1 Hz.out).1).trans Hz.out)
    replace HK := Lib.hid ((hb1.block _ (Array.getElem?_eq_some_iff.1 HK.out).1).trans HK.out)
    replace HB02 := Lib.hid (HB02.out.trans (hb1.mono HB02.out.size))
    clear hb1 Hl Hm
    have x0 := cell_of_row X1 w.heap.size 0 _ 58 (0, 0) Hx.out
    have x1 := cell_of_row X1 w.heap.size 1 _ 58 (0, 0) Hx.out
    have x2 := cell_of_row X1 w.heap.size 2 _ 58 (0, 0) Hx.out
    have x3 := cell_of_row X1 w.heap.size 3 _ 58 (0, 0) Hx.out
    have f0 : X1.frozen? ⟨w.heap.size, 0, none⟩ = false := frozen_of_row X1 w.heap.size 0 _ 58 Hx.out
    have f1 : X1.frozen? ⟨w.heap.size, 1, none⟩ = false := frozen_of_row X1 w.heap.size 1 _ 58 Hx.out
    have f2 : X1.frozen? ⟨w.heap.size, 2, none⟩ = false := frozen_of_row X1 w.heap.size 2 _ 58 Hx.out
    have f3 : X1.frozen? ⟨w.heap.size, 3, none⟩ = false := frozen_of_row X1 w.heap.size 3 _ 58 Hx.out
    have hl1 := (Array.getElem?_eq_some_iff.1 Hx.out).1
    have y0 := cell_of_one Hy.out
    have yf := free_of_one Hy.out
    have hl2 := (Array.getElem?_eq_some_iff.1 Hy.out).1
    have z0 := cell_of_one Hz.out
    have zf := free_of_one Hz.out
    have hl3 := (Array.getElem?_eq_some_iff.1 Hz.out).1
    simp at x0 x1 x2 x3
    gi_wp2
    obtain ⟨G, hG⟩ : ∃ G, G = (((((X1.setCell ⟨w.heap.size, 0, none⟩ (.int .u8 0)).setCell ⟨w.heap.size, 1, none⟩ (.string ⟨#[]⟩)).setCell ⟨w.heap.size, 2, none⟩ (.slice none 0 0)).setCell ⟨w.heap.size, 3, none⟩ (.slice none 0 0)).setCell ⟨w.heap.size + 1, 0, none⟩ (.int .i64 0)).setCell ⟨w.heap.size + 1 + 1, 0, none⟩ (.int .i64 0) := ⟨_, rfl⟩
    rw [← hG]
    have hD' : w.heap.size + 2 < D := by
      have h1 := Hz.out
      have h2 := HK.out
      rcases Nat.lt_trichotomy D (w.heap.size + 1 + 1) with h | h | h
      · rcases Nat.lt_trichotomy D (w.heap.size + 1) with h3 | h3 | h3
        · have := HD.out
          have h5 : D = w.heap.size := by omega
          subst h5
          have h4 := Hx.out
          rw [h2] at h4; cases h4
        · subst h3
          have h4 := Hy.out
          rw [h2] at h4; cases h4
        · omega
      · subst h
        rw [h2] at h1; cases h1
      · omega
    have gx : G.heap[w.heap.size]? = some (.cells #[.int .u8 0, .string ⟨#[]⟩, .slice none 0 0, .slice none 0 0] 58 (0, 0)) := by
      rw [hG]
      refine (Below.heap_setCell _ ⟨w.heap.size + 1 + 1, 0, none⟩ _ _ (by show w.heap.size ≠ w.heap.size + 1 + 1; omega)).trans ((Below.heap_setCell _ ⟨w.heap.size + 1, 0, none⟩ _ _ (by show w.heap.size ≠ w.heap.size + 1; omega)).trans ?_)
      exact heap_setCell_same _ w.heap.size 3 _ 58 _ (heap_setCell_same _ w.heap.size 2 _ 58 _ (heap_setCell_same _ w.heap.size 1 _ 58 _ (heap_setCell_same _ w.heap.size 0 _ 58 _ Hx.out)))
    have go : ∀ k, k ≠ w.heap.size → k ≠ w.heap.size + 1 → k ≠ w.heap.size + 1 + 1 → G.heap[k]? = X1.heap[k]? := fun k h1 h2 h3 => by
      rw [hG]
      exact (Below.heap_setCell _ ⟨w.heap.size + 1 + 1, 0, none⟩ _ _ h3).trans ((Below.heap_setCell _ ⟨w.heap.size + 1, 0, none⟩ _ _ h2).trans ((Below.heap_setCell _ ⟨w.heap.size, 3, none⟩ _ _ h1).trans ((Below.heap_setCell _ ⟨w.heap.size, 2, none⟩ _ _ h1).trans ((Below.heap_setCell _ ⟨w.heap.size, 1, none⟩ _ _ h1).trans (Below.heap_setCell _ ⟨w.heap.size, 0, none⟩ _ _ h1)))))
    have g4 : ((((X1.setCell ⟨w.heap.size, 0, none⟩ (.int .u8 0)).setCell ⟨w.heap.size, 1, none⟩ (.string ⟨#[]⟩)).setCell ⟨w.heap.size, 2, none⟩ (.slice none 0 0)).setCell ⟨w.heap.size, 3, none⟩ (.slice none 0 0)).heap[w.heap.size + 1]? = some (.cells #[.int .i64 0] 35 (0, 0)) := by
      have h1 : w.heap.size + 1 ≠ w.heap.size := by omega
      exact ((Below.heap_setCell _ ⟨w.heap.size, 3, none⟩ _ _ h1).trans ((Below.heap_setCell _ ⟨w.heap.size, 2, none⟩ _ _ h1).trans ((Below.heap_setCell _ ⟨w.heap.size, 1, none⟩ _ _ h1).trans (Below.heap_setCell _ ⟨w.heap.size, 0, none⟩ _ _ h1)))).trans Hy.out
    have gy : G.heap[w.heap.size + 1]? = some (.cells #[.int .i64 0] 35 (0, 0)) := by
      rw [hG]
      exact (Below.heap_setCell _ ⟨w.heap.size + 1 + 1, 0, none⟩ _ _ (by show w.heap.size + 1 ≠ w.heap.size + 1 + 1; omega)).trans (one_setCell g4)
    have g5 : (((((X1.setCell ⟨w.heap.size, 0, none⟩ (.int .u8 0)).setCell ⟨w.heap.size, 1, none⟩ (.string ⟨#[]⟩)).setCell ⟨w.heap.size, 2, none⟩ (.slice none 0 0)).setCell ⟨w.heap.size, 3, none⟩ (.slice none 0 0)).setCell ⟨w.heap.size + 1, 0, none⟩ (.int .i64 0)).heap[w.heap.size + 1 + 1]? = some (.cells #[.int .i64 0] 3 (0, 0)) := by
      have h1 : w.heap.size + 1 + 1 ≠ w.heap.size := by omega
      have h2 : w.heap.size + 1 + 1 ≠ w.heap.size + 1 := by omega
      exact ((Below.heap_setCell _ ⟨w.heap.size + 1, 0, none⟩ _ _ h2).trans ((Below.heap_setCell _ ⟨w.heap.size, 3, none⟩ _ _ h1).trans ((Below.heap_setCell _ ⟨w.heap.size, 2, none⟩ _ _ h1).trans ((Below.heap_setCell _ ⟨w.heap.size, 1, none⟩ _ _ h1).trans (Below.heap_setCell _ ⟨w.heap.size, 0, none⟩ _ _ h1))))).trans Hz.out
    have gz : G.heap[w.heap.size + 1 + 1]? = some (.cells #[.int .i64 0] 3 (0, 0)) := by
      rw [hG]
      exact one_setCell g5
    have gD := (go D (by omega) (by omega) (by omega)).trans HK.out
    have gB : Below w.heap.size w G := by
      rw [hG]
      exact (((((HB02.out.setCell (p := ⟨w.heap.size, 0, none⟩) (Nat.le_refl _) _).setCell (p := ⟨w.heap.size, 1, none⟩) (Nat.le_refl _) _).setCell (p := ⟨w.heap.size, 2, none⟩) (Nat.le_refl _) _).setCell (p := ⟨w.heap.size, 3, none⟩) (Nat.le_refl _) _).setCell (p := ⟨w.heap.size + 1, 0, none⟩) (by show w.heap.size ≤ w.heap.size + 1; omega) _).setCell (p := ⟨w.heap.size + 1 + 1, 0, none⟩) (by show w.heap.size ≤ w.heap.size + 1 + 1; omega) _
    clear hG g4 g5 go
    have gB2 : Below w.heap.size w (G.putObj D (.deferred none)) := gB.grown (grownBy_putObj' G D (.deferred none)) gB.size (fun k e => by cases e; omega)
    have px : (G.putObj D (.deferred none)).heap[w.heap.size]? = _ := (World.putObj_heap_other (by omega)).trans gx
    have py : (G.putObj D (.deferred none)).heap[w.heap.size + 1]? = _ := (World.putObj_heap_other (by omega)).trans gy
    have pz : (G.putObj D (.deferred none)).heap[w.heap.size + 1 + 1]? = _ := (World.putObj_heap_other (by omega)).trans gz
    have q0 := cell_of_row _ w.heap.size 0 _ 58 (0, 0) px
    have q1 := cell_of_row _ w.heap.size 1 _ 58 (0, 0) px
    have q2 := cell_of_row _ w.heap.size 2 _ 58 (0, 0) px
    have q3 := cell_of_row _ w.heap.size 3 _ 58 (0, 0) px
    have q4 := cell_of_one py
    have q5 := cell_of_one pz
    simp at q0 q1 q2 q3
    refine ⟨by simp, .inl ⟨_, _, rfl, run_takeDeferred gD, ?_⟩⟩
    exact ⟨.tuple #[.agg #[.int .u8 0, .string ⟨#[]⟩, .slice none 0 0, .slice none 0 0], .int .i64 0, .int .i64 0], by simp [results, Tryz.results21, go_sem, q0, q1, q2, q3, q4, q5], rfl, gB2⟩
  case stop =>
    rintro D c pre W _ _ h _
    exact h.elim
theorem parse0 (w : World) : Calls Tryz.prog 21 #[.string ⟨#[]⟩] w fun e w' => e = .returned (.tuple #[.agg #[.int .u8 0, .string ⟨#[]⟩, .slice none 0 0, .slice none 0 0], .int .i64 0, .int .i64 0]) ∧ Below w.heap.size w w' := callsIn_wide.1 (parse_in w)
end Go.Proofs.YtkhmdofeonlnpaaGreatDoor
