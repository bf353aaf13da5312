/- The tied card of the law ValueFloats is proved: for every two unsigned numbers, the law returns true, and each argument reads afterwards as it did; no condition of ours beside what the card lists. -/
import Derived.Test.YtnnnnlcpmocnfaaDoorRows
import Derived.Test.YtnnnnlcpmocnfaaDoorCards
import Derived.Test.YtnnnnlcpmocnfaaDoorTie
import Derived.Test.YtnnnnlcpmocnfaaDoorVal6
import Derived.SizedLaws
import Derived.ProofKit
import Derived.OpenShut
import Derived.ShutString
import Derived.LaidMore
import Derived.Lay
import Derived.SevenTiedAt
import Derived.Stop.Joined
namespace Go.Proofs.YtnnnnlcpmocnfaaDoor.valueFloats
open Go.ChangeShapes Go.WideShapes Go.ChangeAt Go.RowKit
open Go.ChangeMaps (open_string shut_string)
set_option linter.unusedVariables false
set_option linter.unusedSimpArgs false
attribute [local go_sem] run_store_float

theorem own : ownKnob Tryd.prog.godebug = none := by kernel_rfl

theorem compare_self (x : Int) : compare x x = Ordering.eq := by simp [compare, compareOfLessAndEq]
theorem compare_nat (x : Nat) : compare x x = Ordering.eq := by simp [compare, compareOfLessAndEq]
/-- a datum and itself: equal, or a NaN -/
theorem order_self (d : Ieee.Datum) : d.order d = some .eq ∨ (d.order d = none ∧ ∀ e : Ieee.Datum, d.order e = none ∧ e.order d = none) := by
  cases d with
  | nan s f => exact .inr ⟨rfl, fun e => ⟨rfl, by cases e <;> rfl⟩⟩
  | infinity s => exact .inl (by simp [Ieee.Datum.order, compare_nat])
  | number s m i => exact .inl (by simp [Ieee.Datum.order, compare_self])
theorem order_some (d e : Ieee.Datum) (hd : d.order d = some .eq) (he : e.order e = some .eq) : ∃ o, d.order e = some o := by
  cases d <;> cases e <;> first | exact ⟨_, rfl⟩ | cases hd | cases he
abbrev O (a b : Nat) : Option Ordering := FloatKind.f64.format.order a b
theorem fo_self (a : Nat) : O a a = some .eq ∨ (O a a = none ∧ ∀ b, O a b = none ∧ O b a = none) := by
  rcases order_self (FloatKind.f64.format.read a) with h | ⟨h, h'⟩
  · exact .inl h
  · exact .inr ⟨h, fun b => h' _⟩
theorem fo_some (a b : Nat) (ha : O a a = some .eq) (hb : O b b = some .eq) : ∃ o, O a b = some o := order_some _ _ ha hb

theorem same_pairs_nil (w : World) : Calls Tryd.prog 22 #[.slice none 0 0, .slice none 0 0] w fun e w' => e = .returned (.bool true) ∧ w = w' := by
  go_enter Tryd.func22, Tryd.ntmps22
  go_wp2
  refine wp_loop_rounds 1 ?_
  rw [rounds_succ]
  go_wp2
  go_ret
  exact ⟨rfl, rfl⟩
set_option maxRecDepth 100000 in
set_option maxHeartbeats 1000000 in
theorem same_eq (a : Nat) (w : World) : Calls Tryd.prog 20 #[.agg (nv 4 0 a), .agg (nv 4 0 a)] w fun e w' => e = .returned (.bool true) ∧ Below w.heap.size w w' := by
  have h58 := Tryd.bits58
  have haa : ((a : Int) != (a : Int)) = false := by simp
  go_enter Tryd.func20, Tryd.ntmps20
  go_wp2
  go_quiet (fail)
  go_wp2
  refine wp_loop_rounds 1 ?_
  rw [rounds_succ]
  go_wp2_with (go_at_call 22; refine (same_pairs_nil _).mono ?_; rintro e w' ⟨rfl, rfl⟩)
  go_ret
  refine ⟨rfl, Below.trans (b := (w.alloc (.cells (nv 4 0 a) 27)).alloc (.cells (nv 4 0 a) 27)) (by go_grown) ⟨rfl, rfl, rfl, Nat.le_refl _, fun _ _ => rfl⟩⟩
set_option maxRecDepth 100000 in
set_option maxHeartbeats 1000000 in
theorem same_ne (a b : Nat) (w : World) (hab : ((a : Int) != (b : Int)) = true) : Calls Tryd.prog 20 #[.agg (nv 4 0 a), .agg (nv 4 0 b)] w fun e w' => e = .returned (.bool false) ∧ Below w.heap.size w w' := by
  have h58 := Tryd.bits58
  go_enter Tryd.func20, Tryd.ntmps20
  go_wp2
  go_quiet (fail)
  go_wp2
  go_ret
  refine ⟨rfl, Below.trans (b := (w.alloc (.cells (nv 4 0 a) 27)).alloc (.cells (nv 4 0 b) 27)) (by go_grown) ⟨rfl, rfl, rfl, Nat.le_refl _, fun _ _ => rfl⟩⟩

theorem box7 {w : World} {g : Nat} {f : Nat} (h : w.heap[g]? = some (.cells (nv 4 0 f) 27 (0, 0))) :
    w.cell? ⟨g, 0, none⟩ = some (.int .u8 4) ∧ w.cell? ⟨g, 1, none⟩ = some (.string ⟨#[]⟩) ∧ w.cell? ⟨g, 2, none⟩ = some (.bool false) ∧ w.cell? ⟨g, 3, none⟩ = some (.int .i64 0) ∧
    w.cell? ⟨g, 4, none⟩ = some (.float .f64 f) ∧ w.cell? ⟨g, 5, none⟩ = some (.slice none 0 0) ∧ w.cell? ⟨g, 6, none⟩ = some (.slice none 0 0) :=
  ⟨cell_of_row w g 0 _ 27 (0, 0) h, cell_of_row w g 1 _ 27 (0, 0) h, cell_of_row w g 2 _ 27 (0, 0) h, cell_of_row w g 3 _ 27 (0, 0) h, cell_of_row w g 4 _ 27 (0, 0) h, cell_of_row w g 5 _ 27 (0, 0) h, cell_of_row w g 6 _ 27 (0, 0) h⟩

theorem wrote (f : Nat) (hf : f < 18446744073709551616) (w : World) : Calls Tryd.prog 33 #[.agg (nv 4 0 f)] w fun e w' => e = .returned (.tuple #[.string ⟨(M.enc1 ⟨4, 1, f, []⟩).toArray⟩, .int .i64 0]) ∧ Below w.heap.size w w' :=
  (write_num w 4 0 f (M.enc1 ⟨4, 1, f, []⟩) (fun w => check_num 4 0 f 0 w (.inr rfl) (by omega) (bare_float f)) (fun w => written_float w f hf)).mono fun e w' ⟨he, hb⟩ => ⟨he, hb⟩

theorem enc_inj (a b : Nat) (ha : a < 18446744073709551616) (hb : b < 18446744073709551616) (h : M.enc1 ⟨4, 1, a, []⟩ = M.enc1 ⟨4, 1, b, []⟩) : a = b := by
  have hk : ∀ x, M.key ⟨4, 1, x, []⟩ = 33 := fun x => by simp [M.key]
  have hbd : ∀ x, M.body ⟨4, 1, x, []⟩ = M.le 8 x := fun x => by simp [M.body]
  rw [M.enc1, M.enc1, hk, hk, hbd, hbd] at h
  have h2 := List.append_cancel_left h
  have := congrArg M.unle h2
  rwa [M.unle_le 8 a (by simpa using ha), M.unle_le 8 b (by simpa using hb)] at this

set_option maxRecDepth 100000 in
set_option maxHeartbeats 32000000 in
/-- the walk, its callees' answers and the floats' order at hand -/
theorem walk_core (a b : Nat) (xs ys : List UInt8) (n : Int) (is same : Bool) (w : World)
    (hxy : (xs == ys) = same) (hxz : (!xs == ys) = !same) (hab : ((a : Int) == (b : Int)) = same)
    (hWa : ∀ w, Calls Tryd.prog 33 #[.agg (nv 4 0 a)] w fun e w' => e = .returned (.tuple #[.string ⟨xs.toArray⟩, .int .i64 0]) ∧ Below w.heap.size w w')
    (hWb : ∀ w, Calls Tryd.prog 33 #[.agg (nv 4 0 b)] w fun e w' => e = .returned (.tuple #[.string ⟨ys.toArray⟩, .int .i64 0]) ∧ Below w.heap.size w w')
    (hC : ∀ w, Calls Tryd.prog 13 #[.agg (nv 4 0 a), .agg (nv 4 0 b)] w fun e w' => e = .returned (.tuple #[.int .i64 n, .bool is]) ∧ Below w.heap.size w w')
    (hS : ∀ w, Calls Tryd.prog 20 #[.agg (nv 4 0 a), .agg (nv 4 0 b)] w fun e w' => e = .returned (.bool same) ∧ Below w.heap.size w w')
    (hcase : (is = true ∧ O a a = some .eq ∧ O b b = some .eq ∧ ((n = -1 ∧ O a b = some .lt) ∨ (n = 0 ∧ O a b = some .eq) ∨ (n = 1 ∧ O a b = some .gt))) ∨
      (is = false ∧ n = 0 ∧ O a b = none ∧ (O a a = none ∨ O a a = some .eq ∧ O b b = none))) :
    Calls Tryd.prog 8 #[.int .u64 (a : Int), .int .u64 (b : Int)] w fun e w' => e = .returned (.bool true) ∧ Below w.heap.size w w' := by
  have h38a : ∀ W, (callFunc 38 #[.int .u64 (a : Int)]).run Tryd.prog W = .ok (.value (.float .f64 a)) W := fun W => by have := Tryd.from38 (a : Int) W; rwa [Int.toNat_natCast] at this
  have h38b : ∀ W, (callFunc 38 #[.int .u64 (b : Int)]).run Tryd.prog W = .ok (.value (.float .f64 b)) W := fun W => by have := Tryd.from38 (b : Int) W; rwa [Int.toNat_natCast] at this
  have HWa := Lib.hid hWa
  have HWb := Lib.hid hWb
  have HC := Lib.hid hC
  have HS := Lib.hid hS
  clear hWa hWb hC hS
  rcases hcase with ⟨rfl, ha, hb, ⟨rfl, ho⟩ | ⟨rfl, ho⟩ | ⟨rfl, ho⟩⟩ | ⟨rfl, rfl, ho, ha | ⟨ha, hb⟩⟩
  all_goals
    unfold O at *
    cases same
    all_goals
      go_enter Tryd.func8, Tryd.ntmps8
      go_wp2_with fail
      refine (lives_any w).mono ?_
      rintro e w1 ⟨rfl, hb1⟩
      have Hb1 := Lib.hid hb1
      clear hb1
      go_wp2_with fail
      refine (part_any a _).mono ?_
      rintro e w2 ⟨rfl, hb2⟩
      have Hb2 := Lib.hid (Hb1.out.trans (hb2.mono Hb1.out.size))
      clear hb2
      go_wp2_with fail
      refine (part_any b _).mono ?_
      rintro e w3 ⟨rfl, hb3⟩
      have Hb3 := Lib.hid (Hb2.out.trans (hb3.mono Hb2.out.size))
      clear hb3
      go_wp2_with fail
      refine (HWa.out _).mono ?_
      rintro e w4 ⟨rfl, hb4⟩
      have hx4 : w4.heap[w3.heap.size]? = some (.cells (nv 4 0 a) 27 (0, 0)) := (hb4.block _ (by simp; omega)).trans (blk_alloc (blk_new w3 _) _)
      have hy4 : w4.heap[w3.heap.size + 1]? = some (.cells (nv 4 0 b) 27 (0, 0)) := (hb4.block _ (by simp)).trans (blk_at (by simp))
      have Hb4 := Lib.hid (((Hb3.out.alloc Hb3.out.size (.cells (nv 4 0 a) 27)).alloc (by have := Hb3.out.size; simp; omega) (.cells (nv 4 0 b) 27)).trans (hb4.mono (by have := Hb3.out.size; simp; omega)))
      have hlx : w3.heap.size < w4.heap.size := (Array.getElem?_eq_some_iff.1 hx4).1
      have hly : w3.heap.size + 1 < w4.heap.size := (Array.getElem?_eq_some_iff.1 hy4).1
      have Hx4 := Lib.hid hx4
      have Hy4 := Lib.hid hy4
      obtain ⟨p0, p1, p2, p3, p4, p5, p6⟩ := box7 hy4
      clear hb4 hx4 hy4
      go_wp2_with fail
      refine (HWb.out _).mono ?_
      rintro e w5 ⟨rfl, hb5⟩
      have hx5 := (hb5.block _ hlx).trans Hx4.out
      have hy5 := (hb5.block _ hly).trans Hy4.out
      have Hb5 := Lib.hid (Hb4.out.trans (hb5.mono Hb4.out.size))
      have hlx5 : w3.heap.size < w5.heap.size := (Array.getElem?_eq_some_iff.1 hx5).1
      have hly5 : w3.heap.size + 1 < w5.heap.size := (Array.getElem?_eq_some_iff.1 hy5).1
      have Hx5 := Lib.hid hx5
      have Hy5 := Lib.hid hy5
      clear p0 p1 p2 p3 p4 p5 p6
      obtain ⟨p0, p1, p2, p3, p4, p5, p6⟩ := box7 hy5
      obtain ⟨q0, q1, q2, q3, q4, q5, q6⟩ := box7 hx5
      clear hb5 hx5 hy5
      go_wp2_with fail
      refine (HC.out _).mono ?_
      rintro e w6 ⟨rfl, hb6⟩
      have hx6 := (hb6.block _ hlx5).trans Hx5.out
      have hy6 := (hb6.block _ hly5).trans Hy5.out
      have Hb6 := Lib.hid (Hb5.out.trans (hb6.mono Hb5.out.size))
      have hlx6 : w3.heap.size < w6.heap.size := (Array.getElem?_eq_some_iff.1 hx6).1
      have hly6 : w3.heap.size + 1 < w6.heap.size := (Array.getElem?_eq_some_iff.1 hy6).1
      have Hx6 := Lib.hid hx6
      have Hy6 := Lib.hid hy6
      clear p0 p1 p2 p3 p4 p5 p6 q0 q1 q2 q3 q4 q5 q6
      obtain ⟨p0, p1, p2, p3, p4, p5, p6⟩ := box7 hy6
      obtain ⟨q0, q1, q2, q3, q4, q5, q6⟩ := box7 hx6
      clear hb6 hx6 hy6
      go_wp2_with fail
      refine (HS.out _).mono ?_
      rintro e w7 ⟨rfl, hb7⟩
      have hx7 := (hb7.block _ hlx6).trans Hx6.out
      have hy7 := (hb7.block _ hly6).trans Hy6.out
      have Hb7 := Lib.hid (Hb6.out.trans (hb7.mono Hb6.out.size))
      clear p0 p1 p2 p3 p4 p5 p6 q0 q1 q2 q3 q4 q5 q6
      obtain ⟨p0, p1, p2, p3, p4, p5, p6⟩ := box7 hy7
      obtain ⟨q0, q1, q2, q3, q4, q5, q6⟩ := box7 hx7
      clear hb7 hx7 hy7
      go_wp2
      go_ret
      exact ⟨rfl, Hb7.out⟩

theorem walk (A B : Int) (hA0 : 0 ≤ A) (hA1 : A ≤ 18446744073709551615) (hB0 : 0 ≤ B) (hB1 : B ≤ 18446744073709551615) (w : World) :
    Calls Tryd.prog 8 #[.int .u64 A, .int .u64 B] w fun e w' => e = .returned (.bool true) ∧ Below w.heap.size w w' := by
  obtain ⟨a, rfl⟩ := Int.eq_ofNat_of_zero_le hA0
  obtain ⟨b, rfl⟩ := Int.eq_ofNat_of_zero_le hB0
  have ha : a < 18446744073709551616 := by omega
  have hb : b < 18446744073709551616 := by omega
  clear hA0 hA1 hB0 hB1
  have hxy : ((M.enc1 ⟨4, 1, a, []⟩ == M.enc1 ⟨4, 1, b, []⟩) = decide (a = b)) := by
    by_cases e : a = b
    · subst e; simp
    · rw [decide_eq_false e]
      exact beq_eq_false_iff_ne.2 fun h => e (enc_inj a b ha hb h)
  have hab : ((a : Int) == (b : Int)) = decide (a = b) := by
    by_cases e : a = b
    · subst e; simp
    · rw [decide_eq_false e]
      exact beq_eq_false_iff_ne.2 fun h => e (by omega)
  have hS : ∀ w, Calls Tryd.prog 20 #[.agg (nv 4 0 a), .agg (nv 4 0 b)] w fun e w' => e = .returned (.bool (decide (a = b))) ∧ Below w.heap.size w w' := fun w => by
    by_cases e : a = b
    · subst e; rw [decide_eq_true rfl]; exact same_eq a w
    · rw [decide_eq_false e]; exact same_ne a b w (by rw [bne_iff_ne]; omega)
  have fin : ∀ (n : Int) (is : Bool), (∀ w, Calls Tryd.prog 13 #[.agg (nv 4 0 a), .agg (nv 4 0 b)] w fun e w' => e = .returned (.tuple #[.int .i64 n, .bool is]) ∧ Below w.heap.size w w') → _ → _ := fun n is hC hcase =>
    walk_core a b (M.enc1 ⟨4, 1, a, []⟩) (M.enc1 ⟨4, 1, b, []⟩) n is (decide (a = b)) w hxy (by rw [hxy]) hab (wrote a ha) (wrote b hb) hC hS hcase
  rcases fo_self a with h1 | ⟨h1, h1'⟩
  · rcases fo_self b with h2 | ⟨h2, h2'⟩
    · obtain ⟨o, ho⟩ := fo_some a b h1 h2
      refine fin (ordI o) true (fun w => cmp_ff a b o w h1 h2 ho) (.inl ⟨rfl, h1, h2, ?_⟩)
      cases o
      · exact .inl ⟨rfl, ho⟩
      · exact .inr (.inl ⟨rfl, ho⟩)
      · exact .inr (.inr ⟨rfl, ho⟩)
    · exact fin 0 false (fun w => cmp_nan a b w (.inr ⟨by rw [show FloatKind.f64.format.order a a = some .eq from h1]; rfl, by rw [show FloatKind.f64.format.order b b = none from h2]; rfl⟩)) (.inr ⟨rfl, rfl, (h2' a).2, .inr ⟨h1, h2⟩⟩)
  · exact fin 0 false (fun w => cmp_nan a b w (.inl (by rw [show FloatKind.f64.format.order a a = none from h1]; rfl))) (.inr ⟨rfl, rfl, (h1' b).1, .inl h1⟩)

theorem laidOut : laidOutB Tryd.prog = true := by kernel_rfl

set_option maxRecDepth 100000 in
theorem lifted (os : Os) (started : os.Started) (H : Type) (enc : TypeId × Value → H) :
    ReturnsInHanded {} Tryd.checked os 8 .any (fun w args => (Rows.valueFloatsSpec.pre enc Tryd.prog Tryd.f8 Rows.valueFloatsRow.domain false w args ∧ laidMetH Tryd.prog Rows.valueFloatsRow.laid w) ∧ sizedMet enc Tryd.prog Tryd.f8 (OpenSpec.ofChange Rows.valueFloatsSpec) false w args)
      (Rows.valueFloatsSpec.post enc Tryd.prog Tryd.f8 false true false false) := by
  refine returnsInHanded_of_change_and (C := Tryd.checked) (X := fun w _ => laidMetH Tryd.prog Rows.valueFloatsRow.laid w) (fun _ _ _ hh h => h.of_heap hh) own started (by kernel_rfl) Tryd.func8
    (ChangeSpec.witness_shaped (enc := enc) (C := Tryd.checked) (os := os) (X := fun w _ => laidMetH Tryd.prog Rows.valueFloatsRow.laid w) false (World.laidAll Tryd.prog os Rows.valueFloatsRow.laid) #[.int .u64 0, .int .u64 0] 8 (World.laidAll_os _ _ _)
      (World.shaped_of_ZipB (by kernel_rfl) (by kernel_rfl)) (by kernel_rfl) (by kernel_rfl) (by kernel_rfl)
      (by rw [MakeChecks.laidMetH_plain _ _ _ (by kernel_rfl)]; exact laidMet_laidAll _ (by kernel_rfl) (by kernel_rfl))) ?_
  intro W base args ds gs before hval0 hW hcnd0 hsz0 hL _
  have hval : ∀ (j : Nat) t v, Tryd.f8.params[j]? = some t → args[j]? = some v → Value.okWide Tryd.prog W .any base t v := hval0
  have hsz : (DataW.weightsEach Tryd.prog (Tryd.f8.params.toList ++ Rows.valueFloatsSpec.plain.varTypes Tryd.prog) (ds ++ gs)).all (· ≤ reachBytes) = true := hsz0
  have hW' := hW
  obtain ⟨p, q, hA0, hV, rfl, hfz, hnd⟩ := hW
  have hA : DataW.TrodAll enc Tryd.prog W 0 (fun _ => true) true Tryd.f8.params.toList args.toList ds p := hA0
  rw [Tryd.params8] at hA hval hsz
  obtain ⟨v0, vs0, d0, ds0, p0, q0, hargs, rfl, rfl, h0, r0⟩ := trodAll_cons hA
  obtain ⟨v1, vs1, d1, ds1, p1, q1, rfl, rfl, rfl, h1, r1⟩ := trodAll_cons r0
  obtain ⟨rfl, rfl, rfl⟩ := trodAll_nil r1
  obtain rfl : args = #[v0, v1] := by cases args; simp_all
  obtain ⟨rfl, rfl⟩ := trodVars_none hV
  obtain ⟨a0, rfl, rfl, rfl, w0⟩ := open_int Tryd.underlying42 (hval 0 42 v0 rfl rfl) h0
  obtain ⟨a1, rfl, rfl, rfl, w1⟩ := open_int Tryd.underlying42 (hval 1 42 v1 rfl rfl) h1
  clear hA0 hval0
  have bd0 := bounds_u64 w0
  have bd1 := bounds_u64 w1
  simp only [List.append_nil] at hW'
  refine (walk a0 a1 bd0.1 bd0.2 bd1.1 bd1.2 W).mono fun e W' ⟨he, bel⟩ => ?_
  subst he
  exact ⟨_, rfl, _, _, _, [], _, [], hW', trodAll_mk1 (shut_bool Tryd.underlying4 _), (trodAll_cons_mk (shut_int Tryd.underlying42 w0) (trodAll_cons_mk (shut_int Tryd.underlying42 w1) trodAll_mk0)), rfl, bel.frame _, fun h => by cases h⟩

theorem holds : Rows.ValueFloatsSaid :=
  OpenClaim.holds_of_wide 8 Tryd.f8 rfl rfl rfl rfl rfl rfl rfl ⟨rfl, rfl, rfl, rfl, rfl⟩ rfl rfl rfl rfl rfl (by kernel_rfl) Tryd.func8 (by kernel_rfl)
    (of_decide_eq_true (by kernel_rfl)) (by unfold Func.isWrapper; first | (rw [if_pos (by decide +kernel)]; kernel_rfl) | (rw [if_neg (by decide +kernel)]; exact ⟨rfl, rfl⟩))
    (fun os started H enc _ => lifted os started H enc)

theorem proved : Rows.ValueFloatsCardSaid :=
  Claim7.holds_tied_plain_at .later [] [.data, .pinned] true (true, "7373c1efbab3d802bc26fc9f45abaebeb7947f160a877160c81e9c24ffab6772") true holds (fun _ h => by cases h) (by kernel_rfl) (fun _ h => by cases h) valueFloats_row_tie rfl ⟨rfl, rfl⟩ (by kernel_rfl) rfl
    (fun f fn hf hfn => by
      obtain rfl : f = 8 := Option.some.inj ((show Tryd.prog.funcNamed "penstock/penstocklaw02.ValueFloats" = some 8 by kernel_rfl).symm.trans hf) |>.symm
      obtain rfl : fn = Tryd.f8 := (Option.some.inj (Tryd.func8.symm.trans hfn)).symm
      exact ⟨by kernel_rfl, fun j t ht => by
        rw [Tryd.params8] at ht
        have hm : t ∈ [42, 42] := by simpa using Array.mem_of_getElem? ht
        have hall : ([42, 42].all fun u => !Tryd.prog.wantsStandIn u) = true := by kernel_rfl
        exact (show Tryd.prog.wantsStandIn t = false by simpa using List.all_eq_true.1 hall t hm)⟩)
    (by kernel_rfl)
#print axioms proved
end Go.Proofs.YtnnnnlcpmocnfaaDoor.valueFloats
