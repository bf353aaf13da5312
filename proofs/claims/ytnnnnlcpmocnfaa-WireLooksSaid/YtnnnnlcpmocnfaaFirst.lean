/- THE WALK OVER THE DOCUMENT's OWN first. -/
import Derived.Test.YtnnnnlcpmocnfaaOnef
import Derived.RegionTactic
namespace Go.Proofs.Ytnnnnlcpmocnfaa
open Go.RowKit
set_option linter.unusedVariables false
set_option linter.unusedSimpArgs false

theorem slice_from (l : List UInt8) (k : Nat) (h : k ≤ l.length) (W : World) : (Instr.slice 9 (.string ⟨l.toArray⟩) (some (.int .i64 (k : Int))) none none).run Try.prog W = .ok (.string ⟨(l.drop k).toArray⟩) W := by
  have hs : (ByteArray.mk l.toArray).size = l.length := by simp [ByteArray.size]
  have h1 : (k : Int) ≤ (l.length : Int) := by omega
  rw [← extract_drop]
  simp [Instr.slice, Instr.sliceBounds, Instr.sliceBound, asIntOf, run_underlying Try.underlying9, hs, h]
theorem slice_to (l : List UInt8) (K : IntKind) (k : Nat) (h : k ≤ l.length) (W : World) : (Instr.slice 9 (.string ⟨l.toArray⟩) none (some (.int K (k : Int))) none).run Try.prog W = .ok (.string ⟨(l.take k).toArray⟩) W := by
  have hs : (ByteArray.mk l.toArray).size = l.length := by simp [ByteArray.size]
  have h1 : (k : Int) ≤ (l.length : Int) := by omega
  rw [← extract_take]
  simp [Instr.slice, Instr.sliceBounds, Instr.sliceBound, asIntOf, run_underlying Try.underlying9, hs, h]
theorem slice_fromK (l : List UInt8) (K : IntKind) (k : Nat) (h : k ≤ l.length) (W : World) : (Instr.slice 9 (.string ⟨l.toArray⟩) (some (.int K (k : Int))) none none).run Try.prog W = .ok (.string ⟨(l.drop k).toArray⟩) W := by
  have hs : (ByteArray.mk l.toArray).size = l.length := by simp [ByteArray.size]
  have h1 : (k : Int) ≤ (l.length : Int) := by omega
  rw [← extract_drop]
  simp [Instr.slice, Instr.sliceBounds, Instr.sliceBound, asIntOf, run_underlying Try.underlying9, hs, h]

/-- what first answers -/
def FirstPost (l : List UInt8) (w : World) (e : Ending) (w' : World) : Prop :=
  Below w.heap.size w w' ∧ match M.parse1 l with
  | .error x => ∃ a b c z r, e = .returned (.tuple #[.agg (fcells a b c z), .string ⟨List.toArray r⟩, .int .i64 (x : Int)])
  | .ok (f, r) => ∃ a b c z, Fit f a b c z ∧ e = .returned (.tuple #[.agg (fcells a b c z), .string ⟨r.toArray⟩, .int .i64 0])
theorem first_mk_err {l : List UInt8} {w w' : World} {x : Nat} {a b c : Int} {z r : List UInt8} (h : M.parse1 l = .error x) (hb : Below w.heap.size w w') : FirstPost l w (.returned (.tuple #[.agg (fcells a b c z), .string ⟨r.toArray⟩, .int .i64 (x : Int)])) w' :=
  ⟨hb, by rw [h]; exact ⟨a, b, c, z, r, rfl⟩⟩
theorem first_mk_ok {l : List UInt8} {w w' : World} {f : M.Fd} {a b c : Int} {z r : List UInt8} (h : M.parse1 l = .ok (f, r)) (hf : Fit f a b c z) (hb : Below w.heap.size w w') : FirstPost l w (.returned (.tuple #[.agg (fcells a b c z), .string ⟨r.toArray⟩, .int .i64 0])) w' :=
  ⟨hb, by rw [h]; exact ⟨a, b, c, z, hf, rfl⟩⟩

theorem first_e1 (l : List UInt8) (w : World) (hl : l.length ≤ 65536) (hr : M.rd l = none) :
    Calls Try.prog 37 #[.string ⟨l.toArray⟩] w (FirstPost l w) := by
  have hp : M.parse1 l = .error 9 := by unfold M.parse1; rw [hr]
  have hn := fun W => rreadNum_any l W (by omega)
  rw [rdVal_none hr] at hn
  have Hn := Lib.hid hn
  have Hp := Lib.hid hp
  clear hn hp hr
  go_enter Try.func37, Try.ntmps37
  go_wp2_with fail
  refine (Hn.out _).mono ?_
  rintro e w' ⟨rfl, rfl⟩
  go_wp2
  refine bodyPost_ret (v := .tuple #[.agg (fcells 0 0 0 []), .string ⟨#[]⟩, .int .i64 9]) (by simp [results, Try.results37, go_sem]) rfl (first_mk_err (r := []) Hp.out ?_)
  exact (by repeat (first | exact Below.refl _ _ | refine Below.drew ?_ | refine Below.setCell ?_ (by simp <;> omega) _ | refine Below.alloc ?_ (by simp <;> omega) _))

set_option maxHeartbeats 4000000 in
theorem first_e2 (l : List UInt8) (w : World) (hl : l.length ≤ 65536) (k a : Nat) (K : Int) (hK : K = (k : Int)) (hr : M.rd l = some (k, a)) (hbad : K / 8 < 1 ∨ 536870911 < K / 8) :
    Calls Try.prog 37 #[.string ⟨l.toArray⟩] w (FirstPost l w) := by
  obtain ⟨l1, hl1⟩ : ∃ l1, l1 = l.drop a := ⟨_, rfl⟩
  have hb := M.rd_bound hr
  have hK0 : 0 ≤ K := by omega
  have hK1 : K ≤ 18446744073709551615 := by omega
  have hl1l : l1.length ≤ 65536 := by rw [hl1, List.length_drop]; omega
  have hn1 : ∀ W, Calls Try.prog 12 #[.string ⟨l.toArray⟩] W fun e w' => e = .returned (.tuple #[.int .u64 K, .int .i64 (a : Int), .int .i64 0]) ∧ W = w' := fun W => by
    have := rreadNum_any l W (by omega)
    rw [rdVal_some hr, ← hK] at this
    exact this
  have hsl := slice_from l a hb.2.1
  rw [← hl1] at hsl
  have hp : M.parse1 l = .error 10 := by
    unfold M.parse1; rw [hr]; simp only
    rw [if_pos (by omega)]
  have Hn1 := Lib.hid hn1
  have Hp := Lib.hid hp
  clear hn1 hp hr hK hb hl1
  rcases hbad with hbad | hbad
  · go_enter Try.func37, Try.ntmps37
    go_wp2_with fail
    refine (Hn1.out _).mono ?_
    rintro e w' ⟨rfl, rfl⟩
    go_wp2
    refine bodyPost_ret (v := .tuple #[.agg (fcells 0 0 0 []), .string ⟨#[]⟩, .int .i64 10]) (by simp [results, Try.results37, go_sem]) rfl (first_mk_err (r := []) Hp.out ?_)
    exact (by repeat (first | exact Below.refl _ _ | refine Below.drew ?_ | refine Below.setCell ?_ (by simp <;> omega) _ | refine Below.alloc ?_ (by simp <;> omega) _))
  · have hb1 : 1 ≤ K / 8 := by omega
    go_enter Try.func37, Try.ntmps37
    go_wp2_with fail
    refine (Hn1.out _).mono ?_
    rintro e w' ⟨rfl, rfl⟩
    go_wp2
    refine bodyPost_ret (v := .tuple #[.agg (fcells 0 0 0 []), .string ⟨#[]⟩, .int .i64 10]) (by simp [results, Try.results37, go_sem]) rfl (first_mk_err (r := []) Hp.out ?_)
    exact (by repeat (first | exact Below.refl _ _ | refine Below.drew ?_ | refine Below.setCell ?_ (by simp <;> omega) _ | refine Below.alloc ?_ (by simp <;> omega) _))

set_option maxHeartbeats 4000000 in
theorem first_w3 (l : List UInt8) (w : World) (hl : l.length ≤ 65536) (k a : Nat) (K : Int) (hK : K = (k : Int)) (hr : M.rd l = some (k, a)) (h1 : 1 ≤ K / 8) (h2 : K / 8 ≤ 536870911) (h8 : K % 8 = 3) :
    Calls Try.prog 37 #[.string ⟨l.toArray⟩] w (FirstPost l w) := by
  obtain ⟨l1, hl1⟩ : ∃ l1, l1 = l.drop a := ⟨_, rfl⟩
  have hb := M.rd_bound hr
  have hK0 : 0 ≤ K := by omega
  have hK1 : K ≤ 18446744073709551615 := by omega
  have hl1l : l1.length ≤ 65536 := by rw [hl1, List.length_drop]; omega
  have hn1 : ∀ W, Calls Try.prog 12 #[.string ⟨l.toArray⟩] W fun e w' => e = .returned (.tuple #[.int .u64 K, .int .i64 (a : Int), .int .i64 0]) ∧ W = w' := fun W => by
    have := rreadNum_any l W (by omega)
    rw [rdVal_some hr, ← hK] at this
    exact this
  have hsl := slice_from l a hb.2.1
  rw [← hl1] at hsl
  have hp : M.parse1 l = .error 10 := by
    unfold M.parse1; rw [hr]; simp only
    rw [if_neg (by omega), if_neg (by omega), if_neg (by omega), if_neg (by omega), if_neg (by omega)]
  have Hn1 := Lib.hid hn1
  have Hp := Lib.hid hp
  clear hn1 hp hr hK hb hl1
  go_enter Try.func37, Try.ntmps37
  go_wp2_with fail
  refine (Hn1.out _).mono ?_
  rintro e w' ⟨rfl, rfl⟩
  go_wp2
  refine bodyPost_ret (v := .tuple #[.agg (fcells (K / 8) 3 0 []), .string ⟨#[]⟩, .int .i64 10]) (by simp [results, Try.results37, go_sem]) rfl (first_mk_err (r := []) Hp.out ?_)
  exact (by repeat (first | exact Below.refl _ _ | refine Below.drew ?_ | refine Below.setCell ?_ (by simp <;> omega) _ | refine Below.alloc ?_ (by simp <;> omega) _))

set_option maxHeartbeats 4000000 in
theorem first_w4 (l : List UInt8) (w : World) (hl : l.length ≤ 65536) (k a : Nat) (K : Int) (hK : K = (k : Int)) (hr : M.rd l = some (k, a)) (h1 : 1 ≤ K / 8) (h2 : K / 8 ≤ 536870911) (h8 : K % 8 = 4) :
    Calls Try.prog 37 #[.string ⟨l.toArray⟩] w (FirstPost l w) := by
  obtain ⟨l1, hl1⟩ : ∃ l1, l1 = l.drop a := ⟨_, rfl⟩
  have hb := M.rd_bound hr
  have hK0 : 0 ≤ K := by omega
  have hK1 : K ≤ 18446744073709551615 := by omega
  have hl1l : l1.length ≤ 65536 := by rw [hl1, List.length_drop]; omega
  have hn1 : ∀ W, Calls Try.prog 12 #[.string ⟨l.toArray⟩] W fun e w' => e = .returned (.tuple #[.int .u64 K, .int .i64 (a : Int), .int .i64 0]) ∧ W = w' := fun W => by
    have := rreadNum_any l W (by omega)
    rw [rdVal_some hr, ← hK] at this
    exact this
  have hsl := slice_from l a hb.2.1
  rw [← hl1] at hsl
  have hp : M.parse1 l = .error 10 := by
    unfold M.parse1; rw [hr]; simp only
    rw [if_neg (by omega), if_neg (by omega), if_neg (by omega), if_neg (by omega), if_neg (by omega)]
  have Hn1 := Lib.hid hn1
  have Hp := Lib.hid hp
  clear hn1 hp hr hK hb hl1
  go_enter Try.func37, Try.ntmps37
  go_wp2_with fail
  refine (Hn1.out _).mono ?_
  rintro e w' ⟨rfl, rfl⟩
  go_wp2
  refine bodyPost_ret (v := .tuple #[.agg (fcells (K / 8) 4 0 []), .string ⟨#[]⟩, .int .i64 10]) (by simp [results, Try.results37, go_sem]) rfl (first_mk_err (r := []) Hp.out ?_)
  exact (by repeat (first | exact Below.refl _ _ | refine Below.drew ?_ | refine Below.setCell ?_ (by simp <;> omega) _ | refine Below.alloc ?_ (by simp <;> omega) _))

set_option maxHeartbeats 4000000 in
theorem first_w6 (l : List UInt8) (w : World) (hl : l.length ≤ 65536) (k a : Nat) (K : Int) (hK : K = (k : Int)) (hr : M.rd l = some (k, a)) (h1 : 1 ≤ K / 8) (h2 : K / 8 ≤ 536870911) (h8 : K % 8 = 6) :
    Calls Try.prog 37 #[.string ⟨l.toArray⟩] w (FirstPost l w) := by
  obtain ⟨l1, hl1⟩ : ∃ l1, l1 = l.drop a := ⟨_, rfl⟩
  have hb := M.rd_bound hr
  have hK0 : 0 ≤ K := by omega
  have hK1 : K ≤ 18446744073709551615 := by omega
  have hl1l : l1.length ≤ 65536 := by rw [hl1, List.length_drop]; omega
  have hn1 : ∀ W, Calls Try.prog 12 #[.string ⟨l.toArray⟩] W fun e w' => e = .returned (.tuple #[.int .u64 K, .int .i64 (a : Int), .int .i64 0]) ∧ W = w' := fun W => by
    have := rreadNum_any l W (by omega)
    rw [rdVal_some hr, ← hK] at this
    exact this
  have hsl := slice_from l a hb.2.1
  rw [← hl1] at hsl
  have hp : M.parse1 l = .error 10 := by
    unfold M.parse1; rw [hr]; simp only
    rw [if_neg (by omega), if_neg (by omega), if_neg (by omega), if_neg (by omega), if_neg (by omega)]
  have Hn1 := Lib.hid hn1
  have Hp := Lib.hid hp
  clear hn1 hp hr hK hb hl1
  go_enter Try.func37, Try.ntmps37
  go_wp2_with fail
  refine (Hn1.out _).mono ?_
  rintro e w' ⟨rfl, rfl⟩
  go_wp2
  refine bodyPost_ret (v := .tuple #[.agg (fcells (K / 8) 6 0 []), .string ⟨#[]⟩, .int .i64 10]) (by simp [results, Try.results37, go_sem]) rfl (first_mk_err (r := []) Hp.out ?_)
  exact (by repeat (first | exact Below.refl _ _ | refine Below.drew ?_ | refine Below.setCell ?_ (by simp <;> omega) _ | refine Below.alloc ?_ (by simp <;> omega) _))

set_option maxHeartbeats 4000000 in
theorem first_w7 (l : List UInt8) (w : World) (hl : l.length ≤ 65536) (k a : Nat) (K : Int) (hK : K = (k : Int)) (hr : M.rd l = some (k, a)) (h1 : 1 ≤ K / 8) (h2 : K / 8 ≤ 536870911) (h8 : K % 8 = 7) :
    Calls Try.prog 37 #[.string ⟨l.toArray⟩] w (FirstPost l w) := by
  obtain ⟨l1, hl1⟩ : ∃ l1, l1 = l.drop a := ⟨_, rfl⟩
  have hb := M.rd_bound hr
  have hK0 : 0 ≤ K := by omega
  have hK1 : K ≤ 18446744073709551615 := by omega
  have hl1l : l1.length ≤ 65536 := by rw [hl1, List.length_drop]; omega
  have hn1 : ∀ W, Calls Try.prog 12 #[.string ⟨l.toArray⟩] W fun e w' => e = .returned (.tuple #[.int .u64 K, .int .i64 (a : Int), .int .i64 0]) ∧ W = w' := fun W => by
    have := rreadNum_any l W (by omega)
    rw [rdVal_some hr, ← hK] at this
    exact this
  have hsl := slice_from l a hb.2.1
  rw [← hl1] at hsl
  have hp : M.parse1 l = .error 10 := by
    unfold M.parse1; rw [hr]; simp only
    rw [if_neg (by omega), if_neg (by omega), if_neg (by omega), if_neg (by omega), if_neg (by omega)]
  have Hn1 := Lib.hid hn1
  have Hp := Lib.hid hp
  clear hn1 hp hr hK hb hl1
  go_enter Try.func37, Try.ntmps37
  go_wp2_with fail
  refine (Hn1.out _).mono ?_
  rintro e w' ⟨rfl, rfl⟩
  go_wp2
  refine bodyPost_ret (v := .tuple #[.agg (fcells (K / 8) 7 0 []), .string ⟨#[]⟩, .int .i64 10]) (by simp [results, Try.results37, go_sem]) rfl (first_mk_err (r := []) Hp.out ?_)
  exact (by repeat (first | exact Below.refl _ _ | refine Below.drew ?_ | refine Below.setCell ?_ (by simp <;> omega) _ | refine Below.alloc ?_ (by simp <;> omega) _))

set_option maxHeartbeats 4000000 in
theorem first_n0 (l : List UInt8) (w : World) (hl : l.length ≤ 65536) (k a : Nat) (K : Int) (hK : K = (k : Int)) (hr : M.rd l = some (k, a)) (h1 : 1 ≤ K / 8) (h2 : K / 8 ≤ 536870911) (h8 : K % 8 = 0) (hr2 : M.rd (l.drop a) = none) :
    Calls Try.prog 37 #[.string ⟨l.toArray⟩] w (FirstPost l w) := by
  obtain ⟨l1, hl1⟩ : ∃ l1, l1 = l.drop a := ⟨_, rfl⟩
  have hb := M.rd_bound hr
  have hK0 : 0 ≤ K := by omega
  have hK1 : K ≤ 18446744073709551615 := by omega
  have hl1l : l1.length ≤ 65536 := by rw [hl1, List.length_drop]; omega
  have hn1 : ∀ W, Calls Try.prog 12 #[.string ⟨l.toArray⟩] W fun e w' => e = .returned (.tuple #[.int .u64 K, .int .i64 (a : Int), .int .i64 0]) ∧ W = w' := fun W => by
    have := rreadNum_any l W (by omega)
    rw [rdVal_some hr, ← hK] at this
    exact this
  have hsl := slice_from l a hb.2.1
  rw [← hl1] at hsl
  have hp : M.parse1 l = .error 9 := by
    unfold M.parse1; rw [hr]; simp only
    rw [if_neg (by omega), if_pos (by omega), hr2]
  rw [← hl1] at hr2
  have hn2 : ∀ W, Calls Try.prog 12 #[.string ⟨l1.toArray⟩] W fun e w' => e = .returned (.tuple #[.int .u64 0, .int .i64 0, .int .i64 9]) ∧ W = w' := fun W => by
    have := rreadNum_any l1 W (by omega)
    rw [rdVal_none hr2] at this
    exact this
  have hsl2 := slice_from l1 0 (by omega)
  rw [List.drop_zero] at hsl2
  have Hn1 := Lib.hid hn1
  have Hn2 := Lib.hid hn2
  have Hp := Lib.hid hp
  clear hn1 hn2 hp hr hr2 hK hb hl1
  go_enter Try.func37, Try.ntmps37
  go_wp2_with fail
  refine (Hn1.out _).mono ?_
  rintro e w' ⟨rfl, rfl⟩
  go_wp2_with fail
  refine (Hn2.out _).mono ?_
  rintro e w' ⟨rfl, rfl⟩
  go_wp2
  go_region
  all_goals
    go_wp2
    refine bodyPost_ret (v := .tuple #[.agg (fcells (K / 8) 0 0 []), .string ⟨l1.toArray⟩, .int .i64 9]) (by simp [results, Try.results37, go_sem, extract_drop]) rfl (first_mk_err Hp.out ?_)
    exact (by repeat (first | exact Below.refl _ _ | refine Below.drew ?_ | refine Below.setCell ?_ (by simp <;> omega) _ | refine Below.alloc ?_ (by simp <;> omega) _))

set_option maxHeartbeats 4000000 in
theorem first_y0 (l : List UInt8) (w : World) (hl : l.length ≤ 65536) (k a : Nat) (K : Int) (hK : K = (k : Int)) (hr : M.rd l = some (k, a)) (h1 : 1 ≤ K / 8) (h2 : K / 8 ≤ 536870911) (h8 : K % 8 = 0) (n b : Nat) (hr2 : M.rd (l.drop a) = some (n, b)) :
    Calls Try.prog 37 #[.string ⟨l.toArray⟩] w (FirstPost l w) := by
  obtain ⟨l1, hl1⟩ : ∃ l1, l1 = l.drop a := ⟨_, rfl⟩
  have hb := M.rd_bound hr
  have hK0 : 0 ≤ K := by omega
  have hK1 : K ≤ 18446744073709551615 := by omega
  have hl1l : l1.length ≤ 65536 := by rw [hl1, List.length_drop]; omega
  have hn1 : ∀ W, Calls Try.prog 12 #[.string ⟨l.toArray⟩] W fun e w' => e = .returned (.tuple #[.int .u64 K, .int .i64 (a : Int), .int .i64 0]) ∧ W = w' := fun W => by
    have := rreadNum_any l W (by omega)
    rw [rdVal_some hr, ← hK] at this
    exact this
  have hsl := slice_from l a hb.2.1
  rw [← hl1] at hsl
  have hp : M.parse1 l = .ok (⟨K / 8, 0, n, []⟩, l1.drop b) := by
    unfold M.parse1; rw [hr]; simp only
    rw [if_neg (by omega), if_pos (by omega), hr2]
    simp only
    rw [← hl1, show ((k / 8 : Nat) : Int) = K / 8 by omega]
  rw [← hl1] at hr2
  have hb2 := M.rd_bound hr2
  obtain ⟨N, hN⟩ : ∃ N : Int, N = (n : Int) := ⟨_, rfl⟩
  have hN0 : 0 ≤ N := by omega
  have hN1 : N ≤ 18446744073709551615 := by omega
  have hn2 : ∀ W, Calls Try.prog 12 #[.string ⟨l1.toArray⟩] W fun e w' => e = .returned (.tuple #[.int .u64 N, .int .i64 (b : Int), .int .i64 0]) ∧ W = w' := fun W => by
    have := rreadNum_any l1 W (by omega)
    rw [rdVal_some hr2, ← hN] at this
    exact this
  have hsl2 := slice_from l1 b hb2.2.1
  have hfit : Fit ⟨K / 8, 0, n, []⟩ (K / 8) 0 N [] := ⟨by rw [hN]; rfl, by omega, by omega, hN0, hN1, by omega, by omega, by simp⟩
  have hbl : (b : Int) ≤ (l1.length : Int) := by omega
  have Hn1 := Lib.hid hn1
  have Hn2 := Lib.hid hn2
  have Hp := Lib.hid hp
  have Hfit := Lib.hid hfit
  clear hn1 hn2 hp hr hr2 hK hb hl1 hb2 hN hfit
  go_enter Try.func37, Try.ntmps37
  go_wp2_with fail
  refine (Hn1.out _).mono ?_
  rintro e w' ⟨rfl, rfl⟩
  go_wp2_with fail
  refine (Hn2.out _).mono ?_
  rintro e w' ⟨rfl, rfl⟩
  go_wp2
  go_region
  all_goals
    go_wp2
    refine bodyPost_ret (v := .tuple #[.agg (fcells (K / 8) 0 N []), .string ⟨(l1.drop b).toArray⟩, .int .i64 0]) (by simp [results, Try.results37, go_sem, extract_drop]) rfl (first_mk_ok Hp.out Hfit.out ?_)
    exact (by repeat (first | exact Below.refl _ _ | refine Below.drew ?_ | refine Below.setCell ?_ (by simp <;> omega) _ | refine Below.alloc ?_ (by simp <;> omega) _))

set_option maxHeartbeats 4000000 in
theorem first_n1 (l : List UInt8) (w : World) (hl : l.length ≤ 65536) (k a : Nat) (K : Int) (hK : K = (k : Int)) (hr : M.rd l = some (k, a)) (h1 : 1 ≤ K / 8) (h2 : K / 8 ≤ 536870911) (h8 : K % 8 = 1) (hs : (l.drop a).length < 8) :
    Calls Try.prog 37 #[.string ⟨l.toArray⟩] w (FirstPost l w) := by
  obtain ⟨l1, hl1⟩ : ∃ l1, l1 = l.drop a := ⟨_, rfl⟩
  have hb := M.rd_bound hr
  have hK0 : 0 ≤ K := by omega
  have hK1 : K ≤ 18446744073709551615 := by omega
  have hl1l : l1.length ≤ 65536 := by rw [hl1, List.length_drop]; omega
  have hn1 : ∀ W, Calls Try.prog 12 #[.string ⟨l.toArray⟩] W fun e w' => e = .returned (.tuple #[.int .u64 K, .int .i64 (a : Int), .int .i64 0]) ∧ W = w' := fun W => by
    have := rreadNum_any l W (by omega)
    rw [rdVal_some hr, ← hK] at this
    exact this
  have hsl := slice_from l a hb.2.1
  rw [← hl1] at hsl
  have hp : M.parse1 l = .error 10 := by
    unfold M.parse1; rw [hr]; simp only
    rw [if_neg (by omega), if_neg (by omega), if_pos (by omega), if_pos hs]
  rw [← hl1] at hs
  have Hn1 := Lib.hid hn1
  have Hp := Lib.hid hp
  clear hn1 hp hr hK hb hl1
  go_enter Try.func37, Try.ntmps37
  go_wp2_with fail
  refine (Hn1.out _).mono ?_
  rintro e w' ⟨rfl, rfl⟩
  go_wp2
  refine bodyPost_ret (v := .tuple #[.agg (fcells (K / 8) 1 0 []), .string ⟨#[]⟩, .int .i64 10]) (by simp [results, Try.results37, go_sem, extract_drop]) rfl (first_mk_err (r := []) Hp.out ?_)
  exact (by repeat (first | exact Below.refl _ _ | refine Below.drew ?_ | refine Below.setCell ?_ (by simp <;> omega) _ | refine Below.alloc ?_ (by simp <;> omega) _))

set_option maxHeartbeats 4000000 in
theorem first_y1 (l : List UInt8) (w : World) (hl : l.length ≤ 65536) (k a : Nat) (K : Int) (hK : K = (k : Int)) (hr : M.rd l = some (k, a)) (h1 : 1 ≤ K / 8) (h2 : K / 8 ≤ 536870911) (h8 : K % 8 = 1) (hs : 8 ≤ (l.drop a).length) :
    Calls Try.prog 37 #[.string ⟨l.toArray⟩] w (FirstPost l w) := by
  obtain ⟨l1, hl1⟩ : ∃ l1, l1 = l.drop a := ⟨_, rfl⟩
  have hb := M.rd_bound hr
  have hK0 : 0 ≤ K := by omega
  have hK1 : K ≤ 18446744073709551615 := by omega
  have hl1l : l1.length ≤ 65536 := by rw [hl1, List.length_drop]; omega
  have hn1 : ∀ W, Calls Try.prog 12 #[.string ⟨l.toArray⟩] W fun e w' => e = .returned (.tuple #[.int .u64 K, .int .i64 (a : Int), .int .i64 0]) ∧ W = w' := fun W => by
    have := rreadNum_any l W (by omega)
    rw [rdVal_some hr, ← hK] at this
    exact this
  have hsl := slice_from l a hb.2.1
  rw [← hl1] at hsl
  have hp : M.parse1 l = .ok (⟨K / 8, 1, M.unle (l1.take 8), []⟩, l1.drop 8) := by
    unfold M.parse1; rw [hr]; simp only
    rw [if_neg (by omega), if_neg (by omega), if_pos (by omega), if_neg (by omega)]
    rw [← hl1, show ((k / 8 : Nat) : Int) = K / 8 by omega]
  rw [← hl1] at hs
  have hst : ∀ W, (Instr.slice 9 (.string ⟨l1.toArray⟩) none (some (.int .i64 8)) none).run Try.prog W = .ok (.string ⟨(l1.take 8).toArray⟩) W := slice_to l1 .i64 8 hs
  have hsf : ∀ W, (Instr.slice 9 (.string ⟨l1.toArray⟩) (some (.int .i64 8)) none none).run Try.prog W = .ok (.string ⟨(l1.drop 8).toArray⟩) W := slice_from l1 8 hs
  have hul := M.unle_lt (l1.take 8)
  have htl : (l1.take 8).length = 8 := by rw [List.length_take]; omega
  rw [htl] at hul
  obtain ⟨N, hN⟩ : ∃ N : Int, N = (M.unle (l1.take 8) : Int) := ⟨_, rfl⟩
  have hN0 : 0 ≤ N := by omega
  have hN1 : N ≤ 18446744073709551615 := by simp only [Nat.reducePow] at hul; omega
  have hnum : ∀ W, Calls Try.prog 44 #[.string ⟨(l1.take 8).toArray⟩] W fun e w' => e = .returned (.int .u64 N) ∧ W = w' := fun W => by rw [hN]; exact number_any (l1.take 8) W (by omega)
  have hfit : Fit ⟨K / 8, 1, M.unle (l1.take 8), []⟩ (K / 8) 1 N [] := ⟨by rw [hN]; rfl, by omega, by omega, hN0, hN1, by omega, by omega, by simp⟩
  have Hn1 := Lib.hid hn1
  have Hnum := Lib.hid hnum
  have Hp := Lib.hid hp
  have Hfit := Lib.hid hfit
  clear hn1 hp hr hK hb hl1 hN hfit hul htl hnum
  go_enter Try.func37, Try.ntmps37
  go_wp2_with fail
  refine (Hn1.out _).mono ?_
  rintro e w' ⟨rfl, rfl⟩
  go_wp2_with fail
  refine (Hnum.out _).mono ?_
  rintro e w' ⟨rfl, rfl⟩
  go_wp2
  go_region
  all_goals
    go_wp2
    refine bodyPost_ret (v := .tuple #[.agg (fcells (K / 8) 1 N []), .string ⟨(l1.drop 8).toArray⟩, .int .i64 0]) (by simp [results, Try.results37, go_sem, extract_drop]) rfl (first_mk_ok Hp.out Hfit.out ?_)
    exact (by repeat (first | exact Below.refl _ _ | refine Below.drew ?_ | refine Below.setCell ?_ (by simp <;> omega) _ | refine Below.alloc ?_ (by simp <;> omega) _))

set_option maxHeartbeats 4000000 in
theorem first_n5 (l : List UInt8) (w : World) (hl : l.length ≤ 65536) (k a : Nat) (K : Int) (hK : K = (k : Int)) (hr : M.rd l = some (k, a)) (h1 : 1 ≤ K / 8) (h2 : K / 8 ≤ 536870911) (h8 : K % 8 = 5) (hs : (l.drop a).length < 4) :
    Calls Try.prog 37 #[.string ⟨l.toArray⟩] w (FirstPost l w) := by
  obtain ⟨l1, hl1⟩ : ∃ l1, l1 = l.drop a := ⟨_, rfl⟩
  have hb := M.rd_bound hr
  have hK0 : 0 ≤ K := by omega
  have hK1 : K ≤ 18446744073709551615 := by omega
  have hl1l : l1.length ≤ 65536 := by rw [hl1, List.length_drop]; omega
  have hn1 : ∀ W, Calls Try.prog 12 #[.string ⟨l.toArray⟩] W fun e w' => e = .returned (.tuple #[.int .u64 K, .int .i64 (a : Int), .int .i64 0]) ∧ W = w' := fun W => by
    have := rreadNum_any l W (by omega)
    rw [rdVal_some hr, ← hK] at this
    exact this
  have hsl := slice_from l a hb.2.1
  rw [← hl1] at hsl
  have hp : M.parse1 l = .error 10 := by
    unfold M.parse1; rw [hr]; simp only
    rw [if_neg (by omega), if_neg (by omega), if_neg (by omega), if_pos (by omega), if_pos hs]
  rw [← hl1] at hs
  have Hn1 := Lib.hid hn1
  have Hp := Lib.hid hp
  clear hn1 hp hr hK hb hl1
  go_enter Try.func37, Try.ntmps37
  go_wp2_with fail
  refine (Hn1.out _).mono ?_
  rintro e w' ⟨rfl, rfl⟩
  go_wp2
  refine bodyPost_ret (v := .tuple #[.agg (fcells (K / 8) 5 0 []), .string ⟨#[]⟩, .int .i64 10]) (by simp [results, Try.results37, go_sem, extract_drop]) rfl (first_mk_err (r := []) Hp.out ?_)
  exact (by repeat (first | exact Below.refl _ _ | refine Below.drew ?_ | refine Below.setCell ?_ (by simp <;> omega) _ | refine Below.alloc ?_ (by simp <;> omega) _))

set_option maxHeartbeats 4000000 in
theorem first_y5 (l : List UInt8) (w : World) (hl : l.length ≤ 65536) (k a : Nat) (K : Int) (hK : K = (k : Int)) (hr : M.rd l = some (k, a)) (h1 : 1 ≤ K / 8) (h2 : K / 8 ≤ 536870911) (h8 : K % 8 = 5) (hs : 4 ≤ (l.drop a).length) :
    Calls Try.prog 37 #[.string ⟨l.toArray⟩] w (FirstPost l w) := by
  obtain ⟨l1, hl1⟩ : ∃ l1, l1 = l.drop a := ⟨_, rfl⟩
  have hb := M.rd_bound hr
  have hK0 : 0 ≤ K := by omega
  have hK1 : K ≤ 18446744073709551615 := by omega
  have hl1l : l1.length ≤ 65536 := by rw [hl1, List.length_drop]; omega
  have hn1 : ∀ W, Calls Try.prog 12 #[.string ⟨l.toArray⟩] W fun e w' => e = .returned (.tuple #[.int .u64 K, .int .i64 (a : Int), .int .i64 0]) ∧ W = w' := fun W => by
    have := rreadNum_any l W (by omega)
    rw [rdVal_some hr, ← hK] at this
    exact this
  have hsl := slice_from l a hb.2.1
  rw [← hl1] at hsl
  have hp : M.parse1 l = .ok (⟨K / 8, 5, M.unle (l1.take 4), []⟩, l1.drop 4) := by
    unfold M.parse1; rw [hr]; simp only
    rw [if_neg (by omega), if_neg (by omega), if_neg (by omega), if_pos (by omega), if_neg (by omega)]
    rw [← hl1, show ((k / 8 : Nat) : Int) = K / 8 by omega]
  rw [← hl1] at hs
  have hst : ∀ W, (Instr.slice 9 (.string ⟨l1.toArray⟩) none (some (.int .i64 4)) none).run Try.prog W = .ok (.string ⟨(l1.take 4).toArray⟩) W := slice_to l1 .i64 4 hs
  have hsf : ∀ W, (Instr.slice 9 (.string ⟨l1.toArray⟩) (some (.int .i64 4)) none none).run Try.prog W = .ok (.string ⟨(l1.drop 4).toArray⟩) W := slice_from l1 4 hs
  have hul := M.unle_lt (l1.take 4)
  have htl : (l1.take 4).length = 4 := by rw [List.length_take]; omega
  rw [htl] at hul
  obtain ⟨N, hN⟩ : ∃ N : Int, N = (M.unle (l1.take 4) : Int) := ⟨_, rfl⟩
  have hN0 : 0 ≤ N := by omega
  have hN1 : N ≤ 18446744073709551615 := by simp only [Nat.reducePow] at hul; omega
  have hnum : ∀ W, Calls Try.prog 44 #[.string ⟨(l1.take 4).toArray⟩] W fun e w' => e = .returned (.int .u64 N) ∧ W = w' := fun W => by rw [hN]; exact number_any (l1.take 4) W (by omega)
  have hfit : Fit ⟨K / 8, 5, M.unle (l1.take 4), []⟩ (K / 8) 5 N [] := ⟨by rw [hN]; rfl, by omega, by omega, hN0, hN1, by omega, by omega, by simp⟩
  have Hn1 := Lib.hid hn1
  have Hnum := Lib.hid hnum
  have Hp := Lib.hid hp
  have Hfit := Lib.hid hfit
  clear hn1 hp hr hK hb hl1 hN hfit hul htl hnum
  go_enter Try.func37, Try.ntmps37
  go_wp2_with fail
  refine (Hn1.out _).mono ?_
  rintro e w' ⟨rfl, rfl⟩
  go_wp2_with fail
  refine (Hnum.out _).mono ?_
  rintro e w' ⟨rfl, rfl⟩
  go_wp2
  go_region
  all_goals
    go_wp2
    refine bodyPost_ret (v := .tuple #[.agg (fcells (K / 8) 5 N []), .string ⟨(l1.drop 4).toArray⟩, .int .i64 0]) (by simp [results, Try.results37, go_sem, extract_drop]) rfl (first_mk_ok Hp.out Hfit.out ?_)
    exact (by repeat (first | exact Below.refl _ _ | refine Below.drew ?_ | refine Below.setCell ?_ (by simp <;> omega) _ | refine Below.alloc ?_ (by simp <;> omega) _))

set_option maxHeartbeats 4000000 in
theorem first_n2 (l : List UInt8) (w : World) (hl : l.length ≤ 65536) (k a : Nat) (K : Int) (hK : K = (k : Int)) (hr : M.rd l = some (k, a)) (h1 : 1 ≤ K / 8) (h2 : K / 8 ≤ 536870911) (h8 : K % 8 = 2) (hr2 : M.rd (l.drop a) = none) :
    Calls Try.prog 37 #[.string ⟨l.toArray⟩] w (FirstPost l w) := by
  obtain ⟨l1, hl1⟩ : ∃ l1, l1 = l.drop a := ⟨_, rfl⟩
  have hb := M.rd_bound hr
  have hK0 : 0 ≤ K := by omega
  have hK1 : K ≤ 18446744073709551615 := by omega
  have hl1l : l1.length ≤ 65536 := by rw [hl1, List.length_drop]; omega
  have hn1 : ∀ W, Calls Try.prog 12 #[.string ⟨l.toArray⟩] W fun e w' => e = .returned (.tuple #[.int .u64 K, .int .i64 (a : Int), .int .i64 0]) ∧ W = w' := fun W => by
    have := rreadNum_any l W (by omega)
    rw [rdVal_some hr, ← hK] at this
    exact this
  have hsl := slice_from l a hb.2.1
  rw [← hl1] at hsl
  have hp : M.parse1 l = .error 9 := by
    unfold M.parse1; rw [hr]; simp only
    rw [if_neg (by omega), if_neg (by omega), if_neg (by omega), if_neg (by omega), if_pos (by omega), hr2]
  rw [← hl1] at hr2
  have hn2 : ∀ W, Calls Try.prog 12 #[.string ⟨l1.toArray⟩] W fun e w' => e = .returned (.tuple #[.int .u64 0, .int .i64 0, .int .i64 9]) ∧ W = w' := fun W => by
    have := rreadNum_any l1 W (by omega)
    rw [rdVal_none hr2] at this
    exact this
  have Hn1 := Lib.hid hn1
  have Hn2 := Lib.hid hn2
  have Hp := Lib.hid hp
  clear hn1 hn2 hp hr hr2 hK hb hl1
  go_enter Try.func37, Try.ntmps37
  go_wp2_with fail
  refine (Hn1.out _).mono ?_
  rintro e w' ⟨rfl, rfl⟩
  go_wp2_with fail
  refine (Hn2.out _).mono ?_
  rintro e w' ⟨rfl, rfl⟩
  go_wp2
  refine bodyPost_ret (v := .tuple #[.agg (fcells (K / 8) 2 0 []), .string ⟨#[]⟩, .int .i64 9]) (by simp [results, Try.results37, go_sem, extract_drop]) rfl (first_mk_err (r := []) Hp.out ?_)
  exact (by repeat (first | exact Below.refl _ _ | refine Below.drew ?_ | refine Below.setCell ?_ (by simp <;> omega) _ | refine Below.alloc ?_ (by simp <;> omega) _))

set_option maxHeartbeats 4000000 in
theorem first_s2 (l : List UInt8) (w : World) (hl : l.length ≤ 65536) (k a : Nat) (K : Int) (hK : K = (k : Int)) (hr : M.rd l = some (k, a)) (h1 : 1 ≤ K / 8) (h2 : K / 8 ≤ 536870911) (h8 : K % 8 = 2) (m b : Nat) (hr2 : M.rd (l.drop a) = some (m, b)) (hs : ((l.drop a).drop b).length < m) :
    Calls Try.prog 37 #[.string ⟨l.toArray⟩] w (FirstPost l w) := by
  obtain ⟨l1, hl1⟩ : ∃ l1, l1 = l.drop a := ⟨_, rfl⟩
  have hb := M.rd_bound hr
  have hK0 : 0 ≤ K := by omega
  have hK1 : K ≤ 18446744073709551615 := by omega
  have hl1l : l1.length ≤ 65536 := by rw [hl1, List.length_drop]; omega
  have hn1 : ∀ W, Calls Try.prog 12 #[.string ⟨l.toArray⟩] W fun e w' => e = .returned (.tuple #[.int .u64 K, .int .i64 (a : Int), .int .i64 0]) ∧ W = w' := fun W => by
    have := rreadNum_any l W (by omega)
    rw [rdVal_some hr, ← hK] at this
    exact this
  have hsl := slice_from l a hb.2.1
  rw [← hl1] at hsl
  have hp : M.parse1 l = .error 10 := by
    unfold M.parse1; rw [hr]; simp only
    rw [if_neg (by omega), if_neg (by omega), if_neg (by omega), if_neg (by omega), if_pos (by omega), hr2]
    simp only
    rw [if_pos hs]
  rw [← hl1] at hr2
  have hb2 := M.rd_bound hr2
  obtain ⟨N, hN⟩ : ∃ N : Int, N = (m : Int) := ⟨_, rfl⟩
  have hN0 : 0 ≤ N := by omega
  have hN1 : N ≤ 18446744073709551615 := by omega
  have hn2 : ∀ W, Calls Try.prog 12 #[.string ⟨l1.toArray⟩] W fun e w' => e = .returned (.tuple #[.int .u64 N, .int .i64 (b : Int), .int .i64 0]) ∧ W = w' := fun W => by
    have := rreadNum_any l1 W (by omega)
    rw [rdVal_some hr2, ← hN] at this
    exact this
  have hsl2 := slice_from l1 b hb2.2.1
  have hbl : (b : Int) ≤ (l1.length : Int) := by omega
  obtain ⟨l2, hl2⟩ : ∃ l2, l2 = l1.drop b := ⟨_, rfl⟩
  rw [← hl2] at hsl2
  rw [← hl1, ← hl2] at hs
  have hl2l : l2.length ≤ 65536 := by rw [hl2, List.length_drop]; omega
  have hs2 : (l2.length : Int) < N := by omega
  have Hn1 := Lib.hid hn1
  have Hn2 := Lib.hid hn2
  have Hp := Lib.hid hp
  clear hn1 hn2 hp hr hr2 hK hb hl1 hl2 hb2 hN hs
  go_enter Try.func37, Try.ntmps37
  go_wp2_with fail
  refine (Hn1.out _).mono ?_
  rintro e w' ⟨rfl, rfl⟩
  go_wp2_with fail
  refine (Hn2.out _).mono ?_
  rintro e w' ⟨rfl, rfl⟩
  go_wp2
  refine bodyPost_ret (v := .tuple #[.agg (fcells (K / 8) 2 0 []), .string ⟨#[]⟩, .int .i64 10]) (by simp [results, Try.results37, go_sem, extract_drop]) rfl (first_mk_err (r := []) Hp.out ?_)
  exact (by repeat (first | exact Below.refl _ _ | refine Below.drew ?_ | refine Below.setCell ?_ (by simp <;> omega) _ | refine Below.alloc ?_ (by simp <;> omega) _))

set_option maxHeartbeats 4000000 in
theorem first_y2 (l : List UInt8) (w : World) (hl : l.length ≤ 65536) (k a : Nat) (K : Int) (hK : K = (k : Int)) (hr : M.rd l = some (k, a)) (h1 : 1 ≤ K / 8) (h2 : K / 8 ≤ 536870911) (h8 : K % 8 = 2) (m b : Nat) (hr2 : M.rd (l.drop a) = some (m, b)) (hs : m ≤ ((l.drop a).drop b).length) :
    Calls Try.prog 37 #[.string ⟨l.toArray⟩] w (FirstPost l w) := by
  obtain ⟨l1, hl1⟩ : ∃ l1, l1 = l.drop a := ⟨_, rfl⟩
  have hb := M.rd_bound hr
  have hK0 : 0 ≤ K := by omega
  have hK1 : K ≤ 18446744073709551615 := by omega
  have hl1l : l1.length ≤ 65536 := by rw [hl1, List.length_drop]; omega
  have hn1 : ∀ W, Calls Try.prog 12 #[.string ⟨l.toArray⟩] W fun e w' => e = .returned (.tuple #[.int .u64 K, .int .i64 (a : Int), .int .i64 0]) ∧ W = w' := fun W => by
    have := rreadNum_any l W (by omega)
    rw [rdVal_some hr, ← hK] at this
    exact this
  have hsl := slice_from l a hb.2.1
  rw [← hl1] at hsl
  have hp : M.parse1 l = .ok (⟨K / 8, 2, 0, (l1.drop b).take m⟩, (l1.drop b).drop m) := by
    unfold M.parse1; rw [hr]; simp only
    rw [if_neg (by omega), if_neg (by omega), if_neg (by omega), if_neg (by omega), if_pos (by omega), hr2]
    simp only
    rw [if_neg (by omega), ← hl1, show ((k / 8 : Nat) : Int) = K / 8 by omega]
  rw [← hl1] at hr2
  have hb2 := M.rd_bound hr2
  obtain ⟨N, hN⟩ : ∃ N : Int, N = (m : Int) := ⟨_, rfl⟩
  have hN0 : 0 ≤ N := by omega
  have hN1 : N ≤ 18446744073709551615 := by omega
  have hn2 : ∀ W, Calls Try.prog 12 #[.string ⟨l1.toArray⟩] W fun e w' => e = .returned (.tuple #[.int .u64 N, .int .i64 (b : Int), .int .i64 0]) ∧ W = w' := fun W => by
    have := rreadNum_any l1 W (by omega)
    rw [rdVal_some hr2, ← hN] at this
    exact this
  have hsl2 := slice_from l1 b hb2.2.1
  have hbl : (b : Int) ≤ (l1.length : Int) := by omega
  obtain ⟨l2, hl2⟩ : ∃ l2, l2 = l1.drop b := ⟨_, rfl⟩
  rw [← hl2] at hsl2 hp
  rw [← hl1, ← hl2] at hs
  have hl2l : l2.length ≤ 65536 := by rw [hl2, List.length_drop]; omega
  have hs2 : N ≤ (l2.length : Int) := by omega
  have hst : ∀ W, (Instr.slice 9 (.string ⟨l2.toArray⟩) none (some (.int .u64 N)) none).run Try.prog W = .ok (.string ⟨(l2.take m).toArray⟩) W := by rw [hN]; exact slice_to l2 .u64 m hs
  have hsf : ∀ W, (Instr.slice 9 (.string ⟨l2.toArray⟩) (some (.int .u64 N)) none none).run Try.prog W = .ok (.string ⟨(l2.drop m).toArray⟩) W := by rw [hN]; exact slice_fromK l2 .u64 m hs
  have hfit : Fit ⟨K / 8, 2, 0, l2.take m⟩ (K / 8) 2 0 (l2.take m) := ⟨rfl, by omega, by omega, by omega, by omega, by omega, by omega, by rw [List.length_take]; omega⟩
  have Hn1 := Lib.hid hn1
  have Hn2 := Lib.hid hn2
  have Hp := Lib.hid hp
  have Hfit := Lib.hid hfit
  clear hn1 hn2 hp hr hr2 hK hb hl1 hl2 hb2 hN hs hfit
  go_enter Try.func37, Try.ntmps37
  go_wp2_with fail
  refine (Hn1.out _).mono ?_
  rintro e w' ⟨rfl, rfl⟩
  go_wp2_with fail
  refine (Hn2.out _).mono ?_
  rintro e w' ⟨rfl, rfl⟩
  go_wp2
  go_region
  all_goals
    go_wp2
    refine bodyPost_ret (v := .tuple #[.agg (fcells (K / 8) 2 0 (l2.take m)), .string ⟨(l2.drop m).toArray⟩, .int .i64 0]) (by simp [results, Try.results37, go_sem, extract_drop]) rfl (first_mk_ok Hp.out Hfit.out ?_)
    exact (by repeat (first | exact Below.refl _ _ | refine Below.drew ?_ | refine Below.setCell ?_ (by simp <;> omega) _ | refine Below.alloc ?_ (by simp <;> omega) _))

theorem first_any (l : List UInt8) (w : World) (hl : l.length ≤ 65536) : Calls Try.prog 37 #[.string ⟨l.toArray⟩] w (FirstPost l w) := by
  cases hr : M.rd l with
  | none => exact first_e1 l w hl hr
  | some x =>
    obtain ⟨k, a⟩ := x
    by_cases hb : (k : Int) / 8 < 1 ∨ 536870911 < (k : Int) / 8
    · exact first_e2 l w hl k a k rfl hr hb
    · have h1 : 1 ≤ (k : Int) / 8 := by omega
      have h2 : (k : Int) / 8 ≤ 536870911 := by omega
      rcases (by omega : (k : Int) % 8 = 0 ∨ (k : Int) % 8 = 1 ∨ (k : Int) % 8 = 2 ∨ (k : Int) % 8 = 3 ∨ (k : Int) % 8 = 4 ∨ (k : Int) % 8 = 5 ∨ (k : Int) % 8 = 6 ∨ (k : Int) % 8 = 7) with h8 | h8 | h8 | h8 | h8 | h8 | h8 | h8
      · cases hr2 : M.rd (l.drop a) with
        | none => exact first_n0 l w hl k a k rfl hr h1 h2 h8 hr2
        | some y => exact first_y0 l w hl k a k rfl hr h1 h2 h8 y.1 y.2 hr2
      · by_cases hs : (l.drop a).length < 8
        · exact first_n1 l w hl k a k rfl hr h1 h2 h8 hs
        · exact first_y1 l w hl k a k rfl hr h1 h2 h8 (by omega)
      · cases hr2 : M.rd (l.drop a) with
        | none => exact first_n2 l w hl k a k rfl hr h1 h2 h8 hr2
        | some y =>
          by_cases hs : ((l.drop a).drop y.2).length < y.1
          · exact first_s2 l w hl k a k rfl hr h1 h2 h8 y.1 y.2 hr2 hs
          · exact first_y2 l w hl k a k rfl hr h1 h2 h8 y.1 y.2 hr2 (by omega)
      · exact first_w3 l w hl k a k rfl hr h1 h2 h8
      · exact first_w4 l w hl k a k rfl hr h1 h2 h8
      · by_cases hs : (l.drop a).length < 4
        · exact first_n5 l w hl k a k rfl hr h1 h2 h8 hs
        · exact first_y5 l w hl k a k rfl hr h1 h2 h8 (by omega)
      · exact first_w6 l w hl k a k rfl hr h1 h2 h8
      · exact first_w7 l w hl k a k rfl hr h1 h2 h8
end Go.Proofs.Ytnnnnlcpmocnfaa
