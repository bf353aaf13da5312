/- THE WALK OVER THE DOCUMENT's OWN first. -/
import Derived.Test.YtnnnnlcpmocnfaaGreatDoorAll
import Derived.RegionTactic
import Derived.Test.YtnnnnlcpmocnfaaGreatDoorRow
import Derived.Defers
import Derived.Recover
import Derived.Deep.LoopGhost
import Derived.Test.YtnnnnlcpmocnfaaGreatDoorWr
namespace Go.Proofs.YtnnnnlcpmocnfaaGreatDoor
open Go.RowKit
set_option linter.unusedVariables false
set_option linter.unusedSimpArgs false

theorem slice_from (l : List UInt8) (k : Nat) (h : k ≤ l.length) (W : World) : (Instr.slice 9 (.string ⟨l.toArray⟩) (some (.int .i64 (k : Int))) none none).run Tryz.prog W = .ok (.string ⟨(l.drop k).toArray⟩) W := by
  have hs : (ByteArray.mk l.toArray).size = l.length := by simp [ByteArray.size]
  have h1 : (k : Int) ≤ (l.length : Int) := by omega
  rw [← extract_drop]
  simp [Instr.slice, Instr.sliceBounds, Instr.sliceBound, asIntOf, run_underlying Tryz.underlying9, hs, h]
theorem slice_to (l : List UInt8) (K : IntKind) (k : Nat) (h : k ≤ l.length) (W : World) : (Instr.slice 9 (.string ⟨l.toArray⟩) none (some (.int K (k : Int))) none).run Tryz.prog W = .ok (.string ⟨(l.take k).toArray⟩) W := by
  have hs : (ByteArray.mk l.toArray).size = l.length := by simp [ByteArray.size]
  have h1 : (k : Int) ≤ (l.length : Int) := by omega
  rw [← extract_take]
  simp [Instr.slice, Instr.sliceBounds, Instr.sliceBound, asIntOf, run_underlying Tryz.underlying9, hs, h]
theorem slice_fromK (l : List UInt8) (K : IntKind) (k : Nat) (h : k ≤ l.length) (W : World) : (Instr.slice 9 (.string ⟨l.toArray⟩) (some (.int K (k : Int))) none none).run Tryz.prog W = .ok (.string ⟨(l.drop k).toArray⟩) W := by
  have hs : (ByteArray.mk l.toArray).size = l.length := by simp [ByteArray.size]
  have h1 : (k : Int) ≤ (l.length : Int) := by omega
  rw [← extract_drop]
  simp [Instr.slice, Instr.sliceBounds, Instr.sliceBound, asIntOf, run_underlying Tryz.underlying9, hs, h]

/-- what first answers -/
def FirstPost (l : List UInt8) (w : World) (e : Ending) (w' : World) : Prop :=
  Below w.heap.size w w' ∧ match M.parse1 l with
  | .error x => ∃ a b c z r, e = .returned (.tuple #[.agg (fcells a b c z), .string ⟨List.toArray r⟩, .int .i64 (x : Int)])
  | .ok (f, r) => ∃ a b c z, Fit f a b c z ∧ e = .returned (.tuple #[.agg (fcells a b c z), .string ⟨r.toArray⟩, .int .i64 0])
theorem first_mk_err {l : List UInt8} {w w' : World} {x : Nat} {a b c : Int} {z r : List UInt8} (h : M.parse1 l = .error x) (hb : Below w.heap.size w w') : FirstPost l w (.returned (.tuple #[.agg (fcells a b c z), .string ⟨r.toArray⟩, .int .i64 (x : Int)])) w' :=
  ⟨hb, by rw [h]; exact ⟨a, b, c, z, r, rfl⟩⟩
theorem first_mk_ok {l : List UInt8} {w w' : World} {f : M.Fd} {a b c : Int} {z r : List UInt8} (h : M.parse1 l = .ok (f, r)) (hf : Fit f a b c z) (hb : Below w.heap.size w w') : FirstPost l w (.returned (.tuple #[.agg (fcells a b c z), .string ⟨r.toArray⟩, .int .i64 0])) w' :=
  ⟨hb, by rw [h]; exact ⟨a, b, c, z, hf, rfl⟩⟩

theorem first_e1 (l : List UInt8) (w : World) (hl : l.length ≤ 65536) (hr : M.rd l = none) :
    Calls Tryz.prog 85 #[.string ⟨l.toArray⟩] w (FirstPost l w) := by
  have hp : M.parse1 l = .error 9 := by unfold M.parse1; rw [hr]
  have hn := fun W => rreadNum_any l W (by omega)
  rw [rdVal_none hr] at hn
  have Hn := Lib.hid hn
  have Hp := Lib.hid hp
  clear hn hp hr
  go_enter Tryz.func85, Tryz.ntmps85
  go_wp2_with fail
  refine (Hn.out _).mono ?_
  rintro e w' ⟨rfl, rfl⟩
  go_wp2
  refine bodyPost_ret (v := .tuple #[.agg (fcells 0 0 0 []), .string ⟨#[]⟩, .int .i64 9]) (by simp [results, Tryz.results85, go_sem]) rfl (first_mk_err (r := []) Hp.out ?_)
  exact (by repeat (first | exact Below.refl _ _ | refine Below.drew ?_ | refine Below.setCell ?_ (by simp <;> omega) _ | refine Below.alloc ?_ (by simp <;> omega) _))

set_option maxHeartbeats 4000000 in
theorem first_e2 (l : List UInt8) (w : World) (hl : l.length ≤ 65536) (k a : Nat) (K : Int) (hK : K = (k : Int)) (hr : M.rd l = some (k, a)) (hbad : K / 8 < 1 ∨ 536870911 < K / 8) :
    Calls Tryz.prog 85 #[.string ⟨l.toArray⟩] w (FirstPost l w) := by
  obtain ⟨l1, hl1⟩ : ∃ l1, l1 = l.drop a := ⟨_, rfl⟩
  have hb := M.rd_bound hr
  have hK0 : 0 ≤ K := by omega
  have hK1 : K ≤ 18446744073709551615 := by omega
  have hl1l : l1.length ≤ 65536 := by rw [hl1, List.length_drop]; omega
  have hn1 : ∀ W, Calls Tryz.prog 96 #[.string ⟨l.toArray⟩] W fun e w' => e = .returned (.tuple #[.int .u64 K, .int .i64 (a : Int), .int .i64 0]) ∧ W = w' := fun W => by
    have := rreadNum_any l W (by omega)
    rw [rdVal_some hr, ← hK] at this
    exact this
  have hsl := slice_from l a hb.2.1
  rw [← hl1] at hsl
  have hp : M.parse1 l = .error 10 := by
    unfold M.parse1; rw [hr]; simp only
    rw [if_pos (by omega)]
  have Hn1 := Lib.hid hn1
  have Hp := Lib.hid hp
  clear hn1 hp hr hK hb hl1
  rcases hbad with hbad | hbad
  · go_enter Tryz.func85, Tryz.ntmps85
    go_wp2_with fail
    refine (Hn1.out _).mono ?_
    rintro e w' ⟨rfl, rfl⟩
    go_wp2
    refine bodyPost_ret (v := .tuple #[.agg (fcells 0 0 0 []), .string ⟨#[]⟩, .int .i64 10]) (by simp [results, Tryz.results85, go_sem]) rfl (first_mk_err (r := []) Hp.out ?_)
    exact (by repeat (first | exact Below.refl _ _ | refine Below.drew ?_ | refine Below.setCell ?_ (by simp <;> omega) _ | refine Below.alloc ?_ (by simp <;> omega) _))
  · have hb1 : 1 ≤ K / 8 := by omega
    go_enter Tryz.func85, Tryz.ntmps85
    go_wp2_with fail
    refine (Hn1.out _).mono ?_
    rintro e w' ⟨rfl, rfl⟩
    go_wp2
    refine bodyPost_ret (v := .tuple #[.agg (fcells 0 0 0 []), .string ⟨#[]⟩, .int .i64 10]) (by simp [results, Tryz.results85, go_sem]) rfl (first_mk_err (r := []) Hp.out ?_)
    exact (by repeat (first | exact Below.refl _ _ | refine Below.drew ?_ | refine Below.setCell ?_ (by simp <;> omega) _ | refine Below.alloc ?_ (by simp <;> omega) _))

set_option maxHeartbeats 4000000 in
theorem first_w3 (l : List UInt8) (w : World) (hl : l.length ≤ 65536) (k a : Nat) (K : Int) (hK : K = (k : Int)) (hr : M.rd l = some (k, a)) (h1 : 1 ≤ K / 8) (h2 : K / 8 ≤ 536870911) (h8 : K % 8 = 3) :
    Calls Tryz.prog 85 #[.string ⟨l.toArray⟩] w (FirstPost l w) := by
  obtain ⟨l1, hl1⟩ : ∃ l1, l1 = l.drop a := ⟨_, rfl⟩
  have hb := M.rd_bound hr
  have hK0 : 0 ≤ K := by omega
  have hK1 : K ≤ 18446744073709551615 := by omega
  have hl1l : l1.length ≤ 65536 := by rw [hl1, List.length_drop]; omega
  have hn1 : ∀ W, Calls Tryz.prog 96 #[.string ⟨l.toArray⟩] W fun e w' => e = .returned (.tuple #[.int .u64 K, .int .i64 (a : Int), .int .i64 0]) ∧ W = w' := fun W => by
    have := rreadNum_any l W (by omega)
    rw [rdVal_some hr, ← hK] at this
    exact this
  have hsl := slice_from l a hb.2.1
  rw [← hl1] at hsl
  have hp : M.parse1 l = .error 10 := by
    unfold M.parse1; rw [hr]; simp only
    rw [if_neg (by omega), if_neg (by omega), if_neg (by omega), if_neg (by omega), if_neg (by omega)]
  have Hn1 := Lib.hid hn1
  have Hp := Lib.hid hp
  clear hn1 hp hr hK hb hl1
  go_enter Tryz.func85, Tryz.ntmps85
  go_wp2_with fail
  refine (Hn1.out _).mono ?_
  rintro e w' ⟨rfl, rfl⟩
  go_wp2
  refine bodyPost_ret (v := .tuple #[.agg (fcells (K / 8) 3 0 []), .string ⟨#[]⟩, .int .i64 10]) (by simp [results, Tryz.results85, go_sem]) rfl (first_mk_err (r := []) Hp.out ?_)
  exact (by repeat (first | exact Below.refl _ _ | refine Below.drew ?_ | refine Below.setCell ?_ (by simp <;> omega) _ | refine Below.alloc ?_ (by simp <;> omega) _))

set_option maxHeartbeats 4000000 in
theorem first_w4 (l : List UInt8) (w : World) (hl : l.length ≤ 65536) (k a : Nat) (K : Int) (hK : K = (k : Int)) (hr : M.rd l = some (k, a)) (h1 : 1 ≤ K / 8) (h2 : K / 8 ≤ 536870911) (h8 : K % 8 = 4) :
    Calls Tryz.prog 85 #[.string ⟨l.toArray⟩] w (FirstPost l w) := by
  obtain ⟨l1, hl1⟩ : ∃ l1, l1 = l.drop a := ⟨_, rfl⟩
  have hb := M.rd_bound hr
  have hK0 : 0 ≤ K := by omega
  have hK1 : K ≤ 18446744073709551615 := by omega
  have hl1l : l1.length ≤ 65536 := by rw [hl1, List.length_drop]; omega
  have hn1 : ∀ W, Calls Tryz.prog 96 #[.string ⟨l.toArray⟩] W fun e w' => e = .returned (.tuple #[.int .u64 K, .int .i64 (a : Int), .int .i64 0]) ∧ W = w' := fun W => by
    have := rreadNum_any l W (by omega)
    rw [rdVal_some hr, ← hK] at this
    exact this
  have hsl := slice_from l a hb.2.1
  rw [← hl1] at hsl
  have hp : M.parse1 l = .error 10 := by
    unfold M.parse1; rw [hr]; simp only
    rw [if_neg (by omega), if_neg (by omega), if_neg (by omega), if_neg (by omega), if_neg (by omega)]
  have Hn1 := Lib.hid hn1
  have Hp := Lib.hid hp
  clear hn1 hp hr hK hb hl1
  go_enter Tryz.func85, Tryz.ntmps85
  go_wp2_with fail
  refine (Hn1.out _).mono ?_
  rintro e w' ⟨rfl, rfl⟩
  go_wp2
  refine bodyPost_ret (v := .tuple #[.agg (fcells (K / 8) 4 0 []), .string ⟨#[]⟩, .int .i64 10]) (by simp [results, Tryz.results85, go_sem]) rfl (first_mk_err (r := []) Hp.out ?_)
  exact (by repeat (first | exact Below.refl _ _ | refine Below.drew ?_ | refine Below.setCell ?_ (by simp <;> omega) _ | refine Below.alloc ?_ (by simp <;> omega) _))

set_option maxHeartbeats 4000000 in
theorem first_w6 (l : List UInt8) (w : World) (hl : l.length ≤ 65536) (k a : Nat) (K : Int) (hK : K = (k : Int)) (hr : M.rd l = some (k, a)) (h1 : 1 ≤ K / 8) (h2 : K / 8 ≤ 536870911) (h8 : K % 8 = 6) :
    Calls Tryz.prog 85 #[.string ⟨l.toArray⟩] w (FirstPost l w) := by
  obtain ⟨l1, hl1⟩ : ∃ l1, l1 = l.drop a := ⟨_, rfl⟩
  have hb := M.rd_bound hr
  have hK0 : 0 ≤ K := by omega
  have hK1 : K ≤ 18446744073709551615 := by omega
  have hl1l : l1.length ≤ 65536 := by rw [hl1, List.length_drop]; omega
  have hn1 : ∀ W, Calls Tryz.prog 96 #[.string ⟨l.toArray⟩] W fun e w' => e = .returned (.tuple #[.int .u64 K, .int .i64 (a : Int), .int .i64 0]) ∧ W = w' := fun W => by
    have := rreadNum_any l W (by omega)
    rw [rdVal_some hr, ← hK] at this
    exact this
  have hsl := slice_from l a hb.2.1
  rw [← hl1] at hsl
  have hp : M.parse1 l = .error 10 := by
    unfold M.parse1; rw [hr]; simp only
    rw [if_neg (by omega), if_neg (by omega), if_neg (by omega), if_neg (by omega), if_neg (by omega)]
  have Hn1 := Lib.hid hn1
  have Hp := Lib.hid hp
  clear hn1 hp hr hK hb hl1
  go_enter Tryz.func85, Tryz.ntmps85
  go_wp2_with fail
  refine (Hn1.out _).mono ?_
  rintro e w' ⟨rfl, rfl⟩
  go_wp2
  refine bodyPost_ret (v := .tuple #[.agg (fcells (K / 8) 6 0 []), .string ⟨#[]⟩, .int .i64 10]) (by simp [results, Tryz.results85, go_sem]) rfl (first_mk_err (r := []) Hp.out ?_)
  exact (by repeat (first | exact Below.refl _ _ | refine Below.drew ?_ | refine Below.setCell ?_ (by simp <;> omega) _ | refine Below.alloc ?_ (by simp <;> omega) _))

set_option maxHeartbeats 4000000 in
theorem first_w7 (l : List UInt8) (w : World) (hl : l.length ≤ 65536) (k a : Nat) (K : Int) (hK : K = (k : Int)) (hr : M.rd l = some (k, a)) (h1 : 1 ≤ K / 8) (h2 : K / 8 ≤ 536870911) (h8 : K % 8 = 7) :
    Calls Tryz.prog 85 #[.string ⟨l.toArray⟩] w (FirstPost l w) := by
  obtain ⟨l1, hl1⟩ : ∃ l1, l1 = l.drop a := ⟨_, rfl⟩
  have hb := M.rd_bound hr
  have hK0 : 0 ≤ K := by omega
  have hK1 : K ≤ 18446744073709551615 := by omega
  have hl1l : l1.length ≤ 65536 := by rw [hl1, List.length_drop]; omega
  have hn1 : ∀ W, Calls Tryz.prog 96 #[.string ⟨l.toArray⟩] W fun e w' => e = .returned (.tuple #[.int .u64 K, .int .i64 (a : Int), .int .i64 0]) ∧ W = w' := fun W => by
    have := rreadNum_any l W (by omega)
    rw [rdVal_some hr, ← hK] at this
    exact this
  have hsl := slice_from l a hb.2.1
  rw [← hl1] at hsl
  have hp : M.parse1 l = .error 10 := by
    unfold M.parse1; rw [hr]; simp only
    rw [if_neg (by omega), if_neg (by omega), if_neg (by omega), if_neg (by omega), if_neg (by omega)]
  have Hn1 := Lib.hid hn1
  have Hp := Lib.hid hp
  clear hn1 hp hr hK hb hl1
  go_enter Tryz.func85, Tryz.ntmps85
  go_wp2_with fail
  refine (Hn1.out _).mono ?_
  rintro e w' ⟨rfl, rfl⟩
  go_wp2
  refine bodyPost_ret (v := .tuple #[.agg (fcells (K / 8) 7 0 []), .string ⟨#[]⟩, .int .i64 10]) (by simp [results, Tryz.results85, go_sem]) rfl (first_mk_err (r := []) Hp.out ?_)
  exact (by repeat (first | exact Below.refl _ _ | refine Below.drew ?_ | refine Below.setCell ?_ (by simp <;> omega) _ | refine Below.alloc ?_ (by simp <;> omega) _))

set_option maxHeartbeats 4000000 in
theorem first_n0 (l : List UInt8) (w : World) (hl : l.length ≤ 65536) (k a : Nat) (K : Int) (hK : K = (k : Int)) (hr : M.rd l = some (k, a)) (h1 : 1 ≤ K / 8) (h2 : K / 8 ≤ 536870911) (h8 : K % 8 = 0) (hr2 : M.rd (l.drop a) = none) :
    Calls Tryz.prog 85 #[.string ⟨l.toArray⟩] w (FirstPost l w) := by
  obtain ⟨l1, hl1⟩ : ∃ l1, l1 = l.drop a := ⟨_, rfl⟩
  have hb := M.rd_bound hr
  have hK0 : 0 ≤ K := by omega
  have hK1 : K ≤ 18446744073709551615 := by omega
  have hl1l : l1.length ≤ 65536 := by rw [hl1, List.length_drop]; omega
  have hn1 : ∀ W, Calls Tryz.prog 96 #[.string ⟨l.toArray⟩] W fun e w' => e = .returned (.tuple #[.int .u64 K, .int .i64 (a : Int), .int .i64 0]) ∧ W = w' := fun W => by
    have := rreadNum_any l W (by omega)
    rw [rdVal_some hr, ← hK] at this
    exact this
  have hsl := slice_from l a hb.2.1
  rw [← hl1] at hsl
  have hp : M.parse1 l = .error 9 := by
    unfold M.parse1; rw [hr]; simp only
    rw [if_neg (by omega), if_pos (by omega), hr2]
  rw [← hl1] at hr2
  have hn2 : ∀ W, Calls Tryz.prog 96 #[.string ⟨l1.toArray⟩] W fun e w' => e = .returned (.tuple #[.int .u64 0, .int .i64 0, .int .i64 9]) ∧ W = w' := fun W => by
    have := rreadNum_any l1 W (by omega)
    rw [rdVal_none hr2] at this
    exact this
  have hsl2 := slice_from l1 0 (by omega)
  rw [List.drop_zero] at hsl2
  have Hn1 := Lib.hid hn1
  have Hn2 := Lib.hid hn2
  have Hp := Lib.hid hp
  clear hn1 hn2 hp hr hr2 hK hb hl1
  go_enter Tryz.func85, Tryz.ntmps85
  go_wp2_with fail
  refine (Hn1.out _).mono ?_
  rintro e w' ⟨rfl, rfl⟩
  go_wp2_with fail
  refine (Hn2.out _).mono ?_
  rintro e w' ⟨rfl, rfl⟩
  go_wp2
  go_region
  all_goals
    go_wp2
    refine bodyPost_ret (v := .tuple #[.agg (fcells (K / 8) 0 0 []), .string ⟨l1.toArray⟩, .int .i64 9]) (by simp [results, Tryz.results85, go_sem, extract_drop]) rfl (first_mk_err Hp.out ?_)
    exact (by repeat (first | exact Below.refl _ _ | refine Below.drew ?_ | refine Below.setCell ?_ (by simp <;> omega) _ | refine Below.alloc ?_ (by simp <;> omega) _))

set_option maxHeartbeats 4000000 in
theorem first_y0 (l : List UInt8) (w : World) (hl : l.length ≤ 65536) (k a : Nat) (K : Int) (hK : K = (k : Int)) (hr : M.rd l = some (k, a)) (h1 : 1 ≤ K / 8) (h2 : K / 8 ≤ 536870911) (h8 : K % 8 = 0) (n b : Nat) (hr2 : M.rd (l.drop a) = some (n, b)) :
    Calls Tryz.prog 85 #[.string ⟨l.toArray⟩] w (FirstPost l w) := by
  obtain ⟨l1, hl1⟩ : ∃ l1, l1 = l.drop a := ⟨_, rfl⟩
  have hb := M.rd_bound hr
  have hK0 : 0 ≤ K := by omega
  have hK1 : K ≤ 18446744073709551615 := by omega
  have hl1l : l1.length ≤ 65536 := by rw [hl1, List.length_drop]; omega
  have hn1 : ∀ W, Calls Tryz.prog 96 #[.string ⟨l.toArray⟩] W fun e w' => e = .returned (.tuple #[.int .u64 K, .int .i64 (a : Int), .int .i64 0]) ∧ W = w' := fun W => by
    have := rreadNum_any l W (by omega)
    rw [rdVal_some hr, ← hK] at this
    exact this
  have hsl := slice_from l a hb.2.1
  rw [← hl1] at hsl
  have hp : M.parse1 l = .ok (⟨K / 8, 0, n, []⟩, l1.drop b) := by
    unfold M.parse1; rw [hr]; simp only
    rw [if_neg (by omega), if_pos (by omega), hr2]
    simp only
    rw [← hl1, show ((k / 8 : Nat) : Int) = K / 8 by omega]
  rw [← hl1] at hr2
  have hb2 := M.rd_bound hr2
  obtain ⟨N, hN⟩ : ∃ N : Int, N = (n : Int) := ⟨_, rfl⟩
  have hN0 : 0 ≤ N := by omega
  have hN1 : N ≤ 18446744073709551615 := by omega
  have hn2 : ∀ W, Calls Tryz.prog 96 #[.string ⟨l1.toArray⟩] W fun e w' => e = .returned (.tuple #[.int .u64 N, .int .i64 (b : Int), .int .i64 0]) ∧ W = w' := fun W => by
    have := rreadNum_any l1 W (by omega)
    rw [rdVal_some hr2, ← hN] at this
    exact this
  have hsl2 := slice_from l1 b hb2.2.1
  have hfit : Fit ⟨K / 8, 0, n, []⟩ (K / 8) 0 N [] := ⟨by rw [hN]; rfl, by omega, by omega, hN0, hN1, by omega, by omega, by simp⟩
  have hbl : (b : Int) ≤ (l1.length : Int) := by omega
  have Hn1 := Lib.hid hn1
  have Hn2 := Lib.hid hn2
  have Hp := Lib.hid hp
  have Hfit := Lib.hid hfit
  clear hn1 hn2 hp hr hr2 hK hb hl1 hb2 hN hfit
  go_enter Tryz.func85, Tryz.ntmps85
  go_wp2_with fail
  refine (Hn1.out _).mono ?_
  rintro e w' ⟨rfl, rfl⟩
  go_wp2_with fail
  refine (Hn2.out _).mono ?_
  rintro e w' ⟨rfl, rfl⟩
  go_wp2
  go_region
  all_goals
    go_wp2
    refine bodyPost_ret (v := .tuple #[.agg (fcells (K / 8) 0 N []), .string ⟨(l1.drop b).toArray⟩, .int .i64 0]) (by simp [results, Tryz.results85, go_sem, extract_drop]) rfl (first_mk_ok Hp.out Hfit.out ?_)
    exact (by repeat (first | exact Below.refl _ _ | refine Below.drew ?_ | refine Below.setCell ?_ (by simp <;> omega) _ | refine Below.alloc ?_ (by simp <;> omega) _))

set_option maxHeartbeats 4000000 in
theorem first_n1 (l : List UInt8) (w : World) (hl : l.length ≤ 65536) (k a : Nat) (K : Int) (hK : K = (k : Int)) (hr : M.rd l = some (k, a)) (h1 : 1 ≤ K / 8) (h2 : K / 8 ≤ 536870911) (h8 : K % 8 = 1) (hs : (l.drop a).length < 8) :
    Calls Tryz.prog 85 #[.string ⟨l.toArray⟩] w (FirstPost l w) := by
  obtain ⟨l1, hl1⟩ : ∃ l1, l1 = l.drop a := ⟨_, rfl⟩
  have hb := M.rd_bound hr
  have hK0 : 0 ≤ K := by omega
  have hK1 : K ≤ 18446744073709551615 := by omega
  have hl1l : l1.length ≤ 65536 := by rw [hl1, List.length_drop]; omega
  have hn1 : ∀ W, Calls Tryz.prog 96 #[.string ⟨l.toArray⟩] W fun e w' => e = .returned (.tuple #[.int .u64 K, .int .i64 (a : Int), .int .i64 0]) ∧ W = w' := fun W => by
    have := rreadNum_any l W (by omega)
    rw [rdVal_some hr, ← hK] at this
    exact this
  have hsl := slice_from l a hb.2.1
  rw [← hl1] at hsl
  have hp : M.parse1 l = .error 10 := by
    unfold M.parse1; rw [hr]; simp only
    rw [if_neg (by omega), if_neg (by omega), if_pos (by omega), if_pos hs]
  rw [← hl1] at hs
  have Hn1 := Lib.hid hn1
  have Hp := Lib.hid hp
  clear hn1 hp hr hK hb hl1
  go_enter Tryz.func85, Tryz.ntmps85
  go_wp2_with fail
  refine (Hn1.out _).mono ?_
  rintro e w' ⟨rfl, rfl⟩
  go_wp2
  refine bodyPost_ret (v := .tuple #[.agg (fcells (K / 8) 1 0 []), .string ⟨#[]⟩, .int .i64 10]) (by simp [results, Tryz.results85, go_sem, extract_drop]) rfl (first_mk_err (r := []) Hp.out ?_)
  exact (by repeat (first | exact Below.refl _ _ | refine Below.drew ?_ | refine Below.setCell ?_ (by simp <;> omega) _ | refine Below.alloc ?_ (by simp <;> omega) _))

set_option maxHeartbeats 4000000 in
theorem first_y1 (l : List UInt8) (w : World) (hl : l.length ≤ 65536) (k a : Nat) (K : Int) (hK : K = (k : Int)) (hr : M.rd l = some (k, a)) (h1 : 1 ≤ K / 8) (h2 : K / 8 ≤ 536870911) (h8 : K % 8 = 1) (hs : 8 ≤ (l.drop a).length) :
    Calls Tryz.prog 85 #[.string ⟨l.toArray⟩] w (FirstPost l w) := by
  obtain ⟨l1, hl1⟩ : ∃ l1, l1 = l.drop a := ⟨_, rfl⟩
  have hb := M.rd_bound hr
  have hK0 : 0 ≤ K := by omega
  have hK1 : K ≤ 18446744073709551615 := by omega
  have hl1l : l1.length ≤ 65536 := by rw [hl1, List.length_drop]; omega
  have hn1 : ∀ W, Calls Tryz.prog 96 #[.string ⟨l.toArray⟩] W fun e w' => e = .returned (.tuple #[.int .u64 K, .int .i64 (a : Int), .int .i64 0]) ∧ W = w' := fun W => by
    have := rreadNum_any l W (by omega)
    rw [rdVal_some hr, ← hK] at this
    exact this
  have hsl := slice_from l a hb.2.1
  rw [← hl1] at hsl
  have hp : M.parse1 l = .ok (⟨K / 8, 1, M.unle (l1.take 8), []⟩, l1.drop 8) := by
    unfold M.parse1; rw [hr]; simp only
    rw [if_neg (by omega), if_neg (by omega), if_pos (by omega), if_neg (by omega)]
    rw [← hl1, show ((k / 8 : Nat) : Int) = K / 8 by omega]
  rw [← hl1] at hs
  have hst : ∀ W, (Instr.slice 9 (.string ⟨l1.toArray⟩) none (some (.int .i64 8)) none).run Tryz.prog W = .ok (.string ⟨(l1.take 8).toArray⟩) W := slice_to l1 .i64 8 hs
  have hsf : ∀ W, (Instr.slice 9 (.string ⟨l1.toArray⟩) (some (.int .i64 8)) none none).run Tryz.prog W = .ok (.string ⟨(l1.drop 8).toArray⟩) W := slice_from l1 8 hs
  have hul := M.unle_lt (l1.take 8)
  have htl : (l1.take 8).length = 8 := by rw [List.length_take]; omega
  rw [htl] at hul
  obtain ⟨N, hN⟩ : ∃ N : Int, N = (M.unle (l1.take 8) : Int) := ⟨_, rfl⟩
  have hN0 : 0 ≤ N := by omega
  have hN1 : N ≤ 18446744073709551615 := by simp only [Nat.reducePow] at hul; omega
  have hnum : ∀ W, Calls Tryz.prog 97 #[.string ⟨(l1.take 8).toArray⟩] W fun e w' => e = .returned (.int .u64 N) ∧ W = w' := fun W => by rw [hN]; exact number_any (l1.take 8) W (by omega)
  have hfit : Fit ⟨K / 8, 1, M.unle (l1.take 8), []⟩ (K / 8) 1 N [] := ⟨by rw [hN]; rfl, by omega, by omega, hN0, hN1, by omega, by omega, by simp⟩
  have Hn1 := Lib.hid hn1
  have Hnum := Lib.hid hnum
  have Hp := Lib.hid hp
  have Hfit := Lib.hid hfit
  clear hn1 hp hr hK hb hl1 hN hfit hul htl hnum
  go_enter Tryz.func85, Tryz.ntmps85
  go_wp2_with fail
  refine (Hn1.out _).mono ?_
  rintro e w' ⟨rfl, rfl⟩
  go_wp2_with fail
  refine (Hnum.out _).mono ?_
  rintro e w' ⟨rfl, rfl⟩
  go_wp2
  go_region
  all_goals
    go_wp2
    refine bodyPost_ret (v := .tuple #[.agg (fcells (K / 8) 1 N []), .string ⟨(l1.drop 8).toArray⟩, .int .i64 0]) (by simp [results, Tryz.results85, go_sem, extract_drop]) rfl (first_mk_ok Hp.out Hfit.out ?_)
    exact (by repeat (first | exact Below.refl _ _ | refine Below.drew ?_ | refine Below.setCell ?_ (by simp <;> omega) _ | refine Below.alloc ?_ (by simp <;> omega) _))

set_option maxHeartbeats 4000000 in
theorem first_n5 (l : List UInt8) (w : World) (hl : l.length ≤ 65536) (k a : Nat) (K : Int) (hK : K = (k : Int)) (hr : M.rd l = some (k, a)) (h1 : 1 ≤ K / 8) (h2 : K / 8 ≤ 536870911) (h8 : K % 8 = 5) (hs : (l.drop a).length < 4) :
    Calls Tryz.prog 85 #[.string ⟨l.toArray⟩] w (FirstPost l w) := by
  obtain ⟨l1, hl1⟩ : ∃ l1, l1 = l.drop a := ⟨_, rfl⟩
  have hb := M.rd_bound hr
  have hK0 : 0 ≤ K := by omega
  have hK1 : K ≤ 18446744073709551615 := by omega
  have hl1l : l1.length ≤ 65536 := by rw [hl1, List.length_drop]; omega
  have hn1 : ∀ W, Calls Tryz.prog 96 #[.string ⟨l.toArray⟩] W fun e w' => e = .returned (.tuple #[.int .u64 K, .int .i64 (a : Int), .int .i64 0]) ∧ W = w' := fun W => by
    have := rreadNum_any l W (by omega)
    rw [rdVal_some hr, ← hK] at this
    exact this
  have hsl := slice_from l a hb.2.1
  rw [← hl1] at hsl
  have hp : M.parse1 l = .error 10 := by
    unfold M.parse1; rw [hr]; simp only
    rw [if_neg (by omega), if_neg (by omega), if_neg (by omega), if_pos (by omega), if_pos hs]
  rw [← hl1] at hs
  have Hn1 := Lib.hid hn1
  have Hp := Lib.hid hp
  clear hn1 hp hr hK hb hl1
  go_enter Tryz.func85, Tryz.ntmps85
  go_wp2_with fail
  refine (Hn1.out _).mono ?_
  rintro e w' ⟨rfl, rfl⟩
  go_wp2
  refine bodyPost_ret (v := .tuple #[.agg (fcells (K / 8) 5 0 []), .string ⟨#[]⟩, .int .i64 10]) (by simp [results, Tryz.results85, go_sem, extract_drop]) rfl (first_mk_err (r := []) Hp.out ?_)
  exact (by repeat (first | exact Below.refl _ _ | refine Below.drew ?_ | refine Below.setCell ?_ (by simp <;> omega) _ | refine Below.alloc ?_ (by simp <;> omega) _))

set_option maxHeartbeats 4000000 in
theorem first_y5 (l : List UInt8) (w : World) (hl : l.length ≤ 65536) (k a : Nat) (K : Int) (hK : K = (k : Int)) (hr : M.rd l = some (k, a)) (h1 : 1 ≤ K / 8) (h2 : K / 8 ≤ 536870911) (h8 : K % 8 = 5) (hs : 4 ≤ (l.drop a).length) :
    Calls Tryz.prog 85 #[.string ⟨l.toArray⟩] w (FirstPost l w) := by
  obtain ⟨l1, hl1⟩ : ∃ l1, l1 = l.drop a := ⟨_, rfl⟩
  have hb := M.rd_bound hr
  have hK0 : 0 ≤ K := by omega
  have hK1 : K ≤ 18446744073709551615 := by omega
  have hl1l : l1.length ≤ 65536 := by rw [hl1, List.length_drop]; omega
  have hn1 : ∀ W, Calls Tryz.prog 96 #[.string ⟨l.toArray⟩] W fun e w' => e = .returned (.tuple #[.int .u64 K, .int .i64 (a : Int), .int .i64 0]) ∧ W = w' := fun W => by
    have := rreadNum_any l W (by omega)
    rw [rdVal_some hr, ← hK] at this
    exact this
  have hsl := slice_from l a hb.2.1
  rw [← hl1] at hsl
  have hp : M.parse1 l = .ok (⟨K / 8, 5, M.unle (l1.take 4), []⟩, l1.drop 4) := by
    unfold M.parse1; rw [hr]; simp only
    rw [if_neg (by omega), if_neg (by omega), if_neg (by omega), if_pos (by omega), if_neg (by omega)]
    rw [← hl1, show ((k / 8 : Nat) : Int) = K / 8 by omega]
  rw [← hl1] at hs
  have hst : ∀ W, (Instr.slice 9 (.string ⟨l1.toArray⟩) none (some (.int .i64 4)) none).run Tryz.prog W = .ok (.string ⟨(l1.take 4).toArray⟩) W := slice_to l1 .i64 4 hs
  have hsf : ∀ W, (Instr.slice 9 (.string ⟨l1.toArray⟩) (some (.int .i64 4)) none none).run Tryz.prog W = .ok (.string ⟨(l1.drop 4).toArray⟩) W := slice_from l1 4 hs
  have hul := M.unle_lt (l1.take 4)
  have htl : (l1.take 4).length = 4 := by rw [List.length_take]; omega
  rw [htl] at hul
  obtain ⟨N, hN⟩ : ∃ N : Int, N = (M.unle (l1.take 4) : Int) := ⟨_, rfl⟩
  have hN0 : 0 ≤ N := by omega
  have hN1 : N ≤ 18446744073709551615 := by simp only [Nat.reducePow] at hul; omega
  have hnum : ∀ W, Calls Tryz.prog 97 #[.string ⟨(l1.take 4).toArray⟩] W fun e w' => e = .returned (.int .u64 N) ∧ W = w' := fun W => by rw [hN]; exact number_any (l1.take 4) W (by omega)
  have hfit : Fit ⟨K / 8, 5, M.unle (l1.take 4), []⟩ (K / 8) 5 N [] := ⟨by rw [hN]; rfl, by omega, by omega, hN0, hN1, by omega, by omega, by simp⟩
  have Hn1 := Lib.hid hn1
  have Hnum := Lib.hid hnum
  have Hp := Lib.hid hp
  have Hfit := Lib.hid hfit
  clear hn1 hp hr hK hb hl1 hN hfit hul htl hnum
  go_enter Tryz.func85, Tryz.ntmps85
  go_wp2_with fail
  refine (Hn1.out _).mono ?_
  rintro e w' ⟨rfl, rfl⟩
  go_wp2_with fail
  refine (Hnum.out _).mono ?_
  rintro e w' ⟨rfl, rfl⟩
  go_wp2
  go_region
  all_goals
    go_wp2
    refine bodyPost_ret (v := .tuple #[.agg (fcells (K / 8) 5 N []), .string ⟨(l1.drop 4).toArray⟩, .int .i64 0]) (by simp [results, Tryz.results85, go_sem, extract_drop]) rfl (first_mk_ok Hp.out Hfit.out ?_)
    exact (by repeat (first | exact Below.refl _ _ | refine Below.drew ?_ | refine Below.setCell ?_ (by simp <;> omega) _ | refine Below.alloc ?_ (by simp <;> omega) _))

set_option maxHeartbeats 4000000 in
theorem first_n2 (l : List UInt8) (w : World) (hl : l.length ≤ 65536) (k a : Nat) (K : Int) (hK : K = (k : Int)) (hr : M.rd l = some (k, a)) (h1 : 1 ≤ K / 8) (h2 : K / 8 ≤ 536870911) (h8 : K % 8 = 2) (hr2 : M.rd (l.drop a) = none) :
    Calls Tryz.prog 85 #[.string ⟨l.toArray⟩] w (FirstPost l w) := by
  obtain ⟨l1, hl1⟩ : ∃ l1, l1 = l.drop a := ⟨_, rfl⟩
  have hb := M.rd_bound hr
  have hK0 : 0 ≤ K := by omega
  have hK1 : K ≤ 18446744073709551615 := by omega
  have hl1l : l1.length ≤ 65536 := by rw [hl1, List.length_drop]; omega
  have hn1 : ∀ W, Calls Tryz.prog 96 #[.string ⟨l.toArray⟩] W fun e w' => e = .returned (.tuple #[.int .u64 K, .int .i64 (a : Int), .int .i64 0]) ∧ W = w' := fun W => by
    have := rreadNum_any l W (by omega)
    rw [rdVal_some hr, ← hK] at this
    exact this
  have hsl := slice_from l a hb.2.1
  rw [← hl1] at hsl
  have hp : M.parse1 l = .error 9 := by
    unfold M.parse1; rw [hr]; simp only
    rw [if_neg (by omega), if_neg (by omega), if_neg (by omega), if_neg (by omega), if_pos (by omega), hr2]
  rw [← hl1] at hr2
  have hn2 : ∀ W, Calls Tryz.prog 96 #[.string ⟨l1.toArray⟩] W fun e w' => e = .returned (.tuple #[.int .u64 0, .int .i64 0, .int .i64 9]) ∧ W = w' := fun W => by
    have := rreadNum_any l1 W (by omega)
    rw [rdVal_none hr2] at this
    exact this
  have Hn1 := Lib.hid hn1
  have Hn2 := Lib.hid hn2
  have Hp := Lib.hid hp
  clear hn1 hn2 hp hr hr2 hK hb hl1
  go_enter Tryz.func85, Tryz.ntmps85
  go_wp2_with fail
  refine (Hn1.out _).mono ?_
  rintro e w' ⟨rfl, rfl⟩
  go_wp2_with fail
  refine (Hn2.out _).mono ?_
  rintro e w' ⟨rfl, rfl⟩
  go_wp2
  refine bodyPost_ret (v := .tuple #[.agg (fcells (K / 8) 2 0 []), .string ⟨#[]⟩, .int .i64 9]) (by simp [results, Tryz.results85, go_sem, extract_drop]) rfl (first_mk_err (r := []) Hp.out ?_)
  exact (by repeat (first | exact Below.refl _ _ | refine Below.drew ?_ | refine Below.setCell ?_ (by simp <;> omega) _ | refine Below.alloc ?_ (by simp <;> omega) _))

set_option maxHeartbeats 4000000 in
theorem first_s2 (l : List UInt8) (w : World) (hl : l.length ≤ 65536) (k a : Nat) (K : Int) (hK : K = (k : Int)) (hr : M.rd l = some (k, a)) (h1 : 1 ≤ K / 8) (h2 : K / 8 ≤ 536870911) (h8 : K % 8 = 2) (m b : Nat) (hr2 : M.rd (l.drop a) = some (m, b)) (hs : ((l.drop a).drop b).length < m) :
    Calls Tryz.prog 85 #[.string ⟨l.toArray⟩] w (FirstPost l w) := by
  obtain ⟨l1, hl1⟩ : ∃ l1, l1 = l.drop a := ⟨_, rfl⟩
  have hb := M.rd_bound hr
  have hK0 : 0 ≤ K := by omega
  have hK1 : K ≤ 18446744073709551615 := by omega
  have hl1l : l1.length ≤ 65536 := by rw [hl1, List.length_drop]; omega
  have hn1 : ∀ W, Calls Tryz.prog 96 #[.string ⟨l.toArray⟩] W fun e w' => e = .returned (.tuple #[.int .u64 K, .int .i64 (a : Int), .int .i64 0]) ∧ W = w' := fun W => by
    have := rreadNum_any l W (by omega)
    rw [rdVal_some hr, ← hK] at this
    exact this
  have hsl := slice_from l a hb.2.1
  rw [← hl1] at hsl
  have hp : M.parse1 l = .error 10 := by
    unfold M.parse1; rw [hr]; simp only
    rw [if_neg (by omega), if_neg (by omega), if_neg (by omega), if_neg (by omega), if_pos (by omega), hr2]
    simp only
    rw [if_pos hs]
  rw [← hl1] at hr2
  have hb2 := M.rd_bound hr2
  obtain ⟨N, hN⟩ : ∃ N : Int, N = (m : Int) := ⟨_, rfl⟩
  have hN0 : 0 ≤ N := by omega
  have hN1 : N ≤ 18446744073709551615 := by omega
  have hn2 : ∀ W, Calls Tryz.prog 96 #[.string ⟨l1.toArray⟩] W fun e w' => e = .returned (.tuple #[.int .u64 N, .int .i64 (b : Int), .int .i64 0]) ∧ W = w' := fun W => by
    have := rreadNum_any l1 W (by omega)
    rw [rdVal_some hr2, ← hN] at this
    exact this
  have hsl2 := slice_from l1 b hb2.2.1
  have hbl : (b : Int) ≤ (l1.length : Int) := by omega
  obtain ⟨l2, hl2⟩ : ∃ l2, l2 = l1.drop b := ⟨_, rfl⟩
  rw [← hl2] at hsl2
  rw [← hl1, ← hl2] at hs
  have hl2l : l2.length ≤ 65536 := by rw [hl2, List.length_drop]; omega
  have hs2 : (l2.length : Int) < N := by omega
  have Hn1 := Lib.hid hn1
  have Hn2 := Lib.hid hn2
  have Hp := Lib.hid hp
  clear hn1 hn2 hp hr hr2 hK hb hl1 hl2 hb2 hN hs
  go_enter Tryz.func85, Tryz.ntmps85
  go_wp2_with fail
  refine (Hn1.out _).mono ?_
  rintro e w' ⟨rfl, rfl⟩
  go_wp2_with fail
  refine (Hn2.out _).mono ?_
  rintro e w' ⟨rfl, rfl⟩
  go_wp2
  refine bodyPost_ret (v := .tuple #[.agg (fcells (K / 8) 2 0 []), .string ⟨#[]⟩, .int .i64 10]) (by simp [results, Tryz.results85, go_sem, extract_drop]) rfl (first_mk_err (r := []) Hp.out ?_)
  exact (by repeat (first | exact Below.refl _ _ | refine Below.drew ?_ | refine Below.setCell ?_ (by simp <;> omega) _ | refine Below.alloc ?_ (by simp <;> omega) _))

set_option maxHeartbeats 4000000 in
theorem first_y2 (l : List UInt8) (w : World) (hl : l.length ≤ 65536) (k a : Nat) (K : Int) (hK : K = (k : Int)) (hr : M.rd l = some (k, a)) (h1 : 1 ≤ K / 8) (h2 : K / 8 ≤ 536870911) (h8 : K % 8 = 2) (m b : Nat) (hr2 : M.rd (l.drop a) = some (m, b)) (hs : m ≤ ((l.drop a).drop b).length) :
    Calls Tryz.prog 85 #[.string ⟨l.toArray⟩] w (FirstPost l w) := by
  obtain ⟨l1, hl1⟩ : ∃ l1, l1 = l.drop a := ⟨_, rfl⟩
  have hb := M.rd_bound hr
  have hK0 : 0 ≤ K := by omega
  have hK1 : K ≤ 18446744073709551615 := by omega
  have hl1l : l1.length ≤ 65536 := by rw [hl1, List.length_drop]; omega
  have hn1 : ∀ W, Calls Tryz.prog 96 #[.string ⟨l.toArray⟩] W fun e w' => e = .returned (.tuple #[.int .u64 K, .int .i64 (a : Int), .int .i64 0]) ∧ W = w' := fun W => by
    have := rreadNum_any l W (by omega)
    rw [rdVal_some hr, ← hK] at this
    exact this
  have hsl := slice_from l a hb.2.1
  rw [← hl1] at hsl
  have hp : M.parse1 l = .ok (⟨K / 8, 2, 0, (l1.drop b).take m⟩, (l1.drop b).drop m) := by
    unfold M.parse1; rw [hr]; simp only
    rw [if_neg (by omega), if_neg (by omega), if_neg (by omega), if_neg (by omega), if_pos (by omega), hr2]
    simp only
    rw [if_neg (by omega), ← hl1, show ((k / 8 : Nat) : Int) = K / 8 by omega]
  rw [← hl1] at hr2
  have hb2 := M.rd_bound hr2
  obtain ⟨N, hN⟩ : ∃ N : Int, N = (m : Int) := ⟨_, rfl⟩
  have hN0 : 0 ≤ N := by omega
  have hN1 : N ≤ 18446744073709551615 := by omega
  have hn2 : ∀ W, Calls Tryz.prog 96 #[.string ⟨l1.toArray⟩] W fun e w' => e = .returned (.tuple #[.int .u64 N, .int .i64 (b : Int), .int .i64 0]) ∧ W = w' := fun W => by
    have := rreadNum_any l1 W (by omega)
    rw [rdVal_some hr2, ← hN] at this
    exact this
  have hsl2 := slice_from l1 b hb2.2.1
  have hbl : (b : Int) ≤ (l1.length : Int) := by omega
  obtain ⟨l2, hl2⟩ : ∃ l2, l2 = l1.drop b := ⟨_, rfl⟩
  rw [← hl2] at hsl2 hp
  rw [← hl1, ← hl2] at hs
  have hl2l : l2.length ≤ 65536 := by rw [hl2, List.length_drop]; omega
  have hs2 : N ≤ (l2.length : Int) := by omega
  have hst : ∀ W, (Instr.slice 9 (.string ⟨l2.toArray⟩) none (some (.int .u64 N)) none).run Tryz.prog W = .ok (.string ⟨(l2.take m).toArray⟩) W := by rw [hN]; exact slice_to l2 .u64 m hs
  have hsf : ∀ W, (Instr.slice 9 (.string ⟨l2.toArray⟩) (some (.int .u64 N)) none none).run Tryz.prog W = .ok (.string ⟨(l2.drop m).toArray⟩) W := by rw [hN]; exact slice_fromK l2 .u64 m hs
  have hfit : Fit ⟨K / 8, 2, 0, l2.take m⟩ (K / 8) 2 0 (l2.take m) := ⟨rfl, by omega, by omega, by omega, by omega, by omega, by omega, by rw [List.length_take]; omega⟩
  have Hn1 := Lib.hid hn1
  have Hn2 := Lib.hid hn2
  have Hp := Lib.hid hp
  have Hfit := Lib.hid hfit
  clear hn1 hn2 hp hr hr2 hK hb hl1 hl2 hb2 hN hs hfit
  go_enter Tryz.func85, Tryz.ntmps85
  go_wp2_with fail
  refine (Hn1.out _).mono ?_
  rintro e w' ⟨rfl, rfl⟩
  go_wp2_with fail
  refine (Hn2.out _).mono ?_
  rintro e w' ⟨rfl, rfl⟩
  go_wp2
  go_region
  all_goals
    go_wp2
    refine bodyPost_ret (v := .tuple #[.agg (fcells (K / 8) 2 0 (l2.take m)), .string ⟨(l2.drop m).toArray⟩, .int .i64 0]) (by simp [results, Tryz.results85, go_sem, extract_drop]) rfl (first_mk_ok Hp.out Hfit.out ?_)
    exact (by repeat (first | exact Below.refl _ _ | refine Below.drew ?_ | refine Below.setCell ?_ (by simp <;> omega) _ | refine Below.alloc ?_ (by simp <;> omega) _))

theorem first_any (l : List UInt8) (w : World) (hl : l.length ≤ 65536) : Calls Tryz.prog 85 #[.string ⟨l.toArray⟩] w (FirstPost l w) := by
  cases hr : M.rd l with
  | none => exact first_e1 l w hl hr
  | some x =>
    obtain ⟨k, a⟩ := x
    by_cases hb : (k : Int) / 8 < 1 ∨ 536870911 < (k : Int) / 8
    · exact first_e2 l w hl k a k rfl hr hb
    · have h1 : 1 ≤ (k : Int) / 8 := by omega
      have h2 : (k : Int) / 8 ≤ 536870911 := by omega
      rcases (by omega : (k : Int) % 8 = 0 ∨ (k : Int) % 8 = 1 ∨ (k : Int) % 8 = 2 ∨ (k : Int) % 8 = 3 ∨ (k : Int) % 8 = 4 ∨ (k : Int) % 8 = 5 ∨ (k : Int) % 8 = 6 ∨ (k : Int) % 8 = 7) with h8 | h8 | h8 | h8 | h8 | h8 | h8 | h8
      · cases hr2 : M.rd (l.drop a) with
        | none => exact first_n0 l w hl k a k rfl hr h1 h2 h8 hr2
        | some y => exact first_y0 l w hl k a k rfl hr h1 h2 h8 y.1 y.2 hr2
      · by_cases hs : (l.drop a).length < 8
        · exact first_n1 l w hl k a k rfl hr h1 h2 h8 hs
        · exact first_y1 l w hl k a k rfl hr h1 h2 h8 (by omega)
      · cases hr2 : M.rd (l.drop a) with
        | none => exact first_n2 l w hl k a k rfl hr h1 h2 h8 hr2
        | some y =>
          by_cases hs : ((l.drop a).drop y.2).length < y.1
          · exact first_s2 l w hl k a k rfl hr h1 h2 h8 y.1 y.2 hr2 hs
          · exact first_y2 l w hl k a k rfl hr h1 h2 h8 y.1 y.2 hr2 (by omega)
      · exact first_w3 l w hl k a k rfl hr h1 h2 h8
      · exact first_w4 l w hl k a k rfl hr h1 h2 h8
      · by_cases hs : (l.drop a).length < 4
        · exact first_n5 l w hl k a k rfl hr h1 h2 h8 hs
        · exact first_y5 l w hl k a k rfl hr h1 h2 h8 (by omega)
      · exact first_w6 l w hl k a k rfl hr h1 h2 h8
      · exact first_w7 l w hl k a k rfl hr h1 h2 h8
end Go.Proofs.YtnnnnlcpmocnfaaGreatDoor

/- THE DEFERRED CLOSURE OF fields. -/
namespace Go.Proofs.YtnnnnlcpmocnfaaGreatDoor
open Go.RowKit
set_option linter.unusedVariables false
set_option linter.unusedSimpArgs false

theorem wcatch_idle (p q : Addr) (w : World) :
    CallsD Tryz.prog 102 #[.pointer (some p), .pointer (some q)] .returning w fun e u' w' => e = .returned (.tuple #[]) ∧ u' = .returning ∧ w' = w := by
  refine callsD_of_wpS Tryz.func102 rfl fun c₀ cs hu => ?_
  apply wpS_seq
  apply wpS_region
  simp [wpOpsS, go_sem, recoverD, hu, Tryz.ntmps102, Exit.thenS]
  apply wpS_seq
  apply wpS_seq
  apply wpS_region
  simp [wpOpsS, go_sem, Exit.thenS, Array.replicate]
  refine wpS_cond (t := true) (by simp [Act.eval]) ?_
  simp only [if_true]
  refine wpS_of_wp (wp_ret ?_)
  cases c₀
  simp_all [bodyPostS, results, Tryz.results102, Exit.thenS]
theorem wcatch_pan (p q : Addr) (x : Int) (v : Value) (y : Int) (older : List PanicEntry) (w : World) (hc : w.cell? p = some v) (hz : w.frozen? p = false) (hd : (w.setCell p (.slice none 0 0)).cell? q = some (.int .i64 y)) (hzq : (w.setCell p (.slice none 0 0)).frozen? q = false) :
    CallsD Tryz.prog 102 #[.pointer (some p), .pointer (some q)] (.panicking ({ v := .iface 31 (.int .i64 x), recovered := false } :: older)) w fun e u' w' =>
      e = .returned (.tuple #[]) ∧ u' = .panicking ({ v := .iface 31 (.int .i64 x), recovered := true } :: older) ∧ w' = (w.setCell p (.slice none 0 0)).setCell q (.int .i64 x) := by
  refine callsD_of_wpS Tryz.func102 rfl fun c₀ cs hu => ?_
  apply wpS_seq
  apply wpS_region
  simp [wpOpsS, go_sem, recoverD, hu, Tryz.ntmps102, Exit.thenS]
  apply wpS_seq
  apply wpS_seq
  apply wpS_region
  simp [wpOpsS, go_sem, Exit.thenS, Array.replicate]
  refine wpS_cond (t := false) (by simp [Act.eval]) ?_
  simp only [Bool.false_eq_true, if_false]
  refine wpS_of_wp (wp_skip ?_)
  simp only [Exit.thenS]
  have hta : ∀ W, (Instr.typeAssert (.iface 31 (.int .i64 x)) 20 31 true).run Tryz.prog W = .ok (.tuple #[.int .i64 x, .bool true]) W := fun W => by kernel_rfl
  refine wpS_of_wp ?_
  go_wp2
  cases c₀
  simp_all [bodyPostS, results, Tryz.results102, Exit.thenS]
end Go.Proofs.YtnnnnlcpmocnfaaGreatDoor

/- THE WALK OVER fields. -/
namespace Go.Proofs.YtnnnnlcpmocnfaaGreatDoor
open Go.RowKit
set_option linter.unusedVariables false
set_option linter.unusedSimpArgs false

structure Inv (s : List UInt8) (w wr : World) (B0 : Nat) (rest : List UInt8) (acc : List M.Fd) (v : Value) : Prop where
  l : wr.heap[B0]? = some (.cells #[v] 81 (0, 0))
  y : wr.heap[B0 + 1]? = some (.cells #[.int .i64 0] 31 (0, 0))
  r : Rdr wr (B0 + 1 + 1) rest
  row : FRow wr (B0 + 1 + 1 + 1) v acc
  fine : ∀ f ∈ acc, Fine f
  len : acc.length + rest.length ≤ 65536
  eq : M.parse s = M.ahead acc (M.parse rest)
  bel : Below B0 w wr
theorem two_set {wr : World} {b : Nat} {v v' u u' : Value} (hl : wr.heap[b]? = some (.cells #[v] 81 (0, 0))) (hy : wr.heap[b + 1]? = some (.cells #[u] 31 (0, 0))) :
    (wr.setCell ⟨b, 0, none⟩ v').cell? ⟨b, 0, none⟩ = some v' ∧ (wr.setCell ⟨b, 0, none⟩ v').cell? ⟨b + 1, 0, none⟩ = some u ∧
    ((wr.setCell ⟨b, 0, none⟩ v').setCell ⟨b + 1, 0, none⟩ u').cell? ⟨b, 0, none⟩ = some v' ∧ ((wr.setCell ⟨b, 0, none⟩ v').setCell ⟨b + 1, 0, none⟩ u').cell? ⟨b + 1, 0, none⟩ = some u' := by
  have h1 := one_setCell (u := v') hl
  have h2 : (wr.setCell ⟨b, 0, none⟩ v').heap[b + 1]? = some (.cells #[u] 31 (0, 0)) := (Below.heap_setCell wr _ v' (b + 1) (by simp)).trans hy
  have h3 : ((wr.setCell ⟨b, 0, none⟩ v').setCell ⟨b + 1, 0, none⟩ u').heap[b]? = some (.cells #[v'] 81 (0, 0)) := (Below.heap_setCell _ _ u' b (by simp)).trans h1
  exact ⟨cell_of_one h1, cell_of_one h2, cell_of_one h3, cell_of_one (one_setCell h2)⟩
theorem FRow.mono {w : World} {base base' : Nat} {v : Value} {fs : List M.Fd} (h : FRow w base v fs) (hb : base' ≤ base) : FRow w base' v fs := by
  refine ⟨h.1, ?_⟩
  rcases h.2 with h2 | ⟨g, cap, cur, hv, hg, r⟩
  · exact .inl h2
  · exact .inr ⟨g, cap, cur, hv, Nat.le_trans hb hg, r⟩

def strLen : Option Value → Nat
  | some (.string s) => s.size
  | _ => 0
theorem strLen_mk (l : List UInt8) : strLen (some (.string ⟨l.toArray⟩)) = l.length := by simp [strLen, ByteArray.size]

/-- what fields answers -/
def FsPost (s : List UInt8) (w : World) (e : Ending) (w' : World) : Prop :=
  Below w.heap.size w w' ∧ match M.parse s with
  | .error x => e = .returned (.tuple #[.slice none 0 0, .int .i64 (x : Int)])
  | .ok fs => ∃ v, e = .returned (.tuple #[v, .int .i64 0]) ∧ FRow w' w.heap.size v fs ∧ (∀ f ∈ fs, Fine f) ∧ fs.length ≤ 65536

theorem Inv.lt {s : List UInt8} {w wr : World} {B0 : Nat} {rest : List UInt8} {acc : List M.Fd} {v : Value} (h : Inv s w wr B0 rest acc v) : B0 + 1 + 1 < wr.heap.size := h.r.lt
theorem fs_ok {s : List UInt8} {w wr : World} {acc : List M.Fd} {v : Value} (h : Inv s w wr w.heap.size [] acc v) :
    FsPost s w (.returned (.tuple #[v, .int .i64 0])) ((wr.setCell ⟨w.heap.size, 0, none⟩ v).setCell ⟨w.heap.size + 1, 0, none⟩ (.int .i64 0)) := by
  refine ⟨(h.bel.setCell (Nat.le_refl _) _).setCell (by show w.heap.size ≤ w.heap.size + 1; omega) _, ?_⟩
  rw [h.eq, M.ahead_end]
  refine ⟨v, rfl, ?_, h.fine, by have := h.len; simpa using this⟩
  exact FRow.mono (base := w.heap.size + 1 + 1 + 1) (ownsRow_setCell_below (ownsRow_setCell_below h.row (by show w.heap.size < _; omega) _) (by show w.heap.size + 1 < _; omega) _) (by omega)
theorem fs_err {s : List UInt8} {w wr w1 : World} {rest : List UInt8} {acc : List M.Fd} {v : Value} {e : Nat} (h : Inv s w wr w.heap.size rest acc v) (hne : rest ≠ []) (he : M.parse1 rest = .error e)
    (hg : wr.grownBy w1 (some (w.heap.size + 1 + 1))) :
    FsPost s w (.returned (.tuple #[.slice none 0 0, .int .i64 (e : Int)])) ((w1.setCell ⟨w.heap.size, 0, none⟩ (.slice none 0 0)).setCell ⟨w.heap.size + 1, 0, none⟩ (.int .i64 (e : Int))) := by
  refine ⟨((h.bel.grown hg (by have := h.lt; omega) (by intro k hk; injection hk with hk; omega)).setCell (Nat.le_refl _) _).setCell (by show w.heap.size ≤ w.heap.size + 1; omega) _, ?_⟩
  rw [h.eq, M.ahead_err acc hne he]

theorem step_app_fd {w : World} {ops : Array Oper} {o : Oper} {a : Act} {K : Act → World → Prop} {Q : Exit → Act → World → Prop} {E : Prop} (hgd : o.guard = none) (s x : Operand)
    (ho : o.op = .call { callee := .builtin .append, args := #[s, x], argTypes := #[81, 81] }) (base : Nat) (v : Value) (fs : List M.Fd) (hs : a.eval s = v) (hown : FRow w base v fs)
    (f : M.Fd) (cs : Array Value) (hcs : cs.toList = fc f) (hx : a.eval x = .slice (some ⟨w.heap.size, 0, none⟩) 1 1) (hlen : fs.length ≤ 1000000) (hbase : base ≤ w.heap.size)
    (h : ∀ v' w', FRow w' base v' (fs ++ [f]) → Grew w v w' v' → K (a.put o.dst v') w') :
    if Region.wanted o (yielded ops a.tmps) = true then Oper.wp Tryz.prog o a (w.alloc (.cells cs 73)) K Q else E := by
  have hw : Region.wanted o (yielded ops a.tmps) = true := by simp [Region.wanted, hgd]
  rw [if_pos hw]
  exact op_app_fd s x ho base v fs hs hown f cs hcs hx hlen hbase h
/-- what stands behind the append -/
structure Nxt (s : List UInt8) (w wr w2 : World) (rest r : List UInt8) (acc : List M.Fd) (f : M.Fd) (v v2 : Value) : Prop where
  l : w2.heap[w.heap.size]? = some (.cells #[v] 81 (0, 0))
  inv : Inv s w (w2.setCell ⟨w.heap.size, 0, none⟩ v2) w.heap.size r (acc ++ [f]) v2
theorem nxt {s : List UInt8} {w wr w1 w2 : World} {rest r : List UInt8} {acc : List M.Fd} {f : M.Fd} {v v2 : Value} (h : Inv s w wr w.heap.size rest acc v) (hne : rest ≠ []) (hp : M.parse1 rest = .ok (f, r)) (hf : Fine f)
    (hg : wr.grownBy w1 (some (w.heap.size + 1 + 1))) (hr : Rdr w1 (w.heap.size + 1 + 1) r) (hrow : FRow w2 (w.heap.size + 1 + 1 + 1) v2 (acc ++ [f])) (hgr : Grew w1 v w2 v2) : Nxt s w wr w2 rest r acc f v v2 := by
  have hlt := h.lt
  have hrl := h.row.lt
  have hl1 : w1.heap[w.heap.size]? = some (.cells #[v] 81 (0, 0)) := (hg.block _ (by omega) (by intro e; injection e with e; omega)).trans h.l
  have hy1 : w1.heap[w.heap.size + 1]? = some (.cells #[.int .i64 0] 31 (0, 0)) := (hg.block _ (by omega) (by intro e; injection e with e; omega)).trans h.y
  have hl2 := hgr.blk hl1 (fun k hk => by have := (hrl k hk).1; omega)
  have hy2 := hgr.blk hy1 (fun k hk => by have := (hrl k hk).1; omega)
  have hr2 : Rdr w2 (w.heap.size + 1 + 1) r := hgr.blk hr (fun k hk => by have := (hrl k hk).1; omega)
  have hb1 : Below w.heap.size w w1 := h.bel.grown hg (by omega) (by intro k hk; injection hk with hk; omega)
  have hb2 : Below w.heap.size w w2 := hb1.trans (hgr.below (by have := hg.size; omega) (fun k hk => by have := (hrl k hk).1; omega))
  have hlen := M.parse1_len hp
  refine ⟨hl2, ⟨one_setCell hl2, (Below.heap_setCell w2 _ v2 _ (by show w.heap.size + 1 ≠ w.heap.size; omega)).trans hy2, hr2.far (by omega), ownsRow_setCell_below hrow (by show w.heap.size < _; omega) _, ?_, ?_, ?_, hb2.setCell (Nat.le_refl _) _⟩⟩
  · intro g hg'
    rcases List.mem_append.1 hg' with h1 | h1
    · exact h.fine g h1
    · simp at h1; subst h1; exact hf
  · have := h.len; simp only [List.length_append, List.length_cons, List.length_nil]; omega
  · rw [h.eq, M.ahead_ok acc hne hp]

set_option maxHeartbeats 8000000 in
theorem fields_any (s : List UInt8) (w : World) (hs : s.length ≤ 65536) :
    Calls Tryz.prog 95 #[.string ⟨s.toArray⟩] w (FsPost s w) := by
  have hmf : ∀ (fn : Fn) (first cap : Array Value) (w : World), (Instr.makeFunc fn first cap).run Tryz.prog w = .ok (.func fn first cap) w := fun _ _ _ _ => rfl
  go_enter_defers Tryz.func95, Tryz.ntmps95
  go_wp2
  go_loopw [] (fun wr => ∃ rest acc v, Inv s w wr w.heap.size rest acc v) (fun wr => strLen (wr.cell? ⟨w.heap.size + 1 + 1, 0, none⟩))
  case atStart =>
    exact ⟨s, [], .slice none 0 0, blk_alloc (blk_alloc (blk_new w _) _) _, blk_alloc (by simpa using blk_new (w.alloc (.cells #[Value.slice none 0 0] 81)) (.cells #[Value.int .i64 0] 31)) _, (by simpa [Rdr] using blk_new ((w.alloc (.cells #[Value.slice none 0 0] 81)).alloc (.cells #[Value.int .i64 0] 31)) (.cells #[Value.string ⟨s.toArray⟩] 128)), FRow.nil _ _, (by intro f hf; cases hf), (by simpa using hs), (by rw [M.ahead_nil]),
      (((Below.refl _ _).alloc (Nat.le_refl _) _).alloc (by simp) _).alloc (by simp; omega) _⟩
  case round =>
    obtain ⟨rest, acc, v, hinv⟩ := hrel
    have hc := hinv.r.cell
    have hcl := cell_of_one hinv.l
    have hfl := free_of_one hinv.l
    have hcy := cell_of_one hinv.y
    have hfy := free_of_one hinv.y
    have HI := Lib.hid hinv
    clear hinv
    cases rest with
    | nil =>
      have hv : ∃ ad n cap, v = .slice ad n cap := by obtain ⟨ad, cap, e⟩ := HI.out.row.form; exact ⟨_, _, _, e⟩
      obtain ⟨ad, n, cap, rfl⟩ := hv
      go_wp2
      refine leaves_cons (f := 102) (args := #[.pointer (some ⟨w.heap.size, 0, none⟩), .pointer (some ⟨w.heap.size + 1, 0, none⟩)]) (by simp) (by simp [go_sem]) ?_
      refine (wcatch_idle _ _ _).mono ?_
      rintro e u' w'' ⟨rfl, rfl, rfl⟩
      obtain ⟨k1, k2, k3, k4⟩ := two_set (v' := .slice ad n cap) (u' := .int .i64 0) HI.out.l HI.out.y
      simp [Leaves, settle, results, Tryz.results95, go_sem, k1, k2, k3, k4]
      exact fs_ok HI.out
    | cons x t =>
      have hne : x :: t ≠ [] := by simp
      have hl65 : (x :: t).length ≤ 65536 := by have := HI.out.len; omega
      cases hp : M.parse1 (x :: t) with
      | error e =>
        have hcall := fun W h => field_err (w.heap.size + 1 + 1) (x :: t) W hl65 h e hp
        have Hcall := Lib.hid hcall
        have Hp := Lib.hid hp
        clear hcall hp
        go_wp2
        refine wp_region_any (by kernel_rfl) ?_
        refine wpAny_ready (rs := [0, 1]) (by kernel_rfl) (by simp) ?_
        refine AllReady.cons rfl (fun K hK => ?_) ?_
        · go_simp
          refine hK _ _ ?_
          clear hK K
          refine wpAny_ready (rs := [1]) (by kernel_rfl) (by simp) ?_
          refine AllReady.cons rfl (fun K hK => ?_) AllReady.nil
          go_simp
          refine (Hcall.out wr.drew (show Rdr wr.drew _ _ from HI.out.r)).mono ?_
          rintro e' w1 ⟨rfl, hg⟩
          have hg' : wr.grownBy w1 (some (w.heap.size + 1 + 1)) := ⟨hg.os, hg.tape, hg.output, hg.size, hg.block⟩
          have hl1 : w1.heap[w.heap.size]? = some (.cells #[v] 81 (0, 0)) := (hg'.block _ (by have := HI.out.lt; omega) (by intro e; injection e with e; omega)).trans HI.out.l
          have hy1 : w1.heap[w.heap.size + 1]? = some (.cells #[.int .i64 0] 31 (0, 0)) := (hg'.block _ (by have := HI.out.lt; omega) (by intro e; injection e with e; omega)).trans HI.out.y
          obtain ⟨k1, k2, k3, k4⟩ := two_set (v' := .slice none 0 0) (u' := .int .i64 (e : Int)) hl1 hy1
          have fin := fs_err HI.out hne Hp.out hg'
          have Fin := Lib.hid fin
          have kc := cell_of_one hl1
          have kf := free_of_one hl1
          have kfy := free_of_one hy1
          clear fin hg hg' hl1 hy1 hcl hfl hcy hfy hc
          go_wp2
          refine leaves_cons (f := 102) (args := #[.pointer (some ⟨w.heap.size, 0, none⟩), .pointer (some ⟨w.heap.size + 1, 0, none⟩)]) (by simp) (by simp [go_sem]) ?_
          refine (wcatch_pan _ _ _ v 0 [] _ kc kf k2 (by simp [kfy])).mono ?_
          rintro e' u' w'' ⟨rfl, rfl, rfl⟩
          simp [Leaves, settle, results, Tryz.results95, go_sem, k1, k2, k3, k4]
          exact Fin.out
        · refine AllReady.cons rfl (fun K hK => ?_) AllReady.nil
          go_simp
          refine (Hcall.out wr.drew (show Rdr wr.drew _ _ from HI.out.r)).mono ?_
          rintro e' w1 ⟨rfl, hg⟩
          have hg' : wr.grownBy w1 (some (w.heap.size + 1 + 1)) := ⟨hg.os, hg.tape, hg.output, hg.size, hg.block⟩
          have hl1 : w1.heap[w.heap.size]? = some (.cells #[v] 81 (0, 0)) := (hg'.block _ (by have := HI.out.lt; omega) (by intro e; injection e with e; omega)).trans HI.out.l
          have hy1 : w1.heap[w.heap.size + 1]? = some (.cells #[.int .i64 0] 31 (0, 0)) := (hg'.block _ (by have := HI.out.lt; omega) (by intro e; injection e with e; omega)).trans HI.out.y
          obtain ⟨k1, k2, k3, k4⟩ := two_set (v' := .slice none 0 0) (u' := .int .i64 (e : Int)) hl1 hy1
          have fin := fs_err HI.out hne Hp.out hg'
          have Fin := Lib.hid fin
          have kc := cell_of_one hl1
          have kf := free_of_one hl1
          have kfy := free_of_one hy1
          clear fin hg hg' hl1 hy1 hcl hfl hcy hfy hc
          go_wp2
          refine leaves_cons (f := 102) (args := #[.pointer (some ⟨w.heap.size, 0, none⟩), .pointer (some ⟨w.heap.size + 1, 0, none⟩)]) (by simp) (by simp [go_sem]) ?_
          refine (wcatch_pan _ _ _ v 0 [] _ kc kf k2 (by simp [kfy])).mono ?_
          rintro e' u' w'' ⟨rfl, rfl, rfl⟩
          simp [Leaves, settle, results, Tryz.results95, go_sem, k1, k2, k3, k4]
          exact Fin.out
      | ok p =>
        obtain ⟨f, r⟩ := p
        have hfit : Fine f := by obtain ⟨a, b, c, z, hfit, _⟩ := field_good (w.heap.size + 1 + 1) (x :: t) wr hl65 HI.out.r f r hp; exact ⟨a, b, c, z, hfit⟩
        have hcall : ∃ a b c z, Fit f a b c z ∧ ∀ W, Rdr W (w.heap.size + 1 + 1) (x :: t) → Calls Tryz.prog 103 #[.pointer (some ⟨w.heap.size + 1 + 1, 0, none⟩)] W fun en w' => en = .returned (.agg (fcells a b c z)) ∧ Rdr w' (w.heap.size + 1 + 1) r ∧ W.grownBy w' (some (w.heap.size + 1 + 1)) := by
          obtain ⟨a, b, c, z, hfit⟩ := hfit
          refine ⟨a, b, c, z, hfit, fun W hW => ?_⟩
          obtain ⟨a', b', c', z', hfit', hc'⟩ := field_good (w.heap.size + 1 + 1) (x :: t) W hl65 hW f r hp
          have e := hfit.uniq hfit'
          obtain ⟨rfl, rfl, rfl, rfl⟩ := e
          exact hc'
        obtain ⟨a, b, c, z, hft, hcall⟩ := hcall
        have Hcall := Lib.hid hcall
        have Hp := Lib.hid hp
        have Hfine := Lib.hid hfit
        have Hfc := Lib.hid (fc_fit hft)
        have hacc : acc.length ≤ 1000000 := by have := HI.out.len; omega
        have Hacc := Lib.hid hacc
        clear hcall hp hfit hft hacc
        go_wp2
        refine wp_region_any (by kernel_rfl) ?_
        refine wpAny_ready (rs := [0, 1]) (by kernel_rfl) (by simp) ?_
        refine AllReady.cons rfl (fun K hK => ?_) ?_
        · go_simp
          refine hK _ _ ?_
          clear hK K
          refine wpAny_ready (rs := [1]) (by kernel_rfl) (by simp) ?_
          refine AllReady.cons rfl (fun K hK => ?_) AllReady.nil
          go_simp
          refine (Hcall.out wr.drew (show Rdr wr.drew _ _ from HI.out.r)).mono ?_
          rintro e' w1 ⟨rfl, hr1, hg⟩
          have hg' : wr.grownBy w1 (some (w.heap.size + 1 + 1)) := ⟨hg.os, hg.tape, hg.output, hg.size, hg.block⟩
          have hl1 : w1.heap[w.heap.size]? = some (.cells #[v] 81 (0, 0)) := (hg'.block _ (by have := HI.out.lt; omega) (by intro e; injection e with e; omega)).trans HI.out.l
          have kc := cell_of_one hl1
          have hrow1 := HI.out.row.below (by omega) hg'
          have hlt1 : w.heap.size + 1 + 1 + 1 ≤ w1.heap.size := by have := HI.out.lt; have := hg'.size; omega
          have hltw : w.heap.size < w1.heap.size := by omega
          have Hr1 := Lib.hid hr1
          have Hg' := Lib.hid hg'
          have Hrow1 := Lib.hid hrow1
          have Hlt1 := Lib.hid hlt1
          clear hr1 hg hg' hl1 hrow1 hlt1
          go_simp
          refine hK _ _ ?_
          clear hK K
          refine wpAny_ready (rs := [2]) (by kernel_rfl) (by simp) ?_
          refine AllReady.cons rfl (fun K hK => ?_) AllReady.nil
          go_simp
          refine hK _ _ ?_
          clear hK K
          refine wpAny_ready (rs := [3]) (by kernel_rfl) (by simp) ?_
          refine AllReady.cons rfl (fun K hK => ?_) AllReady.nil
          refine step_app_fd rfl (.tmp 11) (.tmp 13) rfl (w.heap.size + 1 + 1 + 1) v acc (by rfl) Hrow1.out f (fcells a b c z) Hfc.out (by rfl) Hacc.out Hlt1.out ?_
          intro v2 w2 hrow2 hgr2
          have hn := nxt HI.out hne Hp.out Hfine.out Hg'.out Hr1.out hrow2 hgr2
          obtain ⟨ad2, cap2, rfl⟩ := hrow2.form
          have kc2 := cell_of_one hn.l
          have kf2 := free_of_one hn.l
          have Hn := Lib.hid hn
          clear hn hrow2 hgr2
          refine hK _ _ ?_
          clear hK K
          refine wpAny_ready (rs := [4]) (by kernel_rfl) (by simp) ?_
          refine AllReady.cons rfl (fun K hK => ?_) AllReady.nil
          go_simp
          refine hK _ _ ?_
          clear hK K
          refine wpAny_done (by kernel_rfl) ?_ _
          go_wp2
          have hi := Hn.out.inv
          rw [show (acc ++ [f]).length = acc.length + 1 by simp] at hi
          refine ⟨⟨r, acc ++ [f], _, hi⟩, ?_⟩
          rw [hi.r.cell, HI.out.r.cell, strLen_mk, strLen_mk]
          exact M.parse1_len Hp.out
        · refine AllReady.cons rfl (fun K hK => ?_) AllReady.nil
          go_simp
          refine (Hcall.out wr.drew (show Rdr wr.drew _ _ from HI.out.r)).mono ?_
          rintro e' w1 ⟨rfl, hr1, hg⟩
          have hg' : wr.grownBy w1 (some (w.heap.size + 1 + 1)) := ⟨hg.os, hg.tape, hg.output, hg.size, hg.block⟩
          have hl1 : w1.heap[w.heap.size]? = some (.cells #[v] 81 (0, 0)) := (hg'.block _ (by have := HI.out.lt; omega) (by intro e; injection e with e; omega)).trans HI.out.l
          have kc := cell_of_one hl1
          have hrow1 := HI.out.row.below (by omega) hg'
          have hlt1 : w.heap.size + 1 + 1 + 1 ≤ w1.heap.size := by have := HI.out.lt; have := hg'.size; omega
          have hltw : w.heap.size < w1.heap.size := by omega
          have Hr1 := Lib.hid hr1
          have Hg' := Lib.hid hg'
          have Hrow1 := Lib.hid hrow1
          have Hlt1 := Lib.hid hlt1
          clear hr1 hg hg' hl1 hrow1 hlt1
          go_simp
          refine hK _ _ ?_
          clear hK K
          refine wpAny_ready (rs := [0, 2]) (by kernel_rfl) (by simp) ?_
          refine AllReady.cons rfl (fun K hK => ?_) ?_
          · go_simp
            refine hK _ _ ?_
            clear hK K
            refine wpAny_ready (rs := [2]) (by kernel_rfl) (by simp) ?_
            refine AllReady.cons rfl (fun K hK => ?_) AllReady.nil
            go_simp
            refine hK _ _ ?_
            clear hK K
            refine wpAny_ready (rs := [3]) (by kernel_rfl) (by simp) ?_
            refine AllReady.cons rfl (fun K hK => ?_) AllReady.nil
            refine step_app_fd rfl (.tmp 11) (.tmp 13) rfl (w.heap.size + 1 + 1 + 1) v acc (by rfl) Hrow1.out f (fcells a b c z) Hfc.out (by rfl) Hacc.out Hlt1.out ?_
            intro v2 w2 hrow2 hgr2
            have hn := nxt HI.out hne Hp.out Hfine.out Hg'.out Hr1.out hrow2 hgr2
            obtain ⟨ad2, cap2, rfl⟩ := hrow2.form
            have kc2 := cell_of_one hn.l
            have kf2 := free_of_one hn.l
            have Hn := Lib.hid hn
            clear hn hrow2 hgr2
            refine hK _ _ ?_
            clear hK K
            refine wpAny_ready (rs := [4]) (by kernel_rfl) (by simp) ?_
            refine AllReady.cons rfl (fun K hK => ?_) AllReady.nil
            go_simp
            refine hK _ _ ?_
            clear hK K
            refine wpAny_done (by kernel_rfl) ?_ _
            go_wp2
            have hi := Hn.out.inv
            rw [show (acc ++ [f]).length = acc.length + 1 by simp] at hi
            refine ⟨⟨r, acc ++ [f], _, hi⟩, ?_⟩
            rw [hi.r.cell, HI.out.r.cell, strLen_mk, strLen_mk]
            exact M.parse1_len Hp.out
          · refine AllReady.cons rfl (fun K hK => ?_) AllReady.nil
            go_simp
            refine hK _ _ ?_
            clear hK K
            refine wpAny_ready (rs := [0]) (by kernel_rfl) (by simp) ?_
            refine AllReady.cons rfl (fun K hK => ?_) AllReady.nil
            go_simp
            refine hK _ _ ?_
            clear hK K
            refine wpAny_ready (rs := [3]) (by kernel_rfl) (by simp) ?_
            refine AllReady.cons rfl (fun K hK => ?_) AllReady.nil
            refine step_app_fd rfl (.tmp 11) (.tmp 13) rfl (w.heap.size + 1 + 1 + 1) v acc (by rfl) Hrow1.out f (fcells a b c z) Hfc.out (by rfl) Hacc.out Hlt1.out ?_
            intro v2 w2 hrow2 hgr2
            have hn := nxt HI.out hne Hp.out Hfine.out Hg'.out Hr1.out hrow2 hgr2
            obtain ⟨ad2, cap2, rfl⟩ := hrow2.form
            have kc2 := cell_of_one hn.l
            have kf2 := free_of_one hn.l
            have Hn := Lib.hid hn
            clear hn hrow2 hgr2
            refine hK _ _ ?_
            clear hK K
            refine wpAny_ready (rs := [4]) (by kernel_rfl) (by simp) ?_
            refine AllReady.cons rfl (fun K hK => ?_) AllReady.nil
            go_simp
            refine hK _ _ ?_
            clear hK K
            refine wpAny_done (by kernel_rfl) ?_ _
            go_wp2
            have hi := Hn.out.inv
            rw [show (acc ++ [f]).length = acc.length + 1 by simp] at hi
            refine ⟨⟨r, acc ++ [f], _, hi⟩, ?_⟩
            rw [hi.r.cell, HI.out.r.cell, strLen_mk, strLen_mk]
            exact M.parse1_len Hp.out
end Go.Proofs.YtnnnnlcpmocnfaaGreatDoor

/- PLAIN MATHEMATICS OF LAYER 1, MORE: what Read answers. -/
namespace Go.Proofs.YtnnnnlcpmocnfaaGreatDoor.M
theorem parse1_err {l : List UInt8} {e : Nat} (h : parse1 l = .error e) : e = 9 ∨ e = 10 := by
  unfold parse1 at h
  split at h
  · injection h with h; omega
  · rename_i k a _
    split at h
    · injection h with h; omega
    · split at h
      · split at h
        · injection h with h; omega
        · cases h
      · split at h
        · split at h
          · injection h with h; omega
          · cases h
        · split at h
          · split at h
            · injection h with h; omega
            · cases h
          · split at h
            · split at h
              · injection h with h; omega
              · split at h
                · injection h with h; omega
                · cases h
            · injection h with h; omega
theorem parse_err_is : ∀ (n : Nat) (l : List UInt8), l.length ≤ n → ∀ e, parse l = .error e → e = 9 ∨ e = 10 := by
  intro n
  induction n with
  | zero =>
    intro l hl e h
    have : l = [] := List.eq_nil_of_length_eq_zero (by omega)
    subst this
    rw [parse_nil] at h; cases h
  | succ n ih =>
    intro l hl e h
    by_cases h0 : l = []
    · subst h0; rw [parse_nil] at h; cases h
    · cases hp : parse1 l with
      | error x => rw [parse_err h0 hp] at h; injection h with h; subst h; exact parse1_err hp
      | ok p =>
        obtain ⟨f, r⟩ := p
        rw [parse_ok h0 hp] at h
        have hlt := parse1_len hp
        cases hr : parse r with
        | error x => rw [hr] at h; injection h with h; subst h; exact ih r (by omega) x hr
        | ok fs => rw [hr] at h; cases h

/-- a message read -/
def read (s : List UInt8) : Except Nat (List Fd) :=
  if 65536 < s.length then .error 4 else match parse s with
  | .error e => .error e
  | .ok fs => if 4096 < fs.length then .error 3 else .ok fs
end Go.Proofs.YtnnnnlcpmocnfaaGreatDoor.M

/- THE WALK OVER Read. -/
namespace Go.Proofs.YtnnnnlcpmocnfaaGreatDoor
open Go.RowKit
set_option linter.unusedVariables false
set_option linter.unusedSimpArgs false

/-- what Read answers -/
def ReadPost (s : List UInt8) (w : World) (e : Ending) (w' : World) : Prop :=
  Below w.heap.size w w' ∧ match M.read s with
  | .error x => e = .returned (.tuple #[.slice none 0 0, .int .i64 (x : Int)])
  | .ok fs => ∃ v, e = .returned (.tuple #[v, .int .i64 0]) ∧ FRow w' w.heap.size v fs ∧ (∀ f ∈ fs, Fine f) ∧ fs.length ≤ 4096
theorem readPost_err {s : List UInt8} {w w' : World} {x : Nat} (hb : Below w.heap.size w w') (h : M.read s = .error x) : ReadPost s w (.returned (.tuple #[.slice none 0 0, .int .i64 (x : Int)])) w' := ⟨hb, by rw [h]⟩

set_option maxHeartbeats 1000000 in
theorem read_any (s : List UInt8) (w : World) (hs : s.length ≤ 9223372036854775807) : Calls Tryz.prog 83 #[.string ⟨s.toArray⟩] w (ReadPost s w) := by
  by_cases hl : 65536 < s.length
  · have hr : M.read s = .error 4 := by rw [M.read, if_pos hl]
    have Hr := Lib.hid hr
    clear hr
    go_enter Tryz.func83, Tryz.ntmps83
    go_wp2
    go_ret2
    exact readPost_err (Below.refl _ _) Hr.out
  · have hl' : s.length ≤ 65536 := by omega
    have hf := fields_any s w hl'
    have Hf := Lib.hid hf
    clear hf
    have hbl : (s.length : Int) ≤ 65536 := by omega
    clear hl
    cases hp : M.parse s with
    | error x =>
      have hr : M.read s = .error x := by rw [M.read, if_neg (by omega), hp]
      have hx := M.parse_err_is s.length s (Nat.le_refl _) x hp
      have hf2 : Calls Tryz.prog 95 #[.string ⟨s.toArray⟩] w fun e w' => e = .returned (.tuple #[.slice none 0 0, .int .i64 (x : Int)]) ∧ Below w.heap.size w w' :=
        Hf.out.mono fun e w' h => by have h2 := h.2; rw [hp] at h2; exact ⟨h2, h.1⟩
      have Hf2 := Lib.hid hf2
      have Hr := Lib.hid hr
      clear hr hf2 Hf hp
      rcases hx with rfl | rfl
      all_goals
        go_enter Tryz.func83, Tryz.ntmps83
        go_wp2_with fail
        refine (Hf2.out).mono ?_
        rintro e w' ⟨rfl, hb⟩
        go_wp2
        go_ret2
        exact readPost_err hb Hr.out
    | ok fs =>
      by_cases hbig : 4096 < fs.length
      · have hr : M.read s = .error 3 := by rw [M.read, if_neg (by omega), hp]; simp [hbig]
        have hf2 : Calls Tryz.prog 95 #[.string ⟨s.toArray⟩] w fun e w' => (∃ ad cap, e = .returned (.tuple #[.slice ad fs.length cap, .int .i64 0])) ∧ Below w.heap.size w w' :=
          Hf.out.mono fun e w' h => by
            have h2 := h.2
            rw [hp] at h2
            obtain ⟨v, he, hrow, _⟩ := h2
            obtain ⟨ad, cap, rfl⟩ := hrow.form
            exact ⟨⟨ad, cap, he⟩, h.1⟩
        have hfl : fs.length ≤ 65536 ∨ 65536 < fs.length := by omega
        have Hf2 := Lib.hid hf2
        have Hr := Lib.hid hr
        have hb2 : (4096 : Int) < (fs.length : Int) := by omega
        clear hr hf2 Hf hp hbig hfl
        go_enter Tryz.func83, Tryz.ntmps83
        go_wp2_with fail
        refine (Hf2.out).mono ?_
        rintro e w' ⟨⟨ad, cap, rfl⟩, hb⟩
        go_wp2
        go_ret2
        exact readPost_err hb Hr.out
      · have hr : M.read s = .ok fs := by rw [M.read, if_neg (by omega), hp]; simp [hbig]
        have hf2 : Calls Tryz.prog 95 #[.string ⟨s.toArray⟩] w fun e w' => ∃ ad cap, e = .returned (.tuple #[.slice ad fs.length cap, .int .i64 0]) ∧ ReadPost s w (.returned (.tuple #[.slice ad fs.length cap, .int .i64 0])) w' :=
          Hf.out.mono fun e w' h => by
            have h2 := h.2
            rw [hp] at h2
            obtain ⟨v, he, hrow, hfine, hlen⟩ := h2
            obtain ⟨ad, cap, rfl⟩ := hrow.form
            exact ⟨ad, cap, he, h.1, by rw [hr]; exact ⟨_, rfl, hrow, hfine, by omega⟩⟩
        have Hf2 := Lib.hid hf2
        have hb2 : (fs.length : Int) ≤ 4096 := by omega
        clear hr hf2 Hf hp hbig
        go_enter Tryz.func83, Tryz.ntmps83
        go_wp2_with fail
        refine (Hf2.out).mono ?_
        rintro e w' ⟨ad, cap, rfl, hb⟩
        have Hb := Lib.hid hb
        clear hb
        go_wp2
        go_ret2
        exact Hb.out
end Go.Proofs.YtnnnnlcpmocnfaaGreatDoor

/- THE WALK OVER THE DOCUMENT's OWN Read. -/
namespace Go.Proofs.YtnnnnlcpmocnfaaGreatDoor
open Go.RowKit
set_option linter.unusedVariables false
set_option linter.unusedSimpArgs false

def vLen : Value → Nat
  | .string s => s.size
  | _ => 0
theorem vLen_mk (l : List UInt8) : vLen (.string ⟨l.toArray⟩) = l.length := by simp [vLen, ByteArray.size]

structure DRInv (s : List UInt8) (w wr : World) (rest : List UInt8) (acc : List M.Fd) (v : Value) : Prop where
  row : FRow wr w.heap.size v acc
  fine : ∀ f ∈ acc, Fine f
  len : acc.length + rest.length ≤ 65536
  eq : M.parse s = M.ahead acc (M.parse rest)
  bel : Below w.heap.size w wr

theorem rread_ok {s : List UInt8} {w wr : World} {acc : List M.Fd} {v : Value} (hs : s.length ≤ 65536) (h : DRInv s w wr [] acc v) (hl : acc.length ≤ 4096) : ReadPost s w (.returned (.tuple #[v, .int .i64 0])) wr := by
  refine ⟨h.bel, ?_⟩
  have hr : M.read s = .ok acc := by rw [M.read, if_neg (by omega), h.eq, M.ahead_end]; simp; omega
  rw [hr]
  exact ⟨v, rfl, h.row, h.fine, hl⟩
theorem rread_many {s : List UInt8} {w wr : World} {acc : List M.Fd} {v : Value} (hs : s.length ≤ 65536) (h : DRInv s w wr [] acc v) (hl : 4096 < acc.length) : ReadPost s w (.returned (.tuple #[.slice none 0 0, .int .i64 3])) wr := by
  refine readPost_err (x := 3) h.bel ?_
  rw [M.read, if_neg (by omega), h.eq, M.ahead_end]; simp; omega
theorem rread_err {s : List UInt8} {w wr w' : World} {rest : List UInt8} {acc : List M.Fd} {v : Value} {x : Nat} (hs : s.length ≤ 65536) (h : DRInv s w wr rest acc v) (hne : rest ≠ []) (hp : M.parse1 rest = .error x) (hb : Below w.heap.size w w') :
    ReadPost s w (.returned (.tuple #[.slice none 0 0, .int .i64 (x : Int)])) w' := by
  refine readPost_err hb ?_
  rw [M.read, if_neg (by omega), h.eq, M.ahead_err acc hne hp]

theorem first_err {l : List UInt8} {x : Nat} (hl : l.length ≤ 65536) (hp : M.parse1 l = .error x) (W : World) : Calls Tryz.prog 85 #[.string ⟨l.toArray⟩] W fun e w' => ∃ a b c z r, e = .returned (.tuple #[.agg (fcells a b c z), .string ⟨List.toArray r⟩, .int .i64 (x : Int)]) ∧ Below W.heap.size W w' :=
  (first_any l W hl).mono fun e w' h => by
    obtain ⟨hb, h⟩ := h
    rw [hp] at h
    obtain ⟨a, b, c, z, r, he⟩ := h
    exact ⟨a, b, c, z, r, he, hb⟩
theorem first_ok {l r : List UInt8} {f : M.Fd} (hl : l.length ≤ 65536) (hp : M.parse1 l = .ok (f, r)) (W : World) : Calls Tryz.prog 85 #[.string ⟨l.toArray⟩] W fun e w' => ∃ a b c z, e = .returned (.tuple #[.agg (fcells a b c z), .string ⟨r.toArray⟩, .int .i64 0]) ∧ Fit f a b c z ∧ Below W.heap.size W w' :=
  (first_any l W hl).mono fun e w' h => by
    obtain ⟨hb, h⟩ := h
    rw [hp] at h
    obtain ⟨a, b, c, z, hf, he⟩ := h
    exact ⟨a, b, c, z, he, hf, hb⟩
theorem FRow.later {w w' : World} {base : Nat} {v : Value} {fs : List M.Fd} (h : FRow w base v fs) (hb : Below w.heap.size w w') : FRow w' base v fs :=
  h.kept (row := none) ⟨hb.os, hb.tape, hb.output, hb.size, fun k hk _ => hb.block k hk⟩ (by cases v.ownBlock <;> simp)

set_option maxHeartbeats 4000000 in
theorem rread_any (s : List UInt8) (w : World) (hs : s.length ≤ 9223372036854775807) : Calls Tryz.prog 63 #[.string ⟨s.toArray⟩] w (ReadPost s w) := by
  by_cases hl : 65536 < s.length
  · have hr : M.read s = .error 4 := by rw [M.read, if_pos hl]
    have Hr := Lib.hid hr
    clear hr
    go_enter Tryz.func63, Tryz.ntmps63
    go_wp2
    go_ret2
    exact readPost_err (Below.refl _ _) Hr.out
  · have hl' : s.length ≤ 65536 := by omega
    clear hl hs
    go_enter Tryz.func63, Tryz.ntmps63
    go_wp2
    go_loopw [4, 0] (fun v x wr => ∃ rest acc, x = .string ⟨List.toArray rest⟩ ∧ DRInv s w wr rest acc v) (fun _ x _ => vLen x)
    case atStart => exact ⟨s, [], rfl, ⟨FRow.nil _ _, (by intro f hf; cases hf), (by simpa using hl'), (by rw [M.ahead_nil]), Below.refl _ _⟩⟩
    case round =>
      obtain ⟨rest, acc, rfl, hinv⟩ := hrel
      have hrl : rest.length ≤ 65536 := by have := hinv.len; omega
      have hal : acc.length ≤ 65536 := by have := hinv.len; omega
      have Hl' := Lib.hid hl'
      cases rest with
      | nil =>
        obtain ⟨ad, cap, rfl⟩ := hinv.row.form
        have HI := Lib.hid hinv
        clear hinv
        by_cases hbig : 4096 < acc.length
        · go_wp2
          go_ret2
          exact rread_many Hl'.out HI.out hbig
        · have hsm : acc.length ≤ 4096 := by omega
          go_wp2
          go_ret2
          exact rread_ok Hl'.out HI.out hsm
      | cons x t =>
        have hne : x :: t ≠ [] := by simp
        have hsz := hinv.bel.size
        cases hp : M.parse1 (x :: t) with
        | error e =>
          have hc := first_err hrl hp
          have hx := M.parse1_err hp
          have Hc := Lib.hid hc
          have Hp := Lib.hid hp
          have HI := Lib.hid hinv
          clear hc hp hinv
          rcases hx with rfl | rfl
          all_goals
            go_wp2_with fail
            refine (Hc.out _).mono ?_
            rintro e' w1 ⟨a, b, c, z, r, rfl, hb1⟩
            have Hb1 := Lib.hid (HI.out.bel.trans (hb1.mono hsz))
            clear hb1
            go_wp2
            go_ret2
            exact rread_err Hl'.out HI.out hne Hp.out (Hb1.out.alloc (by have := Hb1.out.size; omega) _)
        | ok p =>
          obtain ⟨f, r⟩ := p
          have hc := first_ok hrl hp
          have hrl2 := M.parse1_len hp
          have heq : M.parse s = M.ahead (acc ++ [f]) (M.parse r) := by rw [hinv.eq, M.ahead_ok acc hne hp]
          have hlen := hinv.len
          have Hc := Lib.hid hc
          have Heq := Lib.hid heq
          have HI := Lib.hid hinv
          have Hal := Lib.hid (show acc.length ≤ 3518437208782 by omega)
          clear hc hp hinv heq
          go_wp2_with fail
          refine (Hc.out _).mono ?_
          rintro e' w1 ⟨a, b, c, z, rfl, hfit, hb1⟩
          have hrow1 := HI.out.row.later hb1
          have Hb1 := Lib.hid (HI.out.bel.trans (hb1.mono hsz))
          have Hrow1 := Lib.hid hrow1
          have Hfc := Lib.hid (fc_fit hfit)
          have Hfit := Lib.hid hfit
          have Hs := Lib.hid (show w.heap.size ≤ (w1.alloc (.cells (fcells a b c z) 73)).heap.size by have := Hb1.out.size; simp; omega)
          clear hb1 hrow1 hfit
          go_wp2_with (at_builtin; refine wp_app_fd rfl _ _ rfl w.heap.size _ _ rfl (Hrow1.out.alloc _) f (fcells a b c z) Hfc.out _ rfl (by simp) Hal.out Hs.out ?_)
          intro v2 w2 hrow2 hgr2
          have Hrow2 := Lib.hid hrow2
          have Hb2 := Lib.hid ((Hb1.out.alloc Hb1.out.size _).trans (hgr2.below Hs.out (fun k hk => (Hrow1.out.lt k hk).1)))
          clear hrow2 hgr2
          go_wp2
          go_roundw
          case rel =>
            refine ⟨r, acc ++ [f], rfl, Hrow2.out, ?_, by simp only [List.length_append, List.length_cons, List.length_nil] at *; omega, Heq.out, Hb2.out⟩
            intro g hg
            rcases List.mem_append.1 hg with h1 | h1
            · exact HI.out.fine g h1
            · simp at h1; subst h1; exact ⟨_, _, _, _, Hfit.out⟩
          case measure => rw [vLen_mk, vLen_mk]; exact hrl2
end Go.Proofs.YtnnnnlcpmocnfaaGreatDoor
