/- THE LAW ValueHeld's zero, WALKED. -/
import Derived.Test.YtnnnnlcpmocnfaaGreatDoorCk4
import Derived.Outline
import Derived.WalkLawsBesides
import Derived.Deep.RegionLaw
import Derived.Deep.RegionHeld3
namespace Go.Proofs.YtnnnnlcpmocnfaaGreatDoor
open Go.RowKit
set_option linter.unusedVariables false
set_option linter.unusedSimpArgs false
attribute [local go_sem] run_store_float

set_option maxRecDepth 100000 in
theorem zero_0_s (s : ByteArray) (b : Bool) (n : Int) (f m1 m2 c1 c2 : Nat) (a1 a2 : Option Addr) (w : World) (hs : s.toList.isEmpty = false) :
    Calls Tryz.prog 80 #[.agg (gv 0 s b n f (.slice a1 m1 c1) (.slice a2 m2 c2))] w fun e w' => e = .returned (.bool false) ∧ w.alloc (.cells (gv 0 s b n f (.slice a1 m1 c1) (.slice a2 m2 c2)) 27) = w' := by
  have h58 := Tryz.bits39
  go_enter Tryz.func80, Tryz.ntmps80
  go_wp2
  go_ret
  exact ⟨rfl, rfl⟩
set_option maxRecDepth 100000 in
theorem zero_0_b (s : ByteArray) (b : Bool) (n : Int) (f m1 m2 c1 c2 : Nat) (a1 a2 : Option Addr) (w : World) (hs : s.toList.isEmpty = true) :
    Calls Tryz.prog 80 #[.agg (gv 0 s true n f (.slice a1 m1 c1) (.slice a2 m2 c2))] w fun e w' => e = .returned (.bool false) ∧ w.alloc (.cells (gv 0 s true n f (.slice a1 m1 c1) (.slice a2 m2 c2)) 27) = w' := by
  have h58 := Tryz.bits39
  go_enter Tryz.func80, Tryz.ntmps80
  go_wp2
  go_ret
  exact ⟨rfl, rfl⟩
set_option maxRecDepth 100000 in
theorem zero_0_n (s : ByteArray) (b : Bool) (n : Int) (f m1 m2 c1 c2 : Nat) (a1 a2 : Option Addr) (w : World) (hs : s.toList.isEmpty = true) (hn : (n == 0) = false) :
    Calls Tryz.prog 80 #[.agg (gv 0 s false n f (.slice a1 m1 c1) (.slice a2 m2 c2))] w fun e w' => e = .returned (.bool false) ∧ w.alloc (.cells (gv 0 s false n f (.slice a1 m1 c1) (.slice a2 m2 c2)) 27) = w' := by
  have h58 := Tryz.bits39
  go_enter Tryz.func80, Tryz.ntmps80
  go_wp2
  go_ret
  exact ⟨rfl, rfl⟩
set_option maxRecDepth 100000 in
theorem zero_0_f (s : ByteArray) (b : Bool) (n : Int) (f m1 m2 c1 c2 : Nat) (a1 a2 : Option Addr) (w : World) (hs : s.toList.isEmpty = true) (hn : (n == 0) = true) (hf : ¬ f = 0) :
    Calls Tryz.prog 80 #[.agg (gv 0 s false n f (.slice a1 m1 c1) (.slice a2 m2 c2))] w fun e w' => e = .returned (.bool false) ∧ w.alloc (.cells (gv 0 s false n f (.slice a1 m1 c1) (.slice a2 m2 c2)) 27) = w' := by
  have h58 := Tryz.bits39
  go_enter Tryz.func80, Tryz.ntmps80
  go_wp2
  go_ret
  exact ⟨rfl, rfl⟩
set_option maxRecDepth 100000 in
theorem zero_0_l (s : ByteArray) (b : Bool) (n : Int) (f m1 m2 c1 c2 : Nat) (a1 a2 : Option Addr) (w : World) (hs : s.toList.isEmpty = true) (hn : (n == 0) = true) (hl : 0 < (m1 : Int)) :
    Calls Tryz.prog 80 #[.agg (gv 0 s false n 0 (.slice a1 m1 c1) (.slice a2 m2 c2))] w fun e w' => e = .returned (.bool false) ∧ w.alloc (.cells (gv 0 s false n 0 (.slice a1 m1 c1) (.slice a2 m2 c2)) 27) = w' := by
  have h58 := Tryz.bits39
  go_enter Tryz.func80, Tryz.ntmps80
  go_wp2
  go_ret
  exact ⟨rfl, rfl⟩
set_option maxRecDepth 100000 in
theorem zero_0_p (s : ByteArray) (b : Bool) (n : Int) (f m1 m2 c1 c2 : Nat) (a1 a2 : Option Addr) (w : World) (hs : s.toList.isEmpty = true) (hn : (n == 0) = true) (hp : 0 < (m2 : Int)) :
    Calls Tryz.prog 80 #[.agg (gv 0 s false n 0 (.slice a1 0 c1) (.slice a2 m2 c2))] w fun e w' => e = .returned (.bool false) ∧ w.alloc (.cells (gv 0 s false n 0 (.slice a1 0 c1) (.slice a2 m2 c2)) 27) = w' := by
  have h58 := Tryz.bits39
  go_enter Tryz.func80, Tryz.ntmps80
  go_wp2
  go_ret
  exact ⟨rfl, rfl⟩
set_option maxRecDepth 100000 in
theorem zero_0_ok (s : ByteArray) (b : Bool) (n : Int) (f m1 m2 c1 c2 : Nat) (a1 a2 : Option Addr) (w : World) (hs : s.toList.isEmpty = true) (hn : (n == 0) = true) :
    Calls Tryz.prog 80 #[.agg (gv 0 s false n 0 (.slice a1 0 c1) (.slice a2 0 c2))] w fun e w' => e = .returned (.bool true) ∧ w.alloc (.cells (gv 0 s false n 0 (.slice a1 0 c1) (.slice a2 0 c2)) 27) = w' := by
  have h58 := Tryz.bits39
  go_enter Tryz.func80, Tryz.ntmps80
  go_wp2
  go_ret
  exact ⟨rfl, rfl⟩
set_option maxRecDepth 100000 in
theorem zero_1_b (s : ByteArray) (b : Bool) (n : Int) (f m1 m2 c1 c2 : Nat) (a1 a2 : Option Addr) (w : World)  :
    Calls Tryz.prog 80 #[.agg (gv 1 s true n f (.slice a1 m1 c1) (.slice a2 m2 c2))] w fun e w' => e = .returned (.bool false) ∧ w.alloc (.cells (gv 1 s true n f (.slice a1 m1 c1) (.slice a2 m2 c2)) 27) = w' := by
  have h58 := Tryz.bits39
  go_enter Tryz.func80, Tryz.ntmps80
  go_wp2
  go_ret
  exact ⟨rfl, rfl⟩
set_option maxRecDepth 100000 in
theorem zero_1_n (s : ByteArray) (b : Bool) (n : Int) (f m1 m2 c1 c2 : Nat) (a1 a2 : Option Addr) (w : World) (hn : (n == 0) = false) :
    Calls Tryz.prog 80 #[.agg (gv 1 s false n f (.slice a1 m1 c1) (.slice a2 m2 c2))] w fun e w' => e = .returned (.bool false) ∧ w.alloc (.cells (gv 1 s false n f (.slice a1 m1 c1) (.slice a2 m2 c2)) 27) = w' := by
  have h58 := Tryz.bits39
  go_enter Tryz.func80, Tryz.ntmps80
  go_wp2
  go_ret
  exact ⟨rfl, rfl⟩
set_option maxRecDepth 100000 in
theorem zero_1_f (s : ByteArray) (b : Bool) (n : Int) (f m1 m2 c1 c2 : Nat) (a1 a2 : Option Addr) (w : World) (hn : (n == 0) = true) (hf : ¬ f = 0) :
    Calls Tryz.prog 80 #[.agg (gv 1 s false n f (.slice a1 m1 c1) (.slice a2 m2 c2))] w fun e w' => e = .returned (.bool false) ∧ w.alloc (.cells (gv 1 s false n f (.slice a1 m1 c1) (.slice a2 m2 c2)) 27) = w' := by
  have h58 := Tryz.bits39
  go_enter Tryz.func80, Tryz.ntmps80
  go_wp2
  go_ret
  exact ⟨rfl, rfl⟩
set_option maxRecDepth 100000 in
theorem zero_1_l (s : ByteArray) (b : Bool) (n : Int) (f m1 m2 c1 c2 : Nat) (a1 a2 : Option Addr) (w : World) (hn : (n == 0) = true) (hl : 0 < (m1 : Int)) :
    Calls Tryz.prog 80 #[.agg (gv 1 s false n 0 (.slice a1 m1 c1) (.slice a2 m2 c2))] w fun e w' => e = .returned (.bool false) ∧ w.alloc (.cells (gv 1 s false n 0 (.slice a1 m1 c1) (.slice a2 m2 c2)) 27) = w' := by
  have h58 := Tryz.bits39
  go_enter Tryz.func80, Tryz.ntmps80
  go_wp2
  go_ret
  exact ⟨rfl, rfl⟩
set_option maxRecDepth 100000 in
theorem zero_1_p (s : ByteArray) (b : Bool) (n : Int) (f m1 m2 c1 c2 : Nat) (a1 a2 : Option Addr) (w : World) (hn : (n == 0) = true) (hp : 0 < (m2 : Int)) :
    Calls Tryz.prog 80 #[.agg (gv 1 s false n 0 (.slice a1 0 c1) (.slice a2 m2 c2))] w fun e w' => e = .returned (.bool false) ∧ w.alloc (.cells (gv 1 s false n 0 (.slice a1 0 c1) (.slice a2 m2 c2)) 27) = w' := by
  have h58 := Tryz.bits39
  go_enter Tryz.func80, Tryz.ntmps80
  go_wp2
  go_ret
  exact ⟨rfl, rfl⟩
set_option maxRecDepth 100000 in
theorem zero_1_ok (s : ByteArray) (b : Bool) (n : Int) (f m1 m2 c1 c2 : Nat) (a1 a2 : Option Addr) (w : World) (hn : (n == 0) = true) :
    Calls Tryz.prog 80 #[.agg (gv 1 s false n 0 (.slice a1 0 c1) (.slice a2 0 c2))] w fun e w' => e = .returned (.bool true) ∧ w.alloc (.cells (gv 1 s false n 0 (.slice a1 0 c1) (.slice a2 0 c2)) 27) = w' := by
  have h58 := Tryz.bits39
  go_enter Tryz.func80, Tryz.ntmps80
  go_wp2
  go_ret
  exact ⟨rfl, rfl⟩
set_option maxRecDepth 100000 in
theorem zero_2_s (s : ByteArray) (b : Bool) (n : Int) (f m1 m2 c1 c2 : Nat) (a1 a2 : Option Addr) (w : World) (hs : s.toList.isEmpty = false) :
    Calls Tryz.prog 80 #[.agg (gv 2 s b n f (.slice a1 m1 c1) (.slice a2 m2 c2))] w fun e w' => e = .returned (.bool false) ∧ w.alloc (.cells (gv 2 s b n f (.slice a1 m1 c1) (.slice a2 m2 c2)) 27) = w' := by
  have h58 := Tryz.bits39
  go_enter Tryz.func80, Tryz.ntmps80
  go_wp2
  go_ret
  exact ⟨rfl, rfl⟩
set_option maxRecDepth 100000 in
theorem zero_2_n (s : ByteArray) (b : Bool) (n : Int) (f m1 m2 c1 c2 : Nat) (a1 a2 : Option Addr) (w : World) (hs : s.toList.isEmpty = true) (hn : (n == 0) = false) :
    Calls Tryz.prog 80 #[.agg (gv 2 s b n f (.slice a1 m1 c1) (.slice a2 m2 c2))] w fun e w' => e = .returned (.bool false) ∧ w.alloc (.cells (gv 2 s b n f (.slice a1 m1 c1) (.slice a2 m2 c2)) 27) = w' := by
  have h58 := Tryz.bits39
  go_enter Tryz.func80, Tryz.ntmps80
  go_wp2
  go_ret
  exact ⟨rfl, rfl⟩
set_option maxRecDepth 100000 in
theorem zero_2_f (s : ByteArray) (b : Bool) (n : Int) (f m1 m2 c1 c2 : Nat) (a1 a2 : Option Addr) (w : World) (hs : s.toList.isEmpty = true) (hn : (n == 0) = true) (hf : ¬ f = 0) :
    Calls Tryz.prog 80 #[.agg (gv 2 s b n f (.slice a1 m1 c1) (.slice a2 m2 c2))] w fun e w' => e = .returned (.bool false) ∧ w.alloc (.cells (gv 2 s b n f (.slice a1 m1 c1) (.slice a2 m2 c2)) 27) = w' := by
  have h58 := Tryz.bits39
  go_enter Tryz.func80, Tryz.ntmps80
  go_wp2
  go_ret
  exact ⟨rfl, rfl⟩
set_option maxRecDepth 100000 in
theorem zero_2_l (s : ByteArray) (b : Bool) (n : Int) (f m1 m2 c1 c2 : Nat) (a1 a2 : Option Addr) (w : World) (hs : s.toList.isEmpty = true) (hn : (n == 0) = true) (hl : 0 < (m1 : Int)) :
    Calls Tryz.prog 80 #[.agg (gv 2 s b n 0 (.slice a1 m1 c1) (.slice a2 m2 c2))] w fun e w' => e = .returned (.bool false) ∧ w.alloc (.cells (gv 2 s b n 0 (.slice a1 m1 c1) (.slice a2 m2 c2)) 27) = w' := by
  have h58 := Tryz.bits39
  go_enter Tryz.func80, Tryz.ntmps80
  go_wp2
  go_ret
  exact ⟨rfl, rfl⟩
set_option maxRecDepth 100000 in
theorem zero_2_p (s : ByteArray) (b : Bool) (n : Int) (f m1 m2 c1 c2 : Nat) (a1 a2 : Option Addr) (w : World) (hs : s.toList.isEmpty = true) (hn : (n == 0) = true) (hp : 0 < (m2 : Int)) :
    Calls Tryz.prog 80 #[.agg (gv 2 s b n 0 (.slice a1 0 c1) (.slice a2 m2 c2))] w fun e w' => e = .returned (.bool false) ∧ w.alloc (.cells (gv 2 s b n 0 (.slice a1 0 c1) (.slice a2 m2 c2)) 27) = w' := by
  have h58 := Tryz.bits39
  go_enter Tryz.func80, Tryz.ntmps80
  go_wp2
  go_ret
  exact ⟨rfl, rfl⟩
set_option maxRecDepth 100000 in
theorem zero_2_ok (s : ByteArray) (b : Bool) (n : Int) (f m1 m2 c1 c2 : Nat) (a1 a2 : Option Addr) (w : World) (hs : s.toList.isEmpty = true) (hn : (n == 0) = true) :
    Calls Tryz.prog 80 #[.agg (gv 2 s b n 0 (.slice a1 0 c1) (.slice a2 0 c2))] w fun e w' => e = .returned (.bool true) ∧ w.alloc (.cells (gv 2 s b n 0 (.slice a1 0 c1) (.slice a2 0 c2)) 27) = w' := by
  have h58 := Tryz.bits39
  go_enter Tryz.func80, Tryz.ntmps80
  go_wp2
  go_ret
  exact ⟨rfl, rfl⟩
set_option maxRecDepth 100000 in
theorem zero_3_s (s : ByteArray) (b : Bool) (n : Int) (f m1 m2 c1 c2 : Nat) (a1 a2 : Option Addr) (w : World) (hs : s.toList.isEmpty = false) :
    Calls Tryz.prog 80 #[.agg (gv 3 s b n f (.slice a1 m1 c1) (.slice a2 m2 c2))] w fun e w' => e = .returned (.bool false) ∧ w.alloc (.cells (gv 3 s b n f (.slice a1 m1 c1) (.slice a2 m2 c2)) 27) = w' := by
  have h58 := Tryz.bits39
  go_enter Tryz.func80, Tryz.ntmps80
  go_wp2
  go_ret
  exact ⟨rfl, rfl⟩
set_option maxRecDepth 100000 in
theorem zero_3_b (s : ByteArray) (b : Bool) (n : Int) (f m1 m2 c1 c2 : Nat) (a1 a2 : Option Addr) (w : World) (hs : s.toList.isEmpty = true) :
    Calls Tryz.prog 80 #[.agg (gv 3 s true n f (.slice a1 m1 c1) (.slice a2 m2 c2))] w fun e w' => e = .returned (.bool false) ∧ w.alloc (.cells (gv 3 s true n f (.slice a1 m1 c1) (.slice a2 m2 c2)) 27) = w' := by
  have h58 := Tryz.bits39
  go_enter Tryz.func80, Tryz.ntmps80
  go_wp2
  go_ret
  exact ⟨rfl, rfl⟩
set_option maxRecDepth 100000 in
theorem zero_3_f (s : ByteArray) (b : Bool) (n : Int) (f m1 m2 c1 c2 : Nat) (a1 a2 : Option Addr) (w : World) (hs : s.toList.isEmpty = true) (hf : ¬ f = 0) :
    Calls Tryz.prog 80 #[.agg (gv 3 s false n f (.slice a1 m1 c1) (.slice a2 m2 c2))] w fun e w' => e = .returned (.bool false) ∧ w.alloc (.cells (gv 3 s false n f (.slice a1 m1 c1) (.slice a2 m2 c2)) 27) = w' := by
  have h58 := Tryz.bits39
  go_enter Tryz.func80, Tryz.ntmps80
  go_wp2
  go_ret
  exact ⟨rfl, rfl⟩
set_option maxRecDepth 100000 in
theorem zero_3_l (s : ByteArray) (b : Bool) (n : Int) (f m1 m2 c1 c2 : Nat) (a1 a2 : Option Addr) (w : World) (hs : s.toList.isEmpty = true) (hl : 0 < (m1 : Int)) :
    Calls Tryz.prog 80 #[.agg (gv 3 s false n 0 (.slice a1 m1 c1) (.slice a2 m2 c2))] w fun e w' => e = .returned (.bool false) ∧ w.alloc (.cells (gv 3 s false n 0 (.slice a1 m1 c1) (.slice a2 m2 c2)) 27) = w' := by
  have h58 := Tryz.bits39
  go_enter Tryz.func80, Tryz.ntmps80
  go_wp2
  go_ret
  exact ⟨rfl, rfl⟩
set_option maxRecDepth 100000 in
theorem zero_3_p (s : ByteArray) (b : Bool) (n : Int) (f m1 m2 c1 c2 : Nat) (a1 a2 : Option Addr) (w : World) (hs : s.toList.isEmpty = true) (hp : 0 < (m2 : Int)) :
    Calls Tryz.prog 80 #[.agg (gv 3 s false n 0 (.slice a1 0 c1) (.slice a2 m2 c2))] w fun e w' => e = .returned (.bool false) ∧ w.alloc (.cells (gv 3 s false n 0 (.slice a1 0 c1) (.slice a2 m2 c2)) 27) = w' := by
  have h58 := Tryz.bits39
  go_enter Tryz.func80, Tryz.ntmps80
  go_wp2
  go_ret
  exact ⟨rfl, rfl⟩
end Go.Proofs.YtnnnnlcpmocnfaaGreatDoor
