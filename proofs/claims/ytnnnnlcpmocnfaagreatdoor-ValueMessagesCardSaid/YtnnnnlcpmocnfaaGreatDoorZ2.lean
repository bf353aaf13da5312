/- THE LAW ValueHeld's zero, WALKED. -/
import Derived.Test.YtnnnnlcpmocnfaaGreatDoorCk4
import Derived.Outline
import Derived.WalkLawsBesides
import Derived.Deep.RegionLaw
import Derived.Deep.RegionHeld3
namespace Go.Proofs.YtnnnnlcpmocnfaaGreatDoor
open Go.RowKit
set_option linter.unusedVariables false
set_option linter.unusedSimpArgs false
attribute [local go_sem] run_store_float

set_option maxRecDepth 100000 in
theorem zero_3_ok (s : ByteArray) (b : Bool) (n : Int) (f m1 m2 c1 c2 : Nat) (a1 a2 : Option Addr) (w : World) (hs : s.toList.isEmpty = true) :
    Calls Tryz.prog 80 #[.agg (gv 3 s false n 0 (.slice a1 0 c1) (.slice a2 0 c2))] w fun e w' => e = .returned (.bool true) ∧ w.alloc (.cells (gv 3 s false n 0 (.slice a1 0 c1) (.slice a2 0 c2)) 27) = w' := by
  have h58 := Tryz.bits39
  go_enter Tryz.func80, Tryz.ntmps80
  go_wp2
  go_ret
  exact ⟨rfl, rfl⟩
set_option maxRecDepth 100000 in
theorem zero_4_s (s : ByteArray) (b : Bool) (n : Int) (f m1 m2 c1 c2 : Nat) (a1 a2 : Option Addr) (w : World) (hs : s.toList.isEmpty = false) :
    Calls Tryz.prog 80 #[.agg (gv 4 s b n f (.slice a1 m1 c1) (.slice a2 m2 c2))] w fun e w' => e = .returned (.bool false) ∧ w.alloc (.cells (gv 4 s b n f (.slice a1 m1 c1) (.slice a2 m2 c2)) 27) = w' := by
  have h58 := Tryz.bits39
  go_enter Tryz.func80, Tryz.ntmps80
  go_wp2
  go_ret
  exact ⟨rfl, rfl⟩
set_option maxRecDepth 100000 in
theorem zero_4_b (s : ByteArray) (b : Bool) (n : Int) (f m1 m2 c1 c2 : Nat) (a1 a2 : Option Addr) (w : World) (hs : s.toList.isEmpty = true) :
    Calls Tryz.prog 80 #[.agg (gv 4 s true n f (.slice a1 m1 c1) (.slice a2 m2 c2))] w fun e w' => e = .returned (.bool false) ∧ w.alloc (.cells (gv 4 s true n f (.slice a1 m1 c1) (.slice a2 m2 c2)) 27) = w' := by
  have h58 := Tryz.bits39
  go_enter Tryz.func80, Tryz.ntmps80
  go_wp2
  go_ret
  exact ⟨rfl, rfl⟩
set_option maxRecDepth 100000 in
theorem zero_4_n (s : ByteArray) (b : Bool) (n : Int) (f m1 m2 c1 c2 : Nat) (a1 a2 : Option Addr) (w : World) (hs : s.toList.isEmpty = true) (hn : (n == 0) = false) :
    Calls Tryz.prog 80 #[.agg (gv 4 s false n f (.slice a1 m1 c1) (.slice a2 m2 c2))] w fun e w' => e = .returned (.bool false) ∧ w.alloc (.cells (gv 4 s false n f (.slice a1 m1 c1) (.slice a2 m2 c2)) 27) = w' := by
  have h58 := Tryz.bits39
  go_enter Tryz.func80, Tryz.ntmps80
  go_wp2
  go_ret
  exact ⟨rfl, rfl⟩
set_option maxRecDepth 100000 in
theorem zero_4_l (s : ByteArray) (b : Bool) (n : Int) (f m1 m2 c1 c2 : Nat) (a1 a2 : Option Addr) (w : World) (hs : s.toList.isEmpty = true) (hn : (n == 0) = true) (hl : 0 < (m1 : Int)) :
    Calls Tryz.prog 80 #[.agg (gv 4 s false n f (.slice a1 m1 c1) (.slice a2 m2 c2))] w fun e w' => e = .returned (.bool false) ∧ w.alloc (.cells (gv 4 s false n f (.slice a1 m1 c1) (.slice a2 m2 c2)) 27) = w' := by
  have h58 := Tryz.bits39
  go_enter Tryz.func80, Tryz.ntmps80
  go_wp2
  go_ret
  exact ⟨rfl, rfl⟩
set_option maxRecDepth 100000 in
theorem zero_4_p (s : ByteArray) (b : Bool) (n : Int) (f m1 m2 c1 c2 : Nat) (a1 a2 : Option Addr) (w : World) (hs : s.toList.isEmpty = true) (hn : (n == 0) = true) (hp : 0 < (m2 : Int)) :
    Calls Tryz.prog 80 #[.agg (gv 4 s false n f (.slice a1 0 c1) (.slice a2 m2 c2))] w fun e w' => e = .returned (.bool false) ∧ w.alloc (.cells (gv 4 s false n f (.slice a1 0 c1) (.slice a2 m2 c2)) 27) = w' := by
  have h58 := Tryz.bits39
  go_enter Tryz.func80, Tryz.ntmps80
  go_wp2
  go_ret
  exact ⟨rfl, rfl⟩
set_option maxRecDepth 100000 in
theorem zero_4_ok (s : ByteArray) (b : Bool) (n : Int) (f m1 m2 c1 c2 : Nat) (a1 a2 : Option Addr) (w : World) (hs : s.toList.isEmpty = true) (hn : (n == 0) = true) :
    Calls Tryz.prog 80 #[.agg (gv 4 s false n f (.slice a1 0 c1) (.slice a2 0 c2))] w fun e w' => e = .returned (.bool true) ∧ w.alloc (.cells (gv 4 s false n f (.slice a1 0 c1) (.slice a2 0 c2)) 27) = w' := by
  have h58 := Tryz.bits39
  go_enter Tryz.func80, Tryz.ntmps80
  go_wp2
  go_ret
  exact ⟨rfl, rfl⟩
set_option maxRecDepth 100000 in
theorem zero_5_s (s : ByteArray) (b : Bool) (n : Int) (f m1 m2 c1 c2 : Nat) (a1 a2 : Option Addr) (w : World) (hs : s.toList.isEmpty = false) :
    Calls Tryz.prog 80 #[.agg (gv 5 s b n f (.slice a1 m1 c1) (.slice a2 m2 c2))] w fun e w' => e = .returned (.bool false) ∧ w.alloc (.cells (gv 5 s b n f (.slice a1 m1 c1) (.slice a2 m2 c2)) 27) = w' := by
  have h58 := Tryz.bits39
  go_enter Tryz.func80, Tryz.ntmps80
  go_wp2
  go_ret
  exact ⟨rfl, rfl⟩
set_option maxRecDepth 100000 in
theorem zero_5_b (s : ByteArray) (b : Bool) (n : Int) (f m1 m2 c1 c2 : Nat) (a1 a2 : Option Addr) (w : World) (hs : s.toList.isEmpty = true) :
    Calls Tryz.prog 80 #[.agg (gv 5 s true n f (.slice a1 m1 c1) (.slice a2 m2 c2))] w fun e w' => e = .returned (.bool false) ∧ w.alloc (.cells (gv 5 s true n f (.slice a1 m1 c1) (.slice a2 m2 c2)) 27) = w' := by
  have h58 := Tryz.bits39
  go_enter Tryz.func80, Tryz.ntmps80
  go_wp2
  go_ret
  exact ⟨rfl, rfl⟩
set_option maxRecDepth 100000 in
theorem zero_5_n (s : ByteArray) (b : Bool) (n : Int) (f m1 m2 c1 c2 : Nat) (a1 a2 : Option Addr) (w : World) (hs : s.toList.isEmpty = true) (hn : (n == 0) = false) :
    Calls Tryz.prog 80 #[.agg (gv 5 s false n f (.slice a1 m1 c1) (.slice a2 m2 c2))] w fun e w' => e = .returned (.bool false) ∧ w.alloc (.cells (gv 5 s false n f (.slice a1 m1 c1) (.slice a2 m2 c2)) 27) = w' := by
  have h58 := Tryz.bits39
  go_enter Tryz.func80, Tryz.ntmps80
  go_wp2
  go_ret
  exact ⟨rfl, rfl⟩
set_option maxRecDepth 100000 in
theorem zero_5_f (s : ByteArray) (b : Bool) (n : Int) (f m1 m2 c1 c2 : Nat) (a1 a2 : Option Addr) (w : World) (hs : s.toList.isEmpty = true) (hn : (n == 0) = true) (hf : ¬ f = 0) :
    Calls Tryz.prog 80 #[.agg (gv 5 s false n f (.slice a1 m1 c1) (.slice a2 m2 c2))] w fun e w' => e = .returned (.bool false) ∧ w.alloc (.cells (gv 5 s false n f (.slice a1 m1 c1) (.slice a2 m2 c2)) 27) = w' := by
  have h58 := Tryz.bits39
  go_enter Tryz.func80, Tryz.ntmps80
  go_wp2
  go_ret
  exact ⟨rfl, rfl⟩
set_option maxRecDepth 100000 in
theorem zero_5_p (s : ByteArray) (b : Bool) (n : Int) (f m1 m2 c1 c2 : Nat) (a1 a2 : Option Addr) (w : World) (hs : s.toList.isEmpty = true) (hn : (n == 0) = true) (hp : 0 < (m2 : Int)) :
    Calls Tryz.prog 80 #[.agg (gv 5 s false n 0 (.slice a1 m1 c1) (.slice a2 m2 c2))] w fun e w' => e = .returned (.bool false) ∧ w.alloc (.cells (gv 5 s false n 0 (.slice a1 m1 c1) (.slice a2 m2 c2)) 27) = w' := by
  have h58 := Tryz.bits39
  go_enter Tryz.func80, Tryz.ntmps80
  go_wp2
  go_ret
  exact ⟨rfl, rfl⟩
set_option maxRecDepth 100000 in
theorem zero_5_ok (s : ByteArray) (b : Bool) (n : Int) (f m1 m2 c1 c2 : Nat) (a1 a2 : Option Addr) (w : World) (hs : s.toList.isEmpty = true) (hn : (n == 0) = true) :
    Calls Tryz.prog 80 #[.agg (gv 5 s false n 0 (.slice a1 m1 c1) (.slice a2 0 c2))] w fun e w' => e = .returned (.bool true) ∧ w.alloc (.cells (gv 5 s false n 0 (.slice a1 m1 c1) (.slice a2 0 c2)) 27) = w' := by
  have h58 := Tryz.bits39
  go_enter Tryz.func80, Tryz.ntmps80
  go_wp2
  go_ret
  exact ⟨rfl, rfl⟩
set_option maxRecDepth 100000 in
theorem zero_6_s (s : ByteArray) (b : Bool) (n : Int) (f m1 m2 c1 c2 : Nat) (a1 a2 : Option Addr) (w : World) (hs : s.toList.isEmpty = false) :
    Calls Tryz.prog 80 #[.agg (gv 6 s b n f (.slice a1 m1 c1) (.slice a2 m2 c2))] w fun e w' => e = .returned (.bool false) ∧ w.alloc (.cells (gv 6 s b n f (.slice a1 m1 c1) (.slice a2 m2 c2)) 27) = w' := by
  have h58 := Tryz.bits39
  go_enter Tryz.func80, Tryz.ntmps80
  go_wp2
  go_ret
  exact ⟨rfl, rfl⟩
set_option maxRecDepth 100000 in
theorem zero_6_b (s : ByteArray) (b : Bool) (n : Int) (f m1 m2 c1 c2 : Nat) (a1 a2 : Option Addr) (w : World) (hs : s.toList.isEmpty = true) :
    Calls Tryz.prog 80 #[.agg (gv 6 s true n f (.slice a1 m1 c1) (.slice a2 m2 c2))] w fun e w' => e = .returned (.bool false) ∧ w.alloc (.cells (gv 6 s true n f (.slice a1 m1 c1) (.slice a2 m2 c2)) 27) = w' := by
  have h58 := Tryz.bits39
  go_enter Tryz.func80, Tryz.ntmps80
  go_wp2
  go_ret
  exact ⟨rfl, rfl⟩
set_option maxRecDepth 100000 in
theorem zero_6_n (s : ByteArray) (b : Bool) (n : Int) (f m1 m2 c1 c2 : Nat) (a1 a2 : Option Addr) (w : World) (hs : s.toList.isEmpty = true) (hn : (n == 0) = false) :
    Calls Tryz.prog 80 #[.agg (gv 6 s false n f (.slice a1 m1 c1) (.slice a2 m2 c2))] w fun e w' => e = .returned (.bool false) ∧ w.alloc (.cells (gv 6 s false n f (.slice a1 m1 c1) (.slice a2 m2 c2)) 27) = w' := by
  have h58 := Tryz.bits39
  go_enter Tryz.func80, Tryz.ntmps80
  go_wp2
  go_ret
  exact ⟨rfl, rfl⟩
set_option maxRecDepth 100000 in
theorem zero_6_f (s : ByteArray) (b : Bool) (n : Int) (f m1 m2 c1 c2 : Nat) (a1 a2 : Option Addr) (w : World) (hs : s.toList.isEmpty = true) (hn : (n == 0) = true) (hf : ¬ f = 0) :
    Calls Tryz.prog 80 #[.agg (gv 6 s false n f (.slice a1 m1 c1) (.slice a2 m2 c2))] w fun e w' => e = .returned (.bool false) ∧ w.alloc (.cells (gv 6 s false n f (.slice a1 m1 c1) (.slice a2 m2 c2)) 27) = w' := by
  have h58 := Tryz.bits39
  go_enter Tryz.func80, Tryz.ntmps80
  go_wp2
  go_ret
  exact ⟨rfl, rfl⟩
set_option maxRecDepth 100000 in
theorem zero_6_l (s : ByteArray) (b : Bool) (n : Int) (f m1 m2 c1 c2 : Nat) (a1 a2 : Option Addr) (w : World) (hs : s.toList.isEmpty = true) (hn : (n == 0) = true) (hl : 0 < (m1 : Int)) :
    Calls Tryz.prog 80 #[.agg (gv 6 s false n 0 (.slice a1 m1 c1) (.slice a2 m2 c2))] w fun e w' => e = .returned (.bool false) ∧ w.alloc (.cells (gv 6 s false n 0 (.slice a1 m1 c1) (.slice a2 m2 c2)) 27) = w' := by
  have h58 := Tryz.bits39
  go_enter Tryz.func80, Tryz.ntmps80
  go_wp2
  go_ret
  exact ⟨rfl, rfl⟩
set_option maxRecDepth 100000 in
theorem zero_6_ok (s : ByteArray) (b : Bool) (n : Int) (f m1 m2 c1 c2 : Nat) (a1 a2 : Option Addr) (w : World) (hs : s.toList.isEmpty = true) (hn : (n == 0) = true) :
    Calls Tryz.prog 80 #[.agg (gv 6 s false n 0 (.slice a1 0 c1) (.slice a2 m2 c2))] w fun e w' => e = .returned (.bool true) ∧ w.alloc (.cells (gv 6 s false n 0 (.slice a1 0 c1) (.slice a2 m2 c2)) 27) = w' := by
  have h58 := Tryz.bits39
  go_enter Tryz.func80, Tryz.ntmps80
  go_wp2
  go_ret
  exact ⟨rfl, rfl⟩
set_option maxRecDepth 100000 in
theorem zero_7_b (s : ByteArray) (b : Bool) (n : Int) (f m1 m2 c1 c2 : Nat) (a1 a2 : Option Addr) (w : World)  :
    Calls Tryz.prog 80 #[.agg (gv 7 s true n f (.slice a1 m1 c1) (.slice a2 m2 c2))] w fun e w' => e = .returned (.bool false) ∧ w.alloc (.cells (gv 7 s true n f (.slice a1 m1 c1) (.slice a2 m2 c2)) 27) = w' := by
  have h58 := Tryz.bits39
  go_enter Tryz.func80, Tryz.ntmps80
  go_wp2
  go_ret
  exact ⟨rfl, rfl⟩
set_option maxRecDepth 100000 in
theorem zero_7_n (s : ByteArray) (b : Bool) (n : Int) (f m1 m2 c1 c2 : Nat) (a1 a2 : Option Addr) (w : World) (hn : (n == 0) = false) :
    Calls Tryz.prog 80 #[.agg (gv 7 s false n f (.slice a1 m1 c1) (.slice a2 m2 c2))] w fun e w' => e = .returned (.bool false) ∧ w.alloc (.cells (gv 7 s false n f (.slice a1 m1 c1) (.slice a2 m2 c2)) 27) = w' := by
  have h58 := Tryz.bits39
  go_enter Tryz.func80, Tryz.ntmps80
  go_wp2
  go_ret
  exact ⟨rfl, rfl⟩
set_option maxRecDepth 100000 in
theorem zero_7_f (s : ByteArray) (b : Bool) (n : Int) (f m1 m2 c1 c2 : Nat) (a1 a2 : Option Addr) (w : World) (hn : (n == 0) = true) (hf : ¬ f = 0) :
    Calls Tryz.prog 80 #[.agg (gv 7 s false n f (.slice a1 m1 c1) (.slice a2 m2 c2))] w fun e w' => e = .returned (.bool false) ∧ w.alloc (.cells (gv 7 s false n f (.slice a1 m1 c1) (.slice a2 m2 c2)) 27) = w' := by
  have h58 := Tryz.bits39
  go_enter Tryz.func80, Tryz.ntmps80
  go_wp2
  go_ret
  exact ⟨rfl, rfl⟩
set_option maxRecDepth 100000 in
theorem zero_7_l (s : ByteArray) (b : Bool) (n : Int) (f m1 m2 c1 c2 : Nat) (a1 a2 : Option Addr) (w : World) (hn : (n == 0) = true) (hl : 0 < (m1 : Int)) :
    Calls Tryz.prog 80 #[.agg (gv 7 s false n 0 (.slice a1 m1 c1) (.slice a2 m2 c2))] w fun e w' => e = .returned (.bool false) ∧ w.alloc (.cells (gv 7 s false n 0 (.slice a1 m1 c1) (.slice a2 m2 c2)) 27) = w' := by
  have h58 := Tryz.bits39
  go_enter Tryz.func80, Tryz.ntmps80
  go_wp2
  go_ret
  exact ⟨rfl, rfl⟩
set_option maxRecDepth 100000 in
theorem zero_7_p (s : ByteArray) (b : Bool) (n : Int) (f m1 m2 c1 c2 : Nat) (a1 a2 : Option Addr) (w : World) (hn : (n == 0) = true) (hp : 0 < (m2 : Int)) :
    Calls Tryz.prog 80 #[.agg (gv 7 s false n 0 (.slice a1 0 c1) (.slice a2 m2 c2))] w fun e w' => e = .returned (.bool false) ∧ w.alloc (.cells (gv 7 s false n 0 (.slice a1 0 c1) (.slice a2 m2 c2)) 27) = w' := by
  have h58 := Tryz.bits39
  go_enter Tryz.func80, Tryz.ntmps80
  go_wp2
  go_ret
  exact ⟨rfl, rfl⟩
set_option maxRecDepth 100000 in
theorem zero_7_ok (s : ByteArray) (b : Bool) (n : Int) (f m1 m2 c1 c2 : Nat) (a1 a2 : Option Addr) (w : World) (hn : (n == 0) = true) :
    Calls Tryz.prog 80 #[.agg (gv 7 s false n 0 (.slice a1 0 c1) (.slice a2 0 c2))] w fun e w' => e = .returned (.bool true) ∧ w.alloc (.cells (gv 7 s false n 0 (.slice a1 0 c1) (.slice a2 0 c2)) 27) = w' := by
  have h58 := Tryz.bits39
  go_enter Tryz.func80, Tryz.ntmps80
  go_wp2
  go_ret
  exact ⟨rfl, rfl⟩
set_option maxRecDepth 100000 in
theorem zero_8 (k : Int) (hk : 8 ≤ k) (s : ByteArray) (b : Bool) (n : Int) (f m1 m2 c1 c2 : Nat) (a1 a2 : Option Addr) (w : World) :
    Calls Tryz.prog 80 #[.agg (gv k s b n f (.slice a1 m1 c1) (.slice a2 m2 c2))] w fun e w' => e = .returned (.bool false) ∧ w.alloc (.cells (gv k s b n f (.slice a1 m1 c1) (.slice a2 m2 c2)) 27) = w' := by
  have h1 : ¬ k = 1 := by omega
  have h2 : ¬ k = 2 := by omega
  have h3 : ¬ k = 3 := by omega
  have h4 : ¬ k = 4 := by omega
  have h5 : ¬ k = 5 := by omega
  have h6 : ¬ k = 6 := by omega
  have h7 : ¬ k = 7 := by omega
  have h8 : ¬ k < 8 := by omega
  have h58 := Tryz.bits39
  go_enter Tryz.func80, Tryz.ntmps80
  go_wp2
  all_goals (go_ret; exact ⟨rfl, rfl⟩)
end Go.Proofs.YtnnnnlcpmocnfaaGreatDoor
