/- THE LAW ValueHeld's checks, WALKED. -/
import Derived.Test.YtnnnnlcpmocnfaaGreatDoorLaw0
import Derived.Lib.ValidU
import Derived.Handy
import Derived.Outline
import Derived.WalkLawsBesides
import Derived.Deep.RegionLaw
import Derived.Deep.RegionHeld3
namespace Go.Proofs.YtnnnnlcpmocnfaaGreatDoor
open Go.RowKit
set_option linter.unusedVariables false
set_option linter.unusedSimpArgs false
attribute [local go_sem] run_store_float


theorem unless_no (e : Int) (w : World) : Calls Tryz.prog 42 #[.bool false, .int .i64 e] w fun en w' => en = .panicked [{ v := .iface 31 (.int .i64 e), recovered := false }] ∧ w = w' := by
  go_enter Tryz.func42, Tryz.ntmps42
  go_wp2
  exact ⟨rfl, rfl, rfl⟩
theorem unless_any (b : Bool) (e : Int) (w : World) : Calls Tryz.prog 42 #[.bool b, .int .i64 e] w fun en w' => en = (if b then .returned (.tuple #[]) else .panicked [{ v := .iface 31 (.int .i64 e), recovered := false }]) ∧ w = w' := by
  cases b
  · exact unless_no e w
  · exact unless_yes e w

/-- a check that ends well, or with the error c -/
def Ends (c : Int) (e : Ending) : Prop := (c = 0 ∧ e = .returned (.tuple #[])) ∨ (c ≠ 0 ∧ e = .panicked [{ v := .iface 31 (.int .i64 c), recovered := false }])
theorem Ends.ok {e : Ending} (h : Ends 0 e) : e = .returned (.tuple #[]) := by rcases h with h | h; exact h.2; exact absurd rfl h.1
theorem Ends.no {c : Int} {e : Ending} (hc : c ≠ 0) (h : Ends c e) : e = .panicked [{ v := .iface 31 (.int .i64 c), recovered := false }] := by rcases h with h | h; exact absurd h.1 hc; exact h.2
theorem Ends.mk0 : Ends 0 (.returned (.tuple #[])) := .inl ⟨rfl, rfl⟩
theorem Ends.mkn {c : Int} (hc : c ≠ 0) : Ends c (.panicked [{ v := .iface 31 (.int .i64 c), recovered := false }]) := .inr ⟨hc, rfl⟩

abbrev pan31 (c : Int) : Ending := .panicked [{ v := .iface 31 (.int .i64 c), recovered := false }]
theorem long_ok (s : ByteArray) (w : World) (h : (s.size : Int) ≤ 4096) : Calls Tryz.prog 44 #[.string s] w fun e w' => e = .returned (.tuple #[]) ∧ w = w' := by
  go_enter Tryz.func44, Tryz.ntmps44
  go_wp2_with (go_at_call 42; refine (unless_yes _ _).mono ?_; rintro e w' ⟨rfl, rfl⟩)
  go_returns
  exact ⟨rfl, rfl⟩
theorem long_no (s : ByteArray) (w : World) (h : ¬ (s.size : Int) ≤ 4096) : Calls Tryz.prog 44 #[.string s] w fun e w' => e = pan31 4 ∧ w = w' := by
  go_enter Tryz.func44, Tryz.ntmps44
  go_wp2_with (go_at_call 42; refine (unless_no _ _).mono ?_; rintro e w' ⟨rfl, rfl⟩)
  exact ⟨rfl, rfl, rfl⟩
theorem many_ok (n : Int) (w : World) (h : n ≤ 256) : Calls Tryz.prog 46 #[.int .i64 n] w fun e w' => e = .returned (.tuple #[]) ∧ w = w' := by
  go_enter Tryz.func46, Tryz.ntmps46
  go_wp2_with (go_at_call 42; refine (unless_yes _ _).mono ?_; rintro e w' ⟨rfl, rfl⟩)
  go_returns
  exact ⟨rfl, rfl⟩
theorem many_no (n : Int) (w : World) (h : ¬ n ≤ 256) : Calls Tryz.prog 46 #[.int .i64 n] w fun e w' => e = pan31 3 ∧ w = w' := by
  go_enter Tryz.func46, Tryz.ntmps46
  go_wp2_with (go_at_call 42; refine (unless_no _ _).mono ?_; rintro e w' ⟨rfl, rfl⟩)
  exact ⟨rfl, rfl, rfl⟩
theorem depth_ok (n : Int) (w : World) (h : n < 8) : Calls Tryz.prog 47 #[.int .i64 n] w fun e w' => e = .returned (.tuple #[]) ∧ w = w' := by
  go_enter Tryz.func47, Tryz.ntmps47
  go_wp2_with (go_at_call 42; refine (unless_yes _ _).mono ?_; rintro e w' ⟨rfl, rfl⟩)
  go_returns
  exact ⟨rfl, rfl⟩
theorem depth_no (n : Int) (w : World) (h : ¬ n < 8) : Calls Tryz.prog 47 #[.int .i64 n] w fun e w' => e = pan31 11 ∧ w = w' := by
  go_enter Tryz.func47, Tryz.ntmps47
  go_wp2_with (go_at_call 42; refine (unless_no _ _).mono ?_; rintro e w' ⟨rfl, rfl⟩)
  exact ⟨rfl, rfl, rfl⟩

/-- is a text UTF-8: the shelf's own word -/
def utf (s : ByteArray) : Bool := Lib.validD s.data.toList
/-- utf8.ValidString answers so, from here on: its tables lie in memory that was there -/
def Tabs (w : World) : Prop := ∀ W, Below w.heap.size w W → ∀ s : ByteArray, s.size ≤ 140737488353000 → Calls Tryz.prog 45 #[.string s] W fun e w' => e = .returned (.bool (utf s)) ∧ Below W.heap.size W w'
theorem Tabs.under {w w1 : World} (h : Tabs w) (hb : Below w.heap.size w w1) : Tabs w1 := fun W hW s hs => h W (hb.trans (hW.mono hb.size)) s hs
/-- why a key is not right -/
def keyErr (s : ByteArray) : Int := if s.size ≤ 4096 then (if utf s then 0 else 12) else 4
/-- what a check leaves -/
def Chk (c : Int) (w : World) (e : Ending) (w' : World) : Prop := Ends c e ∧ Below w.heap.size w w'
theorem Chk.ok {w : World} {e : Ending} {w' : World} (h : Chk 0 w e w') : e = .returned (.tuple #[]) ∧ Below w.heap.size w w' := ⟨h.1.ok, h.2⟩
theorem Chk.no {c : Int} (hc : c ≠ 0) {w : World} {e : Ending} {w' : World} (h : Chk c w e w') : e = pan31 c ∧ Below w.heap.size w w' := ⟨h.1.no hc, h.2⟩
theorem ckey_any (s : ByteArray) (w : World) (hs : s.size ≤ 140737488353000) (hT : Tabs w) : Calls Tryz.prog 59 #[.string s] w (Chk (keyErr s) w) := by
  unfold keyErr
  by_cases h1 : s.size ≤ 4096
  · rw [if_pos h1]
    have hv := hT w (Below.refl _ _) s hs
    have Hv := Lib.hid hv
    cases hu : utf s
    · rw [hu] at Hv
      clear hv hT
      go_enter Tryz.func59, Tryz.ntmps59
      go_wp2_with fail
      refine (long_ok _ _ (by omega)).mono ?_
      rintro e w' ⟨rfl, rfl⟩
      go_wp2_with fail
      refine Hv.out.mono ?_
      rintro e w1 ⟨rfl, hb⟩
      go_wp2_with fail
      refine (unless_no _ _).mono ?_
      rintro e w' ⟨rfl, rfl⟩
      exact ⟨rfl, by exact ⟨Ends.mkn (by decide), hb⟩⟩
    · rw [hu] at Hv
      clear hv hT
      go_enter Tryz.func59, Tryz.ntmps59
      go_wp2_with fail
      refine (long_ok _ _ (by omega)).mono ?_
      rintro e w' ⟨rfl, rfl⟩
      go_wp2_with fail
      refine Hv.out.mono ?_
      rintro e w1 ⟨rfl, hb⟩
      go_wp2_with fail
      refine (unless_yes _ _).mono ?_
      rintro e w' ⟨rfl, rfl⟩
      go_wp2
      go_returns
      exact ⟨Ends.mk0, hb⟩
  · rw [if_neg h1]
    clear hT
    go_enter Tryz.func59, Tryz.ntmps59
    go_wp2_with fail
    refine (long_no _ _ (by omega)).mono ?_
    rintro e w' ⟨rfl, rfl⟩
    exact ⟨rfl, by exact ⟨Ends.mkn (by decide), Below.refl _ _⟩⟩
end Go.Proofs.YtnnnnlcpmocnfaaGreatDoor

/- THE LAW ValueHeld's isBare, WALKED. -/
namespace Go.Proofs.YtnnnnlcpmocnfaaGreatDoor
open Go.RowKit
set_option linter.unusedVariables false
set_option linter.unusedSimpArgs false
attribute [local go_sem] run_store_float

set_option maxRecDepth 100000 in
theorem bare_0_s (s : ByteArray) (b : Bool) (n : Int) (f m1 m2 c1 c2 : Nat) (a1 a2 : Option Addr) (w : World)  (hs : s.toList.isEmpty = false) :
    Calls Tryz.prog 43 #[.agg (gv 0 s b n f (.slice a1 m1 c1) (.slice a2 m2 c2))] w fun e w' => e = .returned (.bool false) ∧ w.alloc (.cells (gv 0 s b n f (.slice a1 m1 c1) (.slice a2 m2 c2)) 27) = w' := by
  have h58 := Tryz.bits39
  skip
  go_enter Tryz.func43, Tryz.ntmps43
  go_wp2
  go_ret
  exact ⟨rfl, rfl⟩
set_option maxRecDepth 100000 in
theorem bare_0_b (s : ByteArray) (b : Bool) (n : Int) (f m1 m2 c1 c2 : Nat) (a1 a2 : Option Addr) (w : World) (hs : s.toList.isEmpty = true) (hb : b = true) :
    Calls Tryz.prog 43 #[.agg (gv 0 s b n f (.slice a1 m1 c1) (.slice a2 m2 c2))] w fun e w' => e = .returned (.bool false) ∧ w.alloc (.cells (gv 0 s b n f (.slice a1 m1 c1) (.slice a2 m2 c2)) 27) = w' := by
  have h58 := Tryz.bits39
  subst hb
  go_enter Tryz.func43, Tryz.ntmps43
  go_wp2
  go_ret
  exact ⟨rfl, rfl⟩
set_option maxRecDepth 100000 in
theorem bare_0_n (s : ByteArray) (b : Bool) (n : Int) (f m1 m2 c1 c2 : Nat) (a1 a2 : Option Addr) (w : World) (hs : s.toList.isEmpty = true) (hb : b = false) (hn : (n == 0) = false) :
    Calls Tryz.prog 43 #[.agg (gv 0 s b n f (.slice a1 m1 c1) (.slice a2 m2 c2))] w fun e w' => e = .returned (.bool false) ∧ w.alloc (.cells (gv 0 s b n f (.slice a1 m1 c1) (.slice a2 m2 c2)) 27) = w' := by
  have h58 := Tryz.bits39
  subst hb
  go_enter Tryz.func43, Tryz.ntmps43
  go_wp2
  go_ret
  exact ⟨rfl, rfl⟩
set_option maxRecDepth 100000 in
theorem bare_0_f (s : ByteArray) (b : Bool) (n : Int) (f m1 m2 c1 c2 : Nat) (a1 a2 : Option Addr) (w : World) (hs : s.toList.isEmpty = true) (hb : b = false) (hn : (n == 0) = true) (hf : ((f : Int) == 0) = false) :
    Calls Tryz.prog 43 #[.agg (gv 0 s b n f (.slice a1 m1 c1) (.slice a2 m2 c2))] w fun e w' => e = .returned (.bool false) ∧ w.alloc (.cells (gv 0 s b n f (.slice a1 m1 c1) (.slice a2 m2 c2)) 27) = w' := by
  have h58 := Tryz.bits39
  subst hb
  go_enter Tryz.func43, Tryz.ntmps43
  go_wp2
  go_ret
  exact ⟨rfl, rfl⟩
set_option maxRecDepth 100000 in
theorem bare_0_l (s : ByteArray) (b : Bool) (n : Int) (f m1 m2 c1 c2 : Nat) (a1 a2 : Option Addr) (w : World) (hs : s.toList.isEmpty = true) (hb : b = false) (hn : (n == 0) = true) (hf : ((f : Int) == 0) = true) (hl : ((m1 : Int) == 0) = false) :
    Calls Tryz.prog 43 #[.agg (gv 0 s b n f (.slice a1 m1 c1) (.slice a2 m2 c2))] w fun e w' => e = .returned (.bool false) ∧ w.alloc (.cells (gv 0 s b n f (.slice a1 m1 c1) (.slice a2 m2 c2)) 27) = w' := by
  have h58 := Tryz.bits39
  subst hb
  go_enter Tryz.func43, Tryz.ntmps43
  go_wp2
  go_ret
  exact ⟨rfl, rfl⟩
set_option maxRecDepth 100000 in
theorem bare_0_p (s : ByteArray) (b : Bool) (n : Int) (f m1 m2 c1 c2 : Nat) (a1 a2 : Option Addr) (w : World) (hs : s.toList.isEmpty = true) (hb : b = false) (hn : (n == 0) = true) (hf : ((f : Int) == 0) = true) (hl : ((m1 : Int) == 0) = true) (hp : ((m2 : Int) == 0) = false) :
    Calls Tryz.prog 43 #[.agg (gv 0 s b n f (.slice a1 m1 c1) (.slice a2 m2 c2))] w fun e w' => e = .returned (.bool false) ∧ w.alloc (.cells (gv 0 s b n f (.slice a1 m1 c1) (.slice a2 m2 c2)) 27) = w' := by
  have h58 := Tryz.bits39
  subst hb
  go_enter Tryz.func43, Tryz.ntmps43
  go_wp2
  go_ret
  exact ⟨rfl, rfl⟩
set_option maxRecDepth 100000 in
theorem bare_0_ok (s : ByteArray) (b : Bool) (n : Int) (f m1 m2 c1 c2 : Nat) (a1 a2 : Option Addr) (w : World) (hs : s.toList.isEmpty = true) (hb : b = false) (hn : (n == 0) = true) (hf : ((f : Int) == 0) = true) (hl : ((m1 : Int) == 0) = true) (hp : ((m2 : Int) == 0) = true) :
    Calls Tryz.prog 43 #[.agg (gv 0 s b n f (.slice a1 m1 c1) (.slice a2 m2 c2))] w fun e w' => e = .returned (.bool true) ∧ w.alloc (.cells (gv 0 s b n f (.slice a1 m1 c1) (.slice a2 m2 c2)) 27) = w' := by
  have h58 := Tryz.bits39
  subst hb
  go_enter Tryz.func43, Tryz.ntmps43
  go_wp2
  go_ret
  exact ⟨rfl, rfl⟩
set_option maxRecDepth 100000 in
theorem bare_1_b (s : ByteArray) (b : Bool) (n : Int) (f m1 m2 c1 c2 : Nat) (a1 a2 : Option Addr) (w : World)  (hb : b = true) :
    Calls Tryz.prog 43 #[.agg (gv 1 s b n f (.slice a1 m1 c1) (.slice a2 m2 c2))] w fun e w' => e = .returned (.bool false) ∧ w.alloc (.cells (gv 1 s b n f (.slice a1 m1 c1) (.slice a2 m2 c2)) 27) = w' := by
  have h58 := Tryz.bits39
  subst hb
  go_enter Tryz.func43, Tryz.ntmps43
  go_wp2
  go_ret
  exact ⟨rfl, rfl⟩
set_option maxRecDepth 100000 in
theorem bare_1_n (s : ByteArray) (b : Bool) (n : Int) (f m1 m2 c1 c2 : Nat) (a1 a2 : Option Addr) (w : World) (hb : b = false) (hn : (n == 0) = false) :
    Calls Tryz.prog 43 #[.agg (gv 1 s b n f (.slice a1 m1 c1) (.slice a2 m2 c2))] w fun e w' => e = .returned (.bool false) ∧ w.alloc (.cells (gv 1 s b n f (.slice a1 m1 c1) (.slice a2 m2 c2)) 27) = w' := by
  have h58 := Tryz.bits39
  subst hb
  go_enter Tryz.func43, Tryz.ntmps43
  go_wp2
  go_ret
  exact ⟨rfl, rfl⟩
set_option maxRecDepth 100000 in
theorem bare_1_f (s : ByteArray) (b : Bool) (n : Int) (f m1 m2 c1 c2 : Nat) (a1 a2 : Option Addr) (w : World) (hb : b = false) (hn : (n == 0) = true) (hf : ((f : Int) == 0) = false) :
    Calls Tryz.prog 43 #[.agg (gv 1 s b n f (.slice a1 m1 c1) (.slice a2 m2 c2))] w fun e w' => e = .returned (.bool false) ∧ w.alloc (.cells (gv 1 s b n f (.slice a1 m1 c1) (.slice a2 m2 c2)) 27) = w' := by
  have h58 := Tryz.bits39
  subst hb
  go_enter Tryz.func43, Tryz.ntmps43
  go_wp2
  go_ret
  exact ⟨rfl, rfl⟩
set_option maxRecDepth 100000 in
theorem bare_1_l (s : ByteArray) (b : Bool) (n : Int) (f m1 m2 c1 c2 : Nat) (a1 a2 : Option Addr) (w : World) (hb : b = false) (hn : (n == 0) = true) (hf : ((f : Int) == 0) = true) (hl : ((m1 : Int) == 0) = false) :
    Calls Tryz.prog 43 #[.agg (gv 1 s b n f (.slice a1 m1 c1) (.slice a2 m2 c2))] w fun e w' => e = .returned (.bool false) ∧ w.alloc (.cells (gv 1 s b n f (.slice a1 m1 c1) (.slice a2 m2 c2)) 27) = w' := by
  have h58 := Tryz.bits39
  subst hb
  go_enter Tryz.func43, Tryz.ntmps43
  go_wp2
  go_ret
  exact ⟨rfl, rfl⟩
set_option maxRecDepth 100000 in
theorem bare_1_p (s : ByteArray) (b : Bool) (n : Int) (f m1 m2 c1 c2 : Nat) (a1 a2 : Option Addr) (w : World) (hb : b = false) (hn : (n == 0) = true) (hf : ((f : Int) == 0) = true) (hl : ((m1 : Int) == 0) = true) (hp : ((m2 : Int) == 0) = false) :
    Calls Tryz.prog 43 #[.agg (gv 1 s b n f (.slice a1 m1 c1) (.slice a2 m2 c2))] w fun e w' => e = .returned (.bool false) ∧ w.alloc (.cells (gv 1 s b n f (.slice a1 m1 c1) (.slice a2 m2 c2)) 27) = w' := by
  have h58 := Tryz.bits39
  subst hb
  go_enter Tryz.func43, Tryz.ntmps43
  go_wp2
  go_ret
  exact ⟨rfl, rfl⟩
set_option maxRecDepth 100000 in
theorem bare_1_ok (s : ByteArray) (b : Bool) (n : Int) (f m1 m2 c1 c2 : Nat) (a1 a2 : Option Addr) (w : World) (hb : b = false) (hn : (n == 0) = true) (hf : ((f : Int) == 0) = true) (hl : ((m1 : Int) == 0) = true) (hp : ((m2 : Int) == 0) = true) :
    Calls Tryz.prog 43 #[.agg (gv 1 s b n f (.slice a1 m1 c1) (.slice a2 m2 c2))] w fun e w' => e = .returned (.bool true) ∧ w.alloc (.cells (gv 1 s b n f (.slice a1 m1 c1) (.slice a2 m2 c2)) 27) = w' := by
  have h58 := Tryz.bits39
  subst hb
  go_enter Tryz.func43, Tryz.ntmps43
  go_wp2
  go_ret
  exact ⟨rfl, rfl⟩
set_option maxRecDepth 100000 in
theorem bare_2_s (s : ByteArray) (b : Bool) (n : Int) (f m1 m2 c1 c2 : Nat) (a1 a2 : Option Addr) (w : World)  (hs : s.toList.isEmpty = false) :
    Calls Tryz.prog 43 #[.agg (gv 2 s b n f (.slice a1 m1 c1) (.slice a2 m2 c2))] w fun e w' => e = .returned (.bool false) ∧ w.alloc (.cells (gv 2 s b n f (.slice a1 m1 c1) (.slice a2 m2 c2)) 27) = w' := by
  have h58 := Tryz.bits39
  skip
  go_enter Tryz.func43, Tryz.ntmps43
  go_wp2
  go_ret
  exact ⟨rfl, rfl⟩
set_option maxRecDepth 100000 in
theorem bare_2_n (s : ByteArray) (b : Bool) (n : Int) (f m1 m2 c1 c2 : Nat) (a1 a2 : Option Addr) (w : World) (hs : s.toList.isEmpty = true) (hn : (n == 0) = false) :
    Calls Tryz.prog 43 #[.agg (gv 2 s b n f (.slice a1 m1 c1) (.slice a2 m2 c2))] w fun e w' => e = .returned (.bool false) ∧ w.alloc (.cells (gv 2 s b n f (.slice a1 m1 c1) (.slice a2 m2 c2)) 27) = w' := by
  have h58 := Tryz.bits39
  skip
  go_enter Tryz.func43, Tryz.ntmps43
  go_wp2
  go_ret
  exact ⟨rfl, rfl⟩
set_option maxRecDepth 100000 in
theorem bare_2_f (s : ByteArray) (b : Bool) (n : Int) (f m1 m2 c1 c2 : Nat) (a1 a2 : Option Addr) (w : World) (hs : s.toList.isEmpty = true) (hn : (n == 0) = true) (hf : ((f : Int) == 0) = false) :
    Calls Tryz.prog 43 #[.agg (gv 2 s b n f (.slice a1 m1 c1) (.slice a2 m2 c2))] w fun e w' => e = .returned (.bool false) ∧ w.alloc (.cells (gv 2 s b n f (.slice a1 m1 c1) (.slice a2 m2 c2)) 27) = w' := by
  have h58 := Tryz.bits39
  skip
  go_enter Tryz.func43, Tryz.ntmps43
  go_wp2
  go_ret
  exact ⟨rfl, rfl⟩
set_option maxRecDepth 100000 in
theorem bare_2_l (s : ByteArray) (b : Bool) (n : Int) (f m1 m2 c1 c2 : Nat) (a1 a2 : Option Addr) (w : World) (hs : s.toList.isEmpty = true) (hn : (n == 0) = true) (hf : ((f : Int) == 0) = true) (hl : ((m1 : Int) == 0) = false) :
    Calls Tryz.prog 43 #[.agg (gv 2 s b n f (.slice a1 m1 c1) (.slice a2 m2 c2))] w fun e w' => e = .returned (.bool false) ∧ w.alloc (.cells (gv 2 s b n f (.slice a1 m1 c1) (.slice a2 m2 c2)) 27) = w' := by
  have h58 := Tryz.bits39
  skip
  go_enter Tryz.func43, Tryz.ntmps43
  go_wp2
  go_ret
  exact ⟨rfl, rfl⟩
set_option maxRecDepth 100000 in
theorem bare_2_p (s : ByteArray) (b : Bool) (n : Int) (f m1 m2 c1 c2 : Nat) (a1 a2 : Option Addr) (w : World) (hs : s.toList.isEmpty = true) (hn : (n == 0) = true) (hf : ((f : Int) == 0) = true) (hl : ((m1 : Int) == 0) = true) (hp : ((m2 : Int) == 0) = false) :
    Calls Tryz.prog 43 #[.agg (gv 2 s b n f (.slice a1 m1 c1) (.slice a2 m2 c2))] w fun e w' => e = .returned (.bool false) ∧ w.alloc (.cells (gv 2 s b n f (.slice a1 m1 c1) (.slice a2 m2 c2)) 27) = w' := by
  have h58 := Tryz.bits39
  skip
  go_enter Tryz.func43, Tryz.ntmps43
  go_wp2
  go_ret
  exact ⟨rfl, rfl⟩
set_option maxRecDepth 100000 in
theorem bare_2_ok (s : ByteArray) (b : Bool) (n : Int) (f m1 m2 c1 c2 : Nat) (a1 a2 : Option Addr) (w : World) (hs : s.toList.isEmpty = true) (hn : (n == 0) = true) (hf : ((f : Int) == 0) = true) (hl : ((m1 : Int) == 0) = true) (hp : ((m2 : Int) == 0) = true) :
    Calls Tryz.prog 43 #[.agg (gv 2 s b n f (.slice a1 m1 c1) (.slice a2 m2 c2))] w fun e w' => e = .returned (.bool true) ∧ w.alloc (.cells (gv 2 s b n f (.slice a1 m1 c1) (.slice a2 m2 c2)) 27) = w' := by
  have h58 := Tryz.bits39
  skip
  go_enter Tryz.func43, Tryz.ntmps43
  go_wp2
  go_ret
  exact ⟨rfl, rfl⟩
set_option maxRecDepth 100000 in
theorem bare_3_s (s : ByteArray) (b : Bool) (n : Int) (f m1 m2 c1 c2 : Nat) (a1 a2 : Option Addr) (w : World)  (hs : s.toList.isEmpty = false) :
    Calls Tryz.prog 43 #[.agg (gv 3 s b n f (.slice a1 m1 c1) (.slice a2 m2 c2))] w fun e w' => e = .returned (.bool false) ∧ w.alloc (.cells (gv 3 s b n f (.slice a1 m1 c1) (.slice a2 m2 c2)) 27) = w' := by
  have h58 := Tryz.bits39
  skip
  go_enter Tryz.func43, Tryz.ntmps43
  go_wp2
  go_ret
  exact ⟨rfl, rfl⟩
set_option maxRecDepth 100000 in
theorem bare_3_b (s : ByteArray) (b : Bool) (n : Int) (f m1 m2 c1 c2 : Nat) (a1 a2 : Option Addr) (w : World) (hs : s.toList.isEmpty = true) (hb : b = true) :
    Calls Tryz.prog 43 #[.agg (gv 3 s b n f (.slice a1 m1 c1) (.slice a2 m2 c2))] w fun e w' => e = .returned (.bool false) ∧ w.alloc (.cells (gv 3 s b n f (.slice a1 m1 c1) (.slice a2 m2 c2)) 27) = w' := by
  have h58 := Tryz.bits39
  subst hb
  go_enter Tryz.func43, Tryz.ntmps43
  go_wp2
  go_ret
  exact ⟨rfl, rfl⟩
set_option maxRecDepth 100000 in
theorem bare_3_f (s : ByteArray) (b : Bool) (n : Int) (f m1 m2 c1 c2 : Nat) (a1 a2 : Option Addr) (w : World) (hs : s.toList.isEmpty = true) (hb : b = false) (hf : ((f : Int) == 0) = false) :
    Calls Tryz.prog 43 #[.agg (gv 3 s b n f (.slice a1 m1 c1) (.slice a2 m2 c2))] w fun e w' => e = .returned (.bool false) ∧ w.alloc (.cells (gv 3 s b n f (.slice a1 m1 c1) (.slice a2 m2 c2)) 27) = w' := by
  have h58 := Tryz.bits39
  subst hb
  go_enter Tryz.func43, Tryz.ntmps43
  go_wp2
  go_ret
  exact ⟨rfl, rfl⟩
set_option maxRecDepth 100000 in
theorem bare_3_l (s : ByteArray) (b : Bool) (n : Int) (f m1 m2 c1 c2 : Nat) (a1 a2 : Option Addr) (w : World) (hs : s.toList.isEmpty = true) (hb : b = false) (hf : ((f : Int) == 0) = true) (hl : ((m1 : Int) == 0) = false) :
    Calls Tryz.prog 43 #[.agg (gv 3 s b n f (.slice a1 m1 c1) (.slice a2 m2 c2))] w fun e w' => e = .returned (.bool false) ∧ w.alloc (.cells (gv 3 s b n f (.slice a1 m1 c1) (.slice a2 m2 c2)) 27) = w' := by
  have h58 := Tryz.bits39
  subst hb
  go_enter Tryz.func43, Tryz.ntmps43
  go_wp2
  go_ret
  exact ⟨rfl, rfl⟩
set_option maxRecDepth 100000 in
theorem bare_3_p (s : ByteArray) (b : Bool) (n : Int) (f m1 m2 c1 c2 : Nat) (a1 a2 : Option Addr) (w : World) (hs : s.toList.isEmpty = true) (hb : b = false) (hf : ((f : Int) == 0) = true) (hl : ((m1 : Int) == 0) = true) (hp : ((m2 : Int) == 0) = false) :
    Calls Tryz.prog 43 #[.agg (gv 3 s b n f (.slice a1 m1 c1) (.slice a2 m2 c2))] w fun e w' => e = .returned (.bool false) ∧ w.alloc (.cells (gv 3 s b n f (.slice a1 m1 c1) (.slice a2 m2 c2)) 27) = w' := by
  have h58 := Tryz.bits39
  subst hb
  go_enter Tryz.func43, Tryz.ntmps43
  go_wp2
  go_ret
  exact ⟨rfl, rfl⟩
end Go.Proofs.YtnnnnlcpmocnfaaGreatDoor

/- THE LAW ValueHeld's isBare, WALKED. -/
namespace Go.Proofs.YtnnnnlcpmocnfaaGreatDoor
open Go.RowKit
set_option linter.unusedVariables false
set_option linter.unusedSimpArgs false
attribute [local go_sem] run_store_float

set_option maxRecDepth 100000 in
theorem bare_3_ok (s : ByteArray) (b : Bool) (n : Int) (f m1 m2 c1 c2 : Nat) (a1 a2 : Option Addr) (w : World) (hs : s.toList.isEmpty = true) (hb : b = false) (hf : ((f : Int) == 0) = true) (hl : ((m1 : Int) == 0) = true) (hp : ((m2 : Int) == 0) = true) :
    Calls Tryz.prog 43 #[.agg (gv 3 s b n f (.slice a1 m1 c1) (.slice a2 m2 c2))] w fun e w' => e = .returned (.bool true) ∧ w.alloc (.cells (gv 3 s b n f (.slice a1 m1 c1) (.slice a2 m2 c2)) 27) = w' := by
  have h58 := Tryz.bits39
  subst hb
  go_enter Tryz.func43, Tryz.ntmps43
  go_wp2
  go_ret
  exact ⟨rfl, rfl⟩
set_option maxRecDepth 100000 in
theorem bare_4_s (s : ByteArray) (b : Bool) (n : Int) (f m1 m2 c1 c2 : Nat) (a1 a2 : Option Addr) (w : World)  (hs : s.toList.isEmpty = false) :
    Calls Tryz.prog 43 #[.agg (gv 4 s b n f (.slice a1 m1 c1) (.slice a2 m2 c2))] w fun e w' => e = .returned (.bool false) ∧ w.alloc (.cells (gv 4 s b n f (.slice a1 m1 c1) (.slice a2 m2 c2)) 27) = w' := by
  have h58 := Tryz.bits39
  skip
  go_enter Tryz.func43, Tryz.ntmps43
  go_wp2
  go_ret
  exact ⟨rfl, rfl⟩
set_option maxRecDepth 100000 in
theorem bare_4_b (s : ByteArray) (b : Bool) (n : Int) (f m1 m2 c1 c2 : Nat) (a1 a2 : Option Addr) (w : World) (hs : s.toList.isEmpty = true) (hb : b = true) :
    Calls Tryz.prog 43 #[.agg (gv 4 s b n f (.slice a1 m1 c1) (.slice a2 m2 c2))] w fun e w' => e = .returned (.bool false) ∧ w.alloc (.cells (gv 4 s b n f (.slice a1 m1 c1) (.slice a2 m2 c2)) 27) = w' := by
  have h58 := Tryz.bits39
  subst hb
  go_enter Tryz.func43, Tryz.ntmps43
  go_wp2
  go_ret
  exact ⟨rfl, rfl⟩
set_option maxRecDepth 100000 in
theorem bare_4_n (s : ByteArray) (b : Bool) (n : Int) (f m1 m2 c1 c2 : Nat) (a1 a2 : Option Addr) (w : World) (hs : s.toList.isEmpty = true) (hb : b = false) (hn : (n == 0) = false) :
    Calls Tryz.prog 43 #[.agg (gv 4 s b n f (.slice a1 m1 c1) (.slice a2 m2 c2))] w fun e w' => e = .returned (.bool false) ∧ w.alloc (.cells (gv 4 s b n f (.slice a1 m1 c1) (.slice a2 m2 c2)) 27) = w' := by
  have h58 := Tryz.bits39
  subst hb
  go_enter Tryz.func43, Tryz.ntmps43
  go_wp2
  go_ret
  exact ⟨rfl, rfl⟩
set_option maxRecDepth 100000 in
theorem bare_4_l (s : ByteArray) (b : Bool) (n : Int) (f m1 m2 c1 c2 : Nat) (a1 a2 : Option Addr) (w : World) (hs : s.toList.isEmpty = true) (hb : b = false) (hn : (n == 0) = true) (hl : ((m1 : Int) == 0) = false) :
    Calls Tryz.prog 43 #[.agg (gv 4 s b n f (.slice a1 m1 c1) (.slice a2 m2 c2))] w fun e w' => e = .returned (.bool false) ∧ w.alloc (.cells (gv 4 s b n f (.slice a1 m1 c1) (.slice a2 m2 c2)) 27) = w' := by
  have h58 := Tryz.bits39
  subst hb
  go_enter Tryz.func43, Tryz.ntmps43
  go_wp2
  go_ret
  exact ⟨rfl, rfl⟩
set_option maxRecDepth 100000 in
theorem bare_4_p (s : ByteArray) (b : Bool) (n : Int) (f m1 m2 c1 c2 : Nat) (a1 a2 : Option Addr) (w : World) (hs : s.toList.isEmpty = true) (hb : b = false) (hn : (n == 0) = true) (hl : ((m1 : Int) == 0) = true) (hp : ((m2 : Int) == 0) = false) :
    Calls Tryz.prog 43 #[.agg (gv 4 s b n f (.slice a1 m1 c1) (.slice a2 m2 c2))] w fun e w' => e = .returned (.bool false) ∧ w.alloc (.cells (gv 4 s b n f (.slice a1 m1 c1) (.slice a2 m2 c2)) 27) = w' := by
  have h58 := Tryz.bits39
  subst hb
  go_enter Tryz.func43, Tryz.ntmps43
  go_wp2
  go_ret
  exact ⟨rfl, rfl⟩
set_option maxRecDepth 100000 in
theorem bare_4_ok (s : ByteArray) (b : Bool) (n : Int) (f m1 m2 c1 c2 : Nat) (a1 a2 : Option Addr) (w : World) (hs : s.toList.isEmpty = true) (hb : b = false) (hn : (n == 0) = true) (hl : ((m1 : Int) == 0) = true) (hp : ((m2 : Int) == 0) = true) :
    Calls Tryz.prog 43 #[.agg (gv 4 s b n f (.slice a1 m1 c1) (.slice a2 m2 c2))] w fun e w' => e = .returned (.bool true) ∧ w.alloc (.cells (gv 4 s b n f (.slice a1 m1 c1) (.slice a2 m2 c2)) 27) = w' := by
  have h58 := Tryz.bits39
  subst hb
  go_enter Tryz.func43, Tryz.ntmps43
  go_wp2
  go_ret
  exact ⟨rfl, rfl⟩
set_option maxRecDepth 100000 in
theorem bare_5_s (s : ByteArray) (b : Bool) (n : Int) (f m1 m2 c1 c2 : Nat) (a1 a2 : Option Addr) (w : World)  (hs : s.toList.isEmpty = false) :
    Calls Tryz.prog 43 #[.agg (gv 5 s b n f (.slice a1 m1 c1) (.slice a2 m2 c2))] w fun e w' => e = .returned (.bool false) ∧ w.alloc (.cells (gv 5 s b n f (.slice a1 m1 c1) (.slice a2 m2 c2)) 27) = w' := by
  have h58 := Tryz.bits39
  skip
  go_enter Tryz.func43, Tryz.ntmps43
  go_wp2
  go_ret
  exact ⟨rfl, rfl⟩
set_option maxRecDepth 100000 in
theorem bare_5_b (s : ByteArray) (b : Bool) (n : Int) (f m1 m2 c1 c2 : Nat) (a1 a2 : Option Addr) (w : World) (hs : s.toList.isEmpty = true) (hb : b = true) :
    Calls Tryz.prog 43 #[.agg (gv 5 s b n f (.slice a1 m1 c1) (.slice a2 m2 c2))] w fun e w' => e = .returned (.bool false) ∧ w.alloc (.cells (gv 5 s b n f (.slice a1 m1 c1) (.slice a2 m2 c2)) 27) = w' := by
  have h58 := Tryz.bits39
  subst hb
  go_enter Tryz.func43, Tryz.ntmps43
  go_wp2
  go_ret
  exact ⟨rfl, rfl⟩
set_option maxRecDepth 100000 in
theorem bare_5_n (s : ByteArray) (b : Bool) (n : Int) (f m1 m2 c1 c2 : Nat) (a1 a2 : Option Addr) (w : World) (hs : s.toList.isEmpty = true) (hb : b = false) (hn : (n == 0) = false) :
    Calls Tryz.prog 43 #[.agg (gv 5 s b n f (.slice a1 m1 c1) (.slice a2 m2 c2))] w fun e w' => e = .returned (.bool false) ∧ w.alloc (.cells (gv 5 s b n f (.slice a1 m1 c1) (.slice a2 m2 c2)) 27) = w' := by
  have h58 := Tryz.bits39
  subst hb
  go_enter Tryz.func43, Tryz.ntmps43
  go_wp2
  go_ret
  exact ⟨rfl, rfl⟩
set_option maxRecDepth 100000 in
theorem bare_5_f (s : ByteArray) (b : Bool) (n : Int) (f m1 m2 c1 c2 : Nat) (a1 a2 : Option Addr) (w : World) (hs : s.toList.isEmpty = true) (hb : b = false) (hn : (n == 0) = true) (hf : ((f : Int) == 0) = false) :
    Calls Tryz.prog 43 #[.agg (gv 5 s b n f (.slice a1 m1 c1) (.slice a2 m2 c2))] w fun e w' => e = .returned (.bool false) ∧ w.alloc (.cells (gv 5 s b n f (.slice a1 m1 c1) (.slice a2 m2 c2)) 27) = w' := by
  have h58 := Tryz.bits39
  subst hb
  go_enter Tryz.func43, Tryz.ntmps43
  go_wp2
  go_ret
  exact ⟨rfl, rfl⟩
set_option maxRecDepth 100000 in
theorem bare_5_p (s : ByteArray) (b : Bool) (n : Int) (f m1 m2 c1 c2 : Nat) (a1 a2 : Option Addr) (w : World) (hs : s.toList.isEmpty = true) (hb : b = false) (hn : (n == 0) = true) (hf : ((f : Int) == 0) = true) (hp : ((m2 : Int) == 0) = false) :
    Calls Tryz.prog 43 #[.agg (gv 5 s b n f (.slice a1 m1 c1) (.slice a2 m2 c2))] w fun e w' => e = .returned (.bool false) ∧ w.alloc (.cells (gv 5 s b n f (.slice a1 m1 c1) (.slice a2 m2 c2)) 27) = w' := by
  have h58 := Tryz.bits39
  subst hb
  go_enter Tryz.func43, Tryz.ntmps43
  go_wp2
  go_ret
  exact ⟨rfl, rfl⟩
set_option maxRecDepth 100000 in
theorem bare_5_ok (s : ByteArray) (b : Bool) (n : Int) (f m1 m2 c1 c2 : Nat) (a1 a2 : Option Addr) (w : World) (hs : s.toList.isEmpty = true) (hb : b = false) (hn : (n == 0) = true) (hf : ((f : Int) == 0) = true) (hp : ((m2 : Int) == 0) = true) :
    Calls Tryz.prog 43 #[.agg (gv 5 s b n f (.slice a1 m1 c1) (.slice a2 m2 c2))] w fun e w' => e = .returned (.bool true) ∧ w.alloc (.cells (gv 5 s b n f (.slice a1 m1 c1) (.slice a2 m2 c2)) 27) = w' := by
  have h58 := Tryz.bits39
  subst hb
  go_enter Tryz.func43, Tryz.ntmps43
  go_wp2
  go_ret
  exact ⟨rfl, rfl⟩
set_option maxRecDepth 100000 in
theorem bare_6_s (s : ByteArray) (b : Bool) (n : Int) (f m1 m2 c1 c2 : Nat) (a1 a2 : Option Addr) (w : World)  (hs : s.toList.isEmpty = false) :
    Calls Tryz.prog 43 #[.agg (gv 6 s b n f (.slice a1 m1 c1) (.slice a2 m2 c2))] w fun e w' => e = .returned (.bool false) ∧ w.alloc (.cells (gv 6 s b n f (.slice a1 m1 c1) (.slice a2 m2 c2)) 27) = w' := by
  have h58 := Tryz.bits39
  skip
  go_enter Tryz.func43, Tryz.ntmps43
  go_wp2
  go_ret
  exact ⟨rfl, rfl⟩
set_option maxRecDepth 100000 in
theorem bare_6_b (s : ByteArray) (b : Bool) (n : Int) (f m1 m2 c1 c2 : Nat) (a1 a2 : Option Addr) (w : World) (hs : s.toList.isEmpty = true) (hb : b = true) :
    Calls Tryz.prog 43 #[.agg (gv 6 s b n f (.slice a1 m1 c1) (.slice a2 m2 c2))] w fun e w' => e = .returned (.bool false) ∧ w.alloc (.cells (gv 6 s b n f (.slice a1 m1 c1) (.slice a2 m2 c2)) 27) = w' := by
  have h58 := Tryz.bits39
  subst hb
  go_enter Tryz.func43, Tryz.ntmps43
  go_wp2
  go_ret
  exact ⟨rfl, rfl⟩
set_option maxRecDepth 100000 in
theorem bare_6_n (s : ByteArray) (b : Bool) (n : Int) (f m1 m2 c1 c2 : Nat) (a1 a2 : Option Addr) (w : World) (hs : s.toList.isEmpty = true) (hb : b = false) (hn : (n == 0) = false) :
    Calls Tryz.prog 43 #[.agg (gv 6 s b n f (.slice a1 m1 c1) (.slice a2 m2 c2))] w fun e w' => e = .returned (.bool false) ∧ w.alloc (.cells (gv 6 s b n f (.slice a1 m1 c1) (.slice a2 m2 c2)) 27) = w' := by
  have h58 := Tryz.bits39
  subst hb
  go_enter Tryz.func43, Tryz.ntmps43
  go_wp2
  go_ret
  exact ⟨rfl, rfl⟩
set_option maxRecDepth 100000 in
theorem bare_6_f (s : ByteArray) (b : Bool) (n : Int) (f m1 m2 c1 c2 : Nat) (a1 a2 : Option Addr) (w : World) (hs : s.toList.isEmpty = true) (hb : b = false) (hn : (n == 0) = true) (hf : ((f : Int) == 0) = false) :
    Calls Tryz.prog 43 #[.agg (gv 6 s b n f (.slice a1 m1 c1) (.slice a2 m2 c2))] w fun e w' => e = .returned (.bool false) ∧ w.alloc (.cells (gv 6 s b n f (.slice a1 m1 c1) (.slice a2 m2 c2)) 27) = w' := by
  have h58 := Tryz.bits39
  subst hb
  go_enter Tryz.func43, Tryz.ntmps43
  go_wp2
  go_ret
  exact ⟨rfl, rfl⟩
set_option maxRecDepth 100000 in
theorem bare_6_l (s : ByteArray) (b : Bool) (n : Int) (f m1 m2 c1 c2 : Nat) (a1 a2 : Option Addr) (w : World) (hs : s.toList.isEmpty = true) (hb : b = false) (hn : (n == 0) = true) (hf : ((f : Int) == 0) = true) (hl : ((m1 : Int) == 0) = false) :
    Calls Tryz.prog 43 #[.agg (gv 6 s b n f (.slice a1 m1 c1) (.slice a2 m2 c2))] w fun e w' => e = .returned (.bool false) ∧ w.alloc (.cells (gv 6 s b n f (.slice a1 m1 c1) (.slice a2 m2 c2)) 27) = w' := by
  have h58 := Tryz.bits39
  subst hb
  go_enter Tryz.func43, Tryz.ntmps43
  go_wp2
  go_ret
  exact ⟨rfl, rfl⟩
set_option maxRecDepth 100000 in
theorem bare_6_ok (s : ByteArray) (b : Bool) (n : Int) (f m1 m2 c1 c2 : Nat) (a1 a2 : Option Addr) (w : World) (hs : s.toList.isEmpty = true) (hb : b = false) (hn : (n == 0) = true) (hf : ((f : Int) == 0) = true) (hl : ((m1 : Int) == 0) = true) :
    Calls Tryz.prog 43 #[.agg (gv 6 s b n f (.slice a1 m1 c1) (.slice a2 m2 c2))] w fun e w' => e = .returned (.bool true) ∧ w.alloc (.cells (gv 6 s b n f (.slice a1 m1 c1) (.slice a2 m2 c2)) 27) = w' := by
  have h58 := Tryz.bits39
  subst hb
  go_enter Tryz.func43, Tryz.ntmps43
  go_wp2
  go_ret
  exact ⟨rfl, rfl⟩
set_option maxRecDepth 100000 in
theorem bare_7_b (s : ByteArray) (b : Bool) (n : Int) (f m1 m2 c1 c2 : Nat) (a1 a2 : Option Addr) (w : World)  (hb : b = true) :
    Calls Tryz.prog 43 #[.agg (gv 7 s b n f (.slice a1 m1 c1) (.slice a2 m2 c2))] w fun e w' => e = .returned (.bool false) ∧ w.alloc (.cells (gv 7 s b n f (.slice a1 m1 c1) (.slice a2 m2 c2)) 27) = w' := by
  have h58 := Tryz.bits39
  subst hb
  go_enter Tryz.func43, Tryz.ntmps43
  go_wp2
  go_ret
  exact ⟨rfl, rfl⟩
set_option maxRecDepth 100000 in
theorem bare_7_n (s : ByteArray) (b : Bool) (n : Int) (f m1 m2 c1 c2 : Nat) (a1 a2 : Option Addr) (w : World) (hb : b = false) (hn : (n == 0) = false) :
    Calls Tryz.prog 43 #[.agg (gv 7 s b n f (.slice a1 m1 c1) (.slice a2 m2 c2))] w fun e w' => e = .returned (.bool false) ∧ w.alloc (.cells (gv 7 s b n f (.slice a1 m1 c1) (.slice a2 m2 c2)) 27) = w' := by
  have h58 := Tryz.bits39
  subst hb
  go_enter Tryz.func43, Tryz.ntmps43
  go_wp2
  go_ret
  exact ⟨rfl, rfl⟩
set_option maxRecDepth 100000 in
theorem bare_7_f (s : ByteArray) (b : Bool) (n : Int) (f m1 m2 c1 c2 : Nat) (a1 a2 : Option Addr) (w : World) (hb : b = false) (hn : (n == 0) = true) (hf : ((f : Int) == 0) = false) :
    Calls Tryz.prog 43 #[.agg (gv 7 s b n f (.slice a1 m1 c1) (.slice a2 m2 c2))] w fun e w' => e = .returned (.bool false) ∧ w.alloc (.cells (gv 7 s b n f (.slice a1 m1 c1) (.slice a2 m2 c2)) 27) = w' := by
  have h58 := Tryz.bits39
  subst hb
  go_enter Tryz.func43, Tryz.ntmps43
  go_wp2
  go_ret
  exact ⟨rfl, rfl⟩
set_option maxRecDepth 100000 in
theorem bare_7_l (s : ByteArray) (b : Bool) (n : Int) (f m1 m2 c1 c2 : Nat) (a1 a2 : Option Addr) (w : World) (hb : b = false) (hn : (n == 0) = true) (hf : ((f : Int) == 0) = true) (hl : ((m1 : Int) == 0) = false) :
    Calls Tryz.prog 43 #[.agg (gv 7 s b n f (.slice a1 m1 c1) (.slice a2 m2 c2))] w fun e w' => e = .returned (.bool false) ∧ w.alloc (.cells (gv 7 s b n f (.slice a1 m1 c1) (.slice a2 m2 c2)) 27) = w' := by
  have h58 := Tryz.bits39
  subst hb
  go_enter Tryz.func43, Tryz.ntmps43
  go_wp2
  go_ret
  exact ⟨rfl, rfl⟩
set_option maxRecDepth 100000 in
theorem bare_7_p (s : ByteArray) (b : Bool) (n : Int) (f m1 m2 c1 c2 : Nat) (a1 a2 : Option Addr) (w : World) (hb : b = false) (hn : (n == 0) = true) (hf : ((f : Int) == 0) = true) (hl : ((m1 : Int) == 0) = true) (hp : ((m2 : Int) == 0) = false) :
    Calls Tryz.prog 43 #[.agg (gv 7 s b n f (.slice a1 m1 c1) (.slice a2 m2 c2))] w fun e w' => e = .returned (.bool false) ∧ w.alloc (.cells (gv 7 s b n f (.slice a1 m1 c1) (.slice a2 m2 c2)) 27) = w' := by
  have h58 := Tryz.bits39
  subst hb
  go_enter Tryz.func43, Tryz.ntmps43
  go_wp2
  go_ret
  exact ⟨rfl, rfl⟩
set_option maxRecDepth 100000 in
theorem bare_7_ok (s : ByteArray) (b : Bool) (n : Int) (f m1 m2 c1 c2 : Nat) (a1 a2 : Option Addr) (w : World) (hb : b = false) (hn : (n == 0) = true) (hf : ((f : Int) == 0) = true) (hl : ((m1 : Int) == 0) = true) (hp : ((m2 : Int) == 0) = true) :
    Calls Tryz.prog 43 #[.agg (gv 7 s b n f (.slice a1 m1 c1) (.slice a2 m2 c2))] w fun e w' => e = .returned (.bool true) ∧ w.alloc (.cells (gv 7 s b n f (.slice a1 m1 c1) (.slice a2 m2 c2)) 27) = w' := by
  have h58 := Tryz.bits39
  subst hb
  go_enter Tryz.func43, Tryz.ntmps43
  go_wp2
  go_ret
  exact ⟨rfl, rfl⟩
end Go.Proofs.YtnnnnlcpmocnfaaGreatDoor

/- THE LAW ValueHeld's isBare, WALKED. -/
namespace Go.Proofs.YtnnnnlcpmocnfaaGreatDoor
open Go.RowKit
set_option linter.unusedVariables false
set_option linter.unusedSimpArgs false
attribute [local go_sem] run_store_float


/-- has a value nothing but what its kind has -/
def bareB (x : V) : Bool := decide (x.k < 8) && ((x.k == 1 || x.k == 7) || x.s.toList.isEmpty) && (x.k == 2 || !x.b) && (x.k == 3 || x.n == 0) && (x.k == 4 || x.f == 0) && (x.k == 5 || x.l.isEmpty) && (x.k == 6 || x.p.isEmpty)
theorem bare_8 (k : Int) (hk : 8 ≤ k) (s : ByteArray) (b : Bool) (n : Int) (f m1 m2 c1 c2 : Nat) (a1 a2 : Option Addr) (w : World) :
    Calls Tryz.prog 43 #[.agg (gv k s b n f (.slice a1 m1 c1) (.slice a2 m2 c2))] w fun e w' => e = .returned (.bool false) ∧ w.alloc (.cells (gv k s b n f (.slice a1 m1 c1) (.slice a2 m2 c2)) 27) = w' := by
  have h8 : decide (k < 8) = false := by simp; omega
  go_enter Tryz.func43, Tryz.ntmps43
  go_wp2
  go_ret
  exact ⟨rfl, rfl⟩
theorem nat_zero (m : Nat) : ((m : Int) == 0) = (m == 0) := by cases m <;> simp <;> omega
theorem isEmpty_len {α : Type} (l : List α) : l.isEmpty = (l.length == 0) := by cases l <;> simp

theorem bare_any (x : V) (hf : FitV x) (c1 c2 : Nat) (a1 a2 : Option Addr) (w : World) :
    Calls Tryz.prog 43 #[.agg (cv x (.slice a1 x.l.length c1) (.slice a2 x.p.length c2))] w fun e w' => e = .returned (.bool (bareB x)) ∧ w.alloc (.cells (cv x (.slice a1 x.l.length c1) (.slice a2 x.p.length c2)) 27) = w' := by
  have k0 := hf.k0
  obtain ⟨k, s, b, n, f, l, p⟩ := x
  show Calls Tryz.prog 43 #[.agg (gv k s b n f (.slice a1 l.length c1) (.slice a2 p.length c2))] w fun e w' => e = .returned (.bool (bareB (.mk k s b n f l p))) ∧ w.alloc (.cells (gv k s b n f (.slice a1 l.length c1) (.slice a2 p.length c2)) 27) = w'
  have k0' : 0 ≤ k := k0
  clear k0 hf
  unfold bareB V.k V.s V.b V.n V.f V.l V.p
  simp only [isEmpty_len l, isEmpty_len p]
  rw [← nat_zero l.length, ← nat_zero p.length, ← nat_zero f]
  generalize l.length = m1
  generalize p.length = m2
  by_cases h8 : 8 ≤ k
  · have e : decide (k < 8) = false := by simp; omega
    rw [e]
    exact bare_8 k h8 s b n f m1 m2 c1 c2 a1 a2 w
  have hk : k = 0 ∨ k = 1 ∨ k = 2 ∨ k = 3 ∨ k = 4 ∨ k = 5 ∨ k = 6 ∨ k = 7 := by omega
  clear h8 k0'
  rcases hk with rfl | rfl | rfl | rfl | rfl | rfl | rfl | rfl
  · cases hs : s.toList.isEmpty
    · simpa [hs] using bare_0_s s b n f m1 m2 c1 c2 a1 a2 w hs
    · cases hb : b
      · cases hn : (n == 0)
        · simpa [hs, hb, hn] using bare_0_n s b n f m1 m2 c1 c2 a1 a2 w hs hb hn
        · cases hf : ((f : Int) == 0)
          · simpa [hs, hb, hn, hf] using bare_0_f s b n f m1 m2 c1 c2 a1 a2 w hs hb hn hf
          · cases hl : ((m1 : Int) == 0)
            · simpa [hs, hb, hn, hf, hl] using bare_0_l s b n f m1 m2 c1 c2 a1 a2 w hs hb hn hf hl
            · cases hp : ((m2 : Int) == 0)
              · simpa [hs, hb, hn, hf, hl, hp] using bare_0_p s b n f m1 m2 c1 c2 a1 a2 w hs hb hn hf hl hp
              · simpa [hs, hb, hn, hf, hl, hp] using bare_0_ok s b n f m1 m2 c1 c2 a1 a2 w hs hb hn hf hl hp
      · simpa [hs, hb] using bare_0_b s b n f m1 m2 c1 c2 a1 a2 w hs hb
  · cases hb : b
    · cases hn : (n == 0)
      · simpa [hb, hn] using bare_1_n s b n f m1 m2 c1 c2 a1 a2 w hb hn
      · cases hf : ((f : Int) == 0)
        · simpa [hb, hn, hf] using bare_1_f s b n f m1 m2 c1 c2 a1 a2 w hb hn hf
        · cases hl : ((m1 : Int) == 0)
          · simpa [hb, hn, hf, hl] using bare_1_l s b n f m1 m2 c1 c2 a1 a2 w hb hn hf hl
          · cases hp : ((m2 : Int) == 0)
            · simpa [hb, hn, hf, hl, hp] using bare_1_p s b n f m1 m2 c1 c2 a1 a2 w hb hn hf hl hp
            · simpa [hb, hn, hf, hl, hp] using bare_1_ok s b n f m1 m2 c1 c2 a1 a2 w hb hn hf hl hp
    · simpa [hb] using bare_1_b s b n f m1 m2 c1 c2 a1 a2 w hb
  · cases hs : s.toList.isEmpty
    · simpa [hs] using bare_2_s s b n f m1 m2 c1 c2 a1 a2 w hs
    · cases hn : (n == 0)
      · simpa [hs, hn] using bare_2_n s b n f m1 m2 c1 c2 a1 a2 w hs hn
      · cases hf : ((f : Int) == 0)
        · simpa [hs, hn, hf] using bare_2_f s b n f m1 m2 c1 c2 a1 a2 w hs hn hf
        · cases hl : ((m1 : Int) == 0)
          · simpa [hs, hn, hf, hl] using bare_2_l s b n f m1 m2 c1 c2 a1 a2 w hs hn hf hl
          · cases hp : ((m2 : Int) == 0)
            · simpa [hs, hn, hf, hl, hp] using bare_2_p s b n f m1 m2 c1 c2 a1 a2 w hs hn hf hl hp
            · simpa [hs, hn, hf, hl, hp] using bare_2_ok s b n f m1 m2 c1 c2 a1 a2 w hs hn hf hl hp
  · cases hs : s.toList.isEmpty
    · simpa [hs] using bare_3_s s b n f m1 m2 c1 c2 a1 a2 w hs
    · cases hb : b
      · cases hf : ((f : Int) == 0)
        · simpa [hs, hb, hf] using bare_3_f s b n f m1 m2 c1 c2 a1 a2 w hs hb hf
        · cases hl : ((m1 : Int) == 0)
          · simpa [hs, hb, hf, hl] using bare_3_l s b n f m1 m2 c1 c2 a1 a2 w hs hb hf hl
          · cases hp : ((m2 : Int) == 0)
            · simpa [hs, hb, hf, hl, hp] using bare_3_p s b n f m1 m2 c1 c2 a1 a2 w hs hb hf hl hp
            · simpa [hs, hb, hf, hl, hp] using bare_3_ok s b n f m1 m2 c1 c2 a1 a2 w hs hb hf hl hp
      · simpa [hs, hb] using bare_3_b s b n f m1 m2 c1 c2 a1 a2 w hs hb
  · cases hs : s.toList.isEmpty
    · simpa [hs] using bare_4_s s b n f m1 m2 c1 c2 a1 a2 w hs
    · cases hb : b
      · cases hn : (n == 0)
        · simpa [hs, hb, hn] using bare_4_n s b n f m1 m2 c1 c2 a1 a2 w hs hb hn
        · cases hl : ((m1 : Int) == 0)
          · simpa [hs, hb, hn, hl] using bare_4_l s b n f m1 m2 c1 c2 a1 a2 w hs hb hn hl
          · cases hp : ((m2 : Int) == 0)
            · simpa [hs, hb, hn, hl, hp] using bare_4_p s b n f m1 m2 c1 c2 a1 a2 w hs hb hn hl hp
            · simpa [hs, hb, hn, hl, hp] using bare_4_ok s b n f m1 m2 c1 c2 a1 a2 w hs hb hn hl hp
      · simpa [hs, hb] using bare_4_b s b n f m1 m2 c1 c2 a1 a2 w hs hb
  · cases hs : s.toList.isEmpty
    · simpa [hs] using bare_5_s s b n f m1 m2 c1 c2 a1 a2 w hs
    · cases hb : b
      · cases hn : (n == 0)
        · simpa [hs, hb, hn] using bare_5_n s b n f m1 m2 c1 c2 a1 a2 w hs hb hn
        · cases hf : ((f : Int) == 0)
          · simpa [hs, hb, hn, hf] using bare_5_f s b n f m1 m2 c1 c2 a1 a2 w hs hb hn hf
          · cases hp : ((m2 : Int) == 0)
            · simpa [hs, hb, hn, hf, hp] using bare_5_p s b n f m1 m2 c1 c2 a1 a2 w hs hb hn hf hp
            · simpa [hs, hb, hn, hf, hp] using bare_5_ok s b n f m1 m2 c1 c2 a1 a2 w hs hb hn hf hp
      · simpa [hs, hb] using bare_5_b s b n f m1 m2 c1 c2 a1 a2 w hs hb
  · cases hs : s.toList.isEmpty
    · simpa [hs] using bare_6_s s b n f m1 m2 c1 c2 a1 a2 w hs
    · cases hb : b
      · cases hn : (n == 0)
        · simpa [hs, hb, hn] using bare_6_n s b n f m1 m2 c1 c2 a1 a2 w hs hb hn
        · cases hf : ((f : Int) == 0)
          · simpa [hs, hb, hn, hf] using bare_6_f s b n f m1 m2 c1 c2 a1 a2 w hs hb hn hf
          · cases hl : ((m1 : Int) == 0)
            · simpa [hs, hb, hn, hf, hl] using bare_6_l s b n f m1 m2 c1 c2 a1 a2 w hs hb hn hf hl
            · simpa [hs, hb, hn, hf, hl] using bare_6_ok s b n f m1 m2 c1 c2 a1 a2 w hs hb hn hf hl
      · simpa [hs, hb] using bare_6_b s b n f m1 m2 c1 c2 a1 a2 w hs hb
  · cases hb : b
    · cases hn : (n == 0)
      · simpa [hb, hn] using bare_7_n s b n f m1 m2 c1 c2 a1 a2 w hb hn
      · cases hf : ((f : Int) == 0)
        · simpa [hb, hn, hf] using bare_7_f s b n f m1 m2 c1 c2 a1 a2 w hb hn hf
        · cases hl : ((m1 : Int) == 0)
          · simpa [hb, hn, hf, hl] using bare_7_l s b n f m1 m2 c1 c2 a1 a2 w hb hn hf hl
          · cases hp : ((m2 : Int) == 0)
            · simpa [hb, hn, hf, hl, hp] using bare_7_p s b n f m1 m2 c1 c2 a1 a2 w hb hn hf hl hp
            · simpa [hb, hn, hf, hl, hp] using bare_7_ok s b n f m1 m2 c1 c2 a1 a2 w hb hn hf hl hp
    · simpa [hb] using bare_7_b s b n f m1 m2 c1 c2 a1 a2 w hb
end Go.Proofs.YtnnnnlcpmocnfaaGreatDoor
