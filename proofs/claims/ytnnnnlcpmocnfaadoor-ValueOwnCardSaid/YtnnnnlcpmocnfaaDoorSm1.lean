/- THE WALKS OVER Same AND SamePairs, ahead. -/
import Derived.Test.YtnnnnlcpmocnfaaDoorVm
import Derived.StillTailTactics
import Derived.Deep.RegionHeld3
import Derived.BigQuiet
import Derived.Deep.QuietTactic
import Derived.WalkLawsBesides
namespace Go.Proofs.YtnnnnlcpmocnfaaDoor
open Go.RowKit
set_option linter.unusedVariables false
set_option linter.unusedSimpArgs false
attribute [local go_sem] run_store_float


/-- Same of two values, by function F -/
def SameC (F : Nat) (x y : V) : Prop := ∀ (w : World) (q1 q2 r1 r2 : Value), Rep Any w q1 q2 x → Rep Any w r1 r2 y →
  Calls Tryd.prog F #[.agg (cv x q1 q2), .agg (cv y r1 r2)] w fun e w' => e = .returned (.bool (one x y)) ∧ Below w.heap.size w w'
/-- SamePairs of two lists, by function F -/
def SamePC (F : Nat) (x y : List (ByteArray × V)) : Prop := ∀ (w : World) (q r : Value), RepP Any w q x → RepP Any w r y →
  Calls Tryd.prog F #[q, r] w fun e w' => e = .returned (.bool (oneP x y)) ∧ Below w.heap.size w w'
theorem all_same {α : Type} {x y : List α} (hl : x.length = y.length) (h : ∀ j, j < x.length → x[j]? = y[j]?) : x = y := by
  apply List.ext_getElem? 
  intro i
  by_cases hi : i < x.length
  · exact h i hi
  · rw [List.getElem?_eq_none (by omega), List.getElem?_eq_none (by omega)]
theorem str_ne {a b : ByteArray} (h : a ≠ b) : (a.toList == b.toList) = false := by
  apply beq_eq_false_iff_ne.2
  intro e
  rw [Go.ByteArray.toList_eq, Go.ByteArray.toList_eq] at e
  exact h (ByteArray.ext (Array.toList_inj.1 e))

set_option maxRecDepth 100000 in
set_option maxHeartbeats 4000000 in
theorem rsp_len (x y : List (ByteArray × V)) (hne : x.length ≠ y.length) : SamePC 23 x y := by
  intro w q r hq hr
  obtain ⟨ad, cap, rfl, hl1⟩ := hq.form
  obtain ⟨ad', cap', rfl, hl2⟩ := hr.form
  have e := oneP_no (x := x) (y := y) (fun e => hne (by rw [e]))
  rw [e]
  have hnm : (((x.length : Nat) : Int) != ((y.length : Nat) : Int)) = true := by simp; omega
  clear hq hr e hne
  generalize x.length = n at *
  generalize y.length = m at *
  go_enter Tryd.func23, Tryd.ntmps23
  go_wp2
  go_ret
  exact ⟨rfl, Below.refl _ _⟩
set_option maxRecDepth 100000 in
set_option maxHeartbeats 4000000 in
theorem sp_len (x y : List (ByteArray × V)) (hne : x.length ≠ y.length) : SamePC 22 x y := by
  intro w q r hq hr
  obtain ⟨ad, cap, rfl, hl1⟩ := hq.form
  obtain ⟨ad', cap', rfl, hl2⟩ := hr.form
  have e := oneP_no (x := x) (y := y) (fun e => hne (by rw [e]))
  rw [e]
  have hnm : (((x.length : Nat) : Int) != ((y.length : Nat) : Int)) = true := by simp; omega
  clear hq hr e hne
  generalize x.length = n at *
  generalize y.length = m at *
  go_enter Tryd.func22, Tryd.ntmps22
  go_wp2
  go_ret
  exact ⟨rfl, Below.refl _ _⟩
end Go.Proofs.YtnnnnlcpmocnfaaDoor
