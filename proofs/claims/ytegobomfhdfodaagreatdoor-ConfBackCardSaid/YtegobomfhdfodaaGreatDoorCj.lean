/- CONF: THE WALKS OVER says, isLong. -/
import Derived.Test.YtegobomfhdfodaaGreatDoorCi
namespace Go.Proofs.YtegobomfhdfodaaGreatDoor
open Go.RowKit
set_option maxRecDepth 100000
set_option linter.unusedVariables false
set_option linter.unusedSimpArgs false

namespace K
/-- whether a line says something -/
def says (l : T) : Bool :=
  match bare l with
  | [] => false
  | x :: _ => !(x == 35)
end K
theorem says_any (l : K.T) (w : World) : Calls Tryz.prog 47 #[S l] w fun e w' => e = .returned (.bool (K.says l)) ∧ w = w' := by
  have ht := fun w => trim_any w l
  unfold K.says
  obtain ⟨u, hu⟩ : ∃ u, K.bare l = u := ⟨_, rfl⟩
  simp only [hu] at ht ⊢
  clear hu
  cases u with
  | nil =>
    go_enter Tryz.func47, Tryz.ntmps47
    go_wp2_with (refine (ht _).mono ?_; rintro e w1 ⟨rfl, rfl⟩)
    go_ret
    exact ⟨rfl, rfl⟩
  | cons x t =>
    have he : ((x.toNat : Int) == 35) = (x == 35) := by
      by_cases h : x = 35
      · subst h; rfl
      · have hn : ¬ (x.toNat : Int) = 35 := fun e => h (UInt8.toNat_inj.1 (by show x.toNat = 35; omega))
        rw [beq_eq_false_iff_ne.2 hn, beq_eq_false_iff_ne.2 h]
    simp only
    obtain ⟨b, hb⟩ : ∃ b, (x == 35) = b := ⟨_, rfl⟩
    rw [hb] at he ⊢
    go_enter Tryz.func47, Tryz.ntmps47
    go_wp2_with (refine (ht _).mono ?_; rintro e w1 ⟨rfl, rfl⟩)
    go_ret
    refine ⟨?_, rfl⟩
    rw [← he]
    rfl
theorem long_any (l : K.T) (w : World) : Calls Tryz.prog 50 #[S l] w fun e w' => e = .returned (.bool (decide (4096 < l.length))) ∧ w = w' := by
  go_enter Tryz.func50, Tryz.ntmps50
  go_wp2
  go_ret
  refine ⟨?_, rfl⟩
  show Ending.returned (Value.bool (decide ((4096 : Int) < (l.length : Int)))) = _
  congr 2
  exact decide_eq_decide.2 (by omega)
namespace K
/-- what may not even be quoted -/
def unq (x : Nat) : Bool := ctl x && !decide (0 ≤ Lib.indexByte [92, 34, 10, 9] x.toUInt8)
def isText (l : T) : Bool := !decide (4096 < l.length) && !(l.any fun b => unq b.toNat)
theorem unq_hi : ∀ x, 128 ≤ x → unq x = unq 128 := by
  intro x hx
  unfold unq
  rw [ctl_hi x hx, show ctl 128 = false from by decide, Bool.false_and, Bool.false_and]
end K
theorem unq_any (x : Nat) (w : World) : Calls Tryz.prog 93 #[.int .i32 (x : Int)] w fun e w' => e = .returned (.bool (K.unq x)) ∧ w = w' := by
  have hc := ctl_any x w
  unfold K.unq
  cases h : K.ctl x with
  | false =>
    rw [h] at hc
    rw [Bool.false_and]
    go_enter Tryz.func93, Tryz.ntmps93
    go_wp2_with (go_at_call 77; refine hc.mono ?_; rintro e w1 ⟨rfl, rfl⟩)
    go_ret
    exact ⟨rfl, rfl⟩
  | true =>
    have hx : x < 128 := by
      simp only [K.ctl, Bool.or_eq_true, decide_eq_true_eq] at h
      omega
    have hr := Tryz.strings_ContainsRune_ascii ⟨#[92, 34, 10, 9]⟩ (x : Int) w (by omega) (by omega)
    rw [show ((x : Int).toNat.toUInt8) = x.toUInt8 from by simp] at hr
    rw [Bool.true_and]
    obtain ⟨b, hb⟩ : ∃ b, decide (0 ≤ Lib.indexByte [92, 34, 10, 9] x.toUInt8) = b := ⟨_, rfl⟩
    have hr' : Calls Tryz.prog 94 #[.string ⟨#[92, 34, 10, 9]⟩, .int .i32 (x : Int)] w fun e w' => e = .returned (.bool b) ∧ w' = w := by rw [← hb]; exact hr
    rw [h] at hc
    rw [hb]
    clear hr hb
    go_enter Tryz.func93, Tryz.ntmps93
    go_wp2_with (first | (go_at_call 77; refine hc.mono ?_; rintro e w1 ⟨rfl, rfl⟩) | (go_at_call 94; refine hr'.mono ?_; rintro e w1 ⟨rfl, rfl⟩))
    go_ret
    exact ⟨rfl, rfl⟩
theorem text_any (l : K.T) (w : World) : Calls Tryz.prog 61 #[S l] w fun e w' => e = .returned (.bool (K.isText l)) ∧ Below w.heap.size w w' := by
  have hlg := long_any l w
  have hcf : Calls Tryz.prog 76 #[S l, .func (.func 93) #[] #[]] w fun e w' => e = .returned (.bool (l.any fun b => K.unq b.toNat)) ∧ Below w.heap.size w w' := by
    have h := Tryz.strings_ContainsFunc 93 #[] (fun args W => by kernel_rfl) K.unq ⟨l.toArray⟩ w (fun W x _ => (unq_any x W).mono fun e w' h => ⟨h.1, 0, h.2.symm⟩)
    unfold Lib.idxFunc at h
    rw [idx_any K.unq K.unq_hi ⟨l.toArray⟩ _ 0 (by omega), List.drop_zero] at h
    exact h
  unfold K.isText
  obtain ⟨b, hb⟩ : ∃ b, (l.any fun b => K.unq b.toNat) = b := ⟨_, rfl⟩
  obtain ⟨d, hd⟩ : ∃ d, decide (4096 < l.length) = d := ⟨_, rfl⟩
  rw [hb] at hcf ⊢
  rw [hd] at hlg ⊢
  clear hb hd
  cases d
  · go_enter Tryz.func61, Tryz.ntmps61
    go_wp2_with (first | (go_at_call 50; refine hlg.mono ?_; rintro e w1 ⟨rfl, rfl⟩) | (go_at_call 76; refine hcf.mono ?_; rintro e w1 ⟨rfl, hx⟩))
    go_ret
    exact ⟨rfl, hx⟩
  · go_enter Tryz.func61, Tryz.ntmps61
    go_wp2_with (go_at_call 50; refine hlg.mono ?_; rintro e w1 ⟨rfl, rfl⟩)
    go_ret
    exact ⟨rfl, Below.refl _ _⟩
end Go.Proofs.YtegobomfhdfodaaGreatDoor
