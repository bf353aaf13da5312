/- MESSAGES OF VALUES: parts of a list and of a map, WALKED. -/
import Derived.Test.YtnnnnlcpmocnfaaDoorWw1
import Derived.Test.YtnnnnlcpmocnfaaDoorLaw0
import Derived.Outline
import Derived.WalkLawsBesides
import Derived.Deep.RegionLaw
import Derived.Deep.RegionHeld3
namespace Go.Proofs.YtnnnnlcpmocnfaaDoor
open Go.RowKit
set_option linter.unusedVariables false
set_option linter.unusedSimpArgs false
attribute [local go_sem] run_store_float

/-- a value is written as the model says -/
def WrittenC (x : V) : Prop := ∀ (w : World) (q1 q2 : Value), Rep Any w q1 q2 x → Calls Tryd.prog 64 #[.agg (cv x q1 q2)] w (Wrote (wmsg x) w)
def WPairC (key : ByteArray) (x : V) : Prop := ∀ (w : World) (q1 q2 : Value), Rep Any w q1 q2 x → Calls Tryd.prog 69 #[.agg (pv key x q1 q2)] w (Wrote (wpair key x) w)
theorem enc1_len {f : M.Fd} (h : M.may f = true) : (M.enc1 f).length = M.size1 f := by unfold M.size1; rw [if_pos h]
theorem wrE_short {fs : List M.Fd} {t : List UInt8} (h : wrE fs = .ok t) : t.length ≤ 65536 := by
  rcases wrE_cases fs with ⟨e, _, _, h2⟩ | ⟨_, h2, _, _, h3⟩
  · rw [h2] at h; cases h
  · rw [h2] at h; injection h with h; subst h; exact h3
theorem around_short {n : Int} {r : Res} {t : List UInt8} (h : around n r = .ok t) : t.length ≤ 65536 := by
  cases r with
  | error e => cases h
  | ok s => exact wrE_short (fs := [bf n s]) h
theorem wpair_short {key : ByteArray} {x : V} {t : List UInt8} (h : wpair key x = .ok t) : t.length ≤ 65536 := by
  unfold wpair wpairE at h
  split at h
  · exact wrE_short h
  · cases hm : wmsg x with
    | error e => rw [hm] at h; cases h
    | ok s => rw [hm] at h; exact wrE_short h
theorem wmsg_short {x : V} {t : List UInt8} (h : wmsg x = .ok t) : t.length ≤ 65536 := by
  rw [wmsg_eq] at h
  repeat' split at h
  all_goals first | exact wrE_short h | exact around_short h | (injection h with h; subst h; simp)
theorem short_wL (l : List V) : Short (l.map wmsg) := by
  intro t ht
  obtain ⟨x, _, hx⟩ := List.mem_map.1 ht
  exact wmsg_short hx
theorem short_wP (l : List (ByteArray × V)) : Short (l.map fun e => wpair e.1 e.2) := by
  intro t ht
  obtain ⟨x, _, hx⟩ := List.mem_map.1 ht
  exact wpair_short hx
set_option maxRecDepth 100000 in
set_option maxHeartbeats 4000000 in
/-- the closure that writes a list's part -/
theorem clo_list (x y : V) (k g : Nat) (ih : WrittenC y) (w : World) (q1 q2 : Value) (hA : At7 w g 0 x q1 q2) (hx : Rep Any w q1 q2 x) (hk : x.l[k]? = some y) :
    Calls Tryd.prog 96 #[.int .i64 (k : Int), .pointer (some ⟨g, 0, none⟩)] w (Wrote (wmsg y) w) := by
  obtain ⟨ad, cap, rfl, hln⟩ := hx.parts.2.1.form
  obtain ⟨g', o, c, d, rfl, hg', ⟨c0, c1, c2, c3, c4, c5, c6⟩, hrep⟩ := hx.parts.2.1.at hk
  obtain ⟨adc, capc, rfl, _⟩ := hrep.parts.2.1.form
  obtain ⟨add, capd, rfl, _⟩ := hrep.parts.2.2.form
  have hlt : k < x.l.length := lt_of_get hk
  have hk0 : (0 : Int) ≤ (k : Int) := by omega
  have hkn : (k : Int) < (x.l.length : Int) := by omega
  have hq := hA.c5
  simp only [Nat.zero_add] at hq
  have Hcall := Lib.hid (ih w _ _ hrep)
  clear hA hx hk hrep ih hlt hln
  generalize x.l.length = n at *
  generalize wmsg y = R at *
  cases R with
  | error c =>
    go_enter Tryd.func96, Tryd.ntmps96
    go_wp2_with fail
    refine (Hcall.out).mono ?_
    intro e w2 hc
    obtain ⟨rfl, hb2⟩ := hc.no
    exact ⟨rfl, by exact Wrote.mkn hb2⟩
  | ok t =>
    go_enter Tryd.func96, Tryd.ntmps96
    go_wp2_with fail
    refine (Hcall.out).mono ?_
    intro e w2 hc
    obtain ⟨rfl, hb2⟩ := hc.ok
    go_wp2
    go_ret
    exact Wrote.mk0 hb2
set_option maxRecDepth 100000 in
set_option maxHeartbeats 4000000 in
/-- the closure that writes a map's part -/
theorem clo_pairs (x : V) (y : ByteArray × V) (k g : Nat) (ih : WPairC y.1 y.2) (w : World) (q1 q2 : Value) (hA : At7 w g 0 x q1 q2) (hx : Rep Any w q1 q2 x) (hk : x.p[k]? = some y) :
    Calls Tryd.prog 97 #[.int .i64 (k : Int), .pointer (some ⟨g, 0, none⟩)] w (Wrote (wpair y.1 y.2) w) := by
  obtain ⟨ad, cap, rfl, hln⟩ := hx.parts.2.2.form
  obtain ⟨g', o, c, d, rfl, hg', ⟨c0, c1, c2, c3, c4, c5, c6, c7⟩, hky, hrep⟩ := hx.parts.2.2.at hk
  obtain ⟨adc, capc, rfl, _⟩ := hrep.parts.2.1.form
  obtain ⟨add, capd, rfl, _⟩ := hrep.parts.2.2.form
  have hlt : k < x.p.length := lt_of_get hk
  have hk0 : (0 : Int) ≤ (k : Int) := by omega
  have hkn : (k : Int) < (x.p.length : Int) := by omega
  have hq := hA.c6
  simp only [Nat.zero_add] at hq
  have Hcall := Lib.hid (ih w _ _ hrep)
  clear hA hx hk hrep ih hlt hln hky
  generalize x.p.length = n at *
  generalize wpair y.1 y.2 = R at *
  cases R with
  | error c =>
    go_enter Tryd.func97, Tryd.ntmps97
    go_wp2_with fail
    refine (Hcall.out).mono ?_
    intro e w2 hc
    obtain ⟨rfl, hb2⟩ := hc.no
    exact ⟨rfl, by exact Wrote.mkn hb2⟩
  | ok t =>
    go_enter Tryd.func97, Tryd.ntmps97
    go_wp2_with fail
    refine (Hcall.out).mono ?_
    intro e w2 hc
    obtain ⟨rfl, hb2⟩ := hc.ok
    go_wp2
    go_ret
    exact Wrote.mk0 hb2

theorem ne_of_beq_false {a b : Int} (h : (a == b) = false) : ¬ a = b := by simpa using h
end Go.Proofs.YtnnnnlcpmocnfaaDoor
