/- MESSAGES OF VALUES, READ: fields, and the parts of a list or a map, WALKED. -/
import Derived.Test.YtnnnnlcpmocnfaaDoorTd2
import Derived.Test.YtnnnnlcpmocnfaaDoorRead
import Derived.Outline
import Derived.WalkLawsBesides
import Derived.Deep.RegionLaw
import Derived.Deep.RegionHeld3
namespace Go.Proofs.YtnnnnlcpmocnfaaDoor
open Go.RowKit
set_option linter.unusedVariables false
set_option linter.unusedSimpArgs false
attribute [local go_sem] run_store_float

theorem FRow.short {w : World} {base : Nat} {v : Value} {fs : List M.Fd} (h : FRow w base v fs) (hf : ∀ f ∈ fs, Fine f) (hl : fs.length ≤ 9223372036854775807) : ∃ ad cap, v = .slice ad fs.length cap ∧ Flds w w.heap.size ad fs := h.flds hf hl
theorem read_err_ne {s : List UInt8} {c : Nat} (h : M.read s = .error c) : ((c : Int) == 0) = false := by
  unfold M.read at h
  split at h
  · injection h with h; subst h; rfl
  · cases hp : M.parse s with
    | error e =>
      rw [hp] at h
      injection h with h
      subst h
      have := M.parse_err_is _ s (Nat.le_refl _) e hp
      rcases this with rfl | rfl <;> rfl
    | ok fs =>
      rw [hp] at h
      dsimp only at h
      split at h
      · injection h with h; subst h; rfl
      · cases h
/-- what fields answers -/
def FieldsP (s : List UInt8) (w : World) (e : Ending) (w' : World) : Prop :=
  match M.read s with
  | .error c => e = pan31 (c : Int) ∧ Below w.heap.size w w'
  | .ok fs => ∃ ad cap, e = .returned (.slice ad fs.length cap) ∧ Flds w' w'.heap.size ad fs ∧ fs.length ≤ 4096 ∧ Below w.heap.size w w'
set_option maxRecDepth 100000 in
theorem fields_all (s : List UInt8) (w : World) (hs : s.length ≤ 9223372036854775807) : Calls Tryd.prog 100 #[.string ⟨s.toArray⟩] w (FieldsP s w) := by
  have H := Lib.hid (read_any s w hs)
  clear hs
  cases hr : M.read s with
  | error c =>
    have Hc := Lib.hid (read_err_ne hr)
    have Hr := Lib.hid hr
    clear hr
    go_enter Tryd.func100, Tryd.ntmps100
    go_wp2_with fail
    refine (H.out).mono ?_
    rintro e w1 ⟨hb, h⟩
    rw [Hr.out] at h
    obtain rfl := h
    have Hb := Lib.hid hb
    clear hb
    go_wp2_with fail
    refine (on_no _ _ Hc.out).mono ?_
    rintro e w2 ⟨rfl, rfl⟩
    exact ⟨rfl, by unfold FieldsP; rw [Hr.out]; exact ⟨rfl, Hb.out⟩⟩
  | ok fs =>
    have Hr := Lib.hid hr
    clear hr
    go_enter Tryd.func100, Tryd.ntmps100
    go_wp2_with fail
    refine (H.out).mono ?_
    rintro e w1 ⟨hb, h⟩
    rw [Hr.out] at h
    obtain ⟨v, rfl, hrow, hfine, hlen⟩ := h
    obtain ⟨ad, cap, rfl, hfl⟩ := hrow.flds hfine (by omega)
    have Hb := Lib.hid hb
    have Hfl := Lib.hid hfl
    have Hlen := Lib.hid hlen
    clear hb hrow hfine hfl hlen
    go_wp2_with fail
    refine (on_ok _).mono ?_
    rintro e w2 ⟨rfl, rfl⟩
    go_wp2
    go_ret
    unfold FieldsP
    rw [Hr.out]
    exact ⟨ad, cap, rfl, Hfl.out, Hlen.out, Hb.out⟩

/-- the parts of a list or a map -/
def partsR (s : List UInt8) (fuel : Nat) : Except Int (List M.Fd) :=
  match M.read s with
  | .error c => .error (c : Int)
  | .ok fs => if 256 < (allOf 1 2 fs).length then .error 3 else if fuel = 0 then .error 11 else .ok (allOf 1 2 fs)
def PartsP (r : Except Int (List M.Fd)) (w : World) (e : Ending) (w' : World) : Prop :=
  match r with
  | .error c => e = pan31 c ∧ Below w.heap.size w w'
  | .ok fs => ∃ ad cap, e = .returned (.slice ad fs.length cap) ∧ Flds w' w'.heap.size ad fs ∧ fs.length ≤ 256 ∧ (∀ g o, ad = some ⟨g, o, none⟩ → w.heap.size ≤ g) ∧ Below w.heap.size w w'
set_option maxRecDepth 100000 in
set_option maxHeartbeats 4000000 in
theorem parts_all (s : List UInt8) (fuel : Nat) (hfu : fuel ≤ 8) (w : World) (hs : s.length ≤ 9223372036854775807) : Calls Tryd.prog 102 #[.string ⟨s.toArray⟩, .int .i64 (8 - (fuel : Int))] w (PartsP (partsR s fuel) w) := by
  have H := Lib.hid (fields_all s w hs)
  clear hs
  obtain ⟨d, hd⟩ : ∃ d : Int, d = 8 - (fuel : Int) := ⟨_, rfl⟩
  rw [← hd]
  have Hd := Lib.hid hd
  clear hd
  cases hr : M.read s with
  | error c =>
    have hR : partsR s fuel = .error (c : Int) := by unfold partsR; rw [hr]
    have HR := Lib.hid hR
    have Hr := Lib.hid hr
    clear hr hR
    go_enter Tryd.func102, Tryd.ntmps102
    go_wp2_with fail
    refine (H.out).mono ?_
    intro e w1 h
    unfold FieldsP at h
    rw [Hr.out] at h
    obtain ⟨rfl, hb⟩ := h
    exact ⟨rfl, by rw [HR.out]; exact ⟨rfl, hb⟩⟩
  | ok fs =>
    have Hr := Lib.hid hr
    by_cases hm : 256 < (allOf 1 2 fs).length
    · have hR : partsR s fuel = .error 3 := by unfold partsR; rw [hr]; dsimp only; rw [if_pos hm]
      have HR := Lib.hid hR
      have Hm := Lib.hid (show ¬ (((allOf 1 2 fs).length : Nat) : Int) ≤ 256 by omega)
      clear hr hR hm
      go_enter Tryd.func102, Tryd.ntmps102
      go_wp2_with fail
      refine (H.out).mono ?_
      intro e w1 h
      unfold FieldsP at h
      rw [Hr.out] at h
      obtain ⟨ad, cap, rfl, hfl, hlen, hb⟩ := h
      have Hall := Lib.hid (show Calls Tryd.prog 115 #[.slice ad fs.length cap, .int .i64 1, .int .u8 2] w1 fun e w' => ∃ v, e = .returned v ∧ FRow w' w1.heap.size v (allOf 1 2 fs) ∧ Below w1.heap.size w1 w' from all_any w1 ad fs.length cap 1 2 fs rfl hfl (by omega) (by decide) (by decide))
      have Hfin := Lib.hid (show ∀ f ∈ allOf 1 2 fs, Fine f from fun f hf => by
        have hmem := (List.mem_filter.1 (show f ∈ fs.filter (pick 1 2) from hf)).1
        obtain ⟨i, hi⟩ := List.getElem?_of_mem hmem
        obtain ⟨g, off, _, _, h⟩ := hfl.2 (List.ne_nil_of_mem hmem)
        obtain ⟨a, b, c, l, hfit, _⟩ := h i f hi
        exact ⟨a, b, c, l, hfit⟩)
      have Hb := Lib.hid hb
      have Hlen := Lib.hid hlen
      clear hfl hlen hb
      go_wp2_with fail
      refine (Hall.out).mono ?_
      rintro e w2 ⟨v, rfl, hrow, hb2⟩
      obtain ⟨ad2, cap2, rfl, hfl2⟩ := hrow.flds Hfin.out (by have := allOf_len 1 2 fs; have := Hlen.out; omega)
      have Hb2 := Lib.hid (Hb.out.trans (hb2.mono Hb.out.size))
      clear hrow hb2 hfl2
      obtain ⟨m, hm⟩ : ∃ m, m = (allOf 1 2 fs).length := ⟨_, rfl⟩
      rw [← hm]
      have Hm2 := Lib.hid (show ¬ (m : Int) ≤ 256 by rw [hm]; have := Hm.out; omega)
      clear hm
      go_wp2_with fail
      refine (many_no _ _ (by have := Hm2.out; omega)).mono ?_
      rintro e w3 ⟨rfl, rfl⟩
      exact ⟨rfl, by rw [HR.out]; exact ⟨rfl, Hb2.out⟩⟩
    · have hm' : (((allOf 1 2 fs).length : Nat) : Int) ≤ 256 := by omega
      have Hm := Lib.hid hm'
      have hR : partsR s fuel = if fuel = 0 then .error 11 else .ok (allOf 1 2 fs) := by unfold partsR; rw [hr]; dsimp only; rw [if_neg hm]
      have HR := Lib.hid hR
      clear hr hR hm hm'
      cases hz : decide (fuel = 0)
      all_goals
        first | have Hz := Lib.hid (of_decide_eq_false hz) | have Hz := Lib.hid (of_decide_eq_true hz)
        clear hz
        go_enter Tryd.func102, Tryd.ntmps102
        go_wp2_with fail
        refine (H.out).mono ?_
        intro e w1 h
        unfold FieldsP at h
        rw [Hr.out] at h
        obtain ⟨ad, cap, rfl, hfl, hlen, hb⟩ := h
        have Hall := Lib.hid (show Calls Tryd.prog 115 #[.slice ad fs.length cap, .int .i64 1, .int .u8 2] w1 fun e w' => ∃ v, e = .returned v ∧ FRow w' w1.heap.size v (allOf 1 2 fs) ∧ Below w1.heap.size w1 w' from all_any w1 ad fs.length cap 1 2 fs rfl hfl (by omega) (by decide) (by decide))
        have Hfin := Lib.hid (show ∀ f ∈ allOf 1 2 fs, Fine f from fun f hf => by
          have hmem := (List.mem_filter.1 (show f ∈ fs.filter (pick 1 2) from hf)).1
          obtain ⟨i, hi⟩ := List.getElem?_of_mem hmem
          obtain ⟨g, off, _, _, h⟩ := hfl.2 (List.ne_nil_of_mem hmem)
          obtain ⟨a, b, c, l, hfit, _⟩ := h i f hi
          exact ⟨a, b, c, l, hfit⟩)
        have Hb := Lib.hid hb
        have Hlen := Lib.hid hlen
        clear hfl hlen hb
        go_wp2_with fail
        refine (Hall.out).mono ?_
        rintro e w2 ⟨v, rfl, hrow, hb2⟩
        obtain ⟨ad2, cap2, rfl, hfl2⟩ := hrow.flds Hfin.out (by have := allOf_len 1 2 fs; have := Hlen.out; omega)
        have Hnew := Lib.hid (show ∀ g o, ad2 = some ⟨g, o, none⟩ → w.heap.size ≤ g from fun g o e => by subst e; exact Nat.le_trans Hb.out.size (hrow.lt g rfl).1)
        have Hb2 := Lib.hid (Hb.out.trans (hb2.mono Hb.out.size))
        have Hfl2 := Lib.hid hfl2
        clear hrow hb2 hfl2
        obtain ⟨m, hm⟩ : ∃ m, m = (allOf 1 2 fs).length := ⟨_, rfl⟩
        rw [← hm]
        have Hmm := Lib.hid hm
        have Hm2 := Lib.hid (show (m : Int) ≤ 256 by rw [hm]; exact Hm.out)
        clear hm
        go_wp2_with fail
        refine (many_ok _ _ Hm2.out).mono ?_
        rintro e w3 ⟨rfl, rfl⟩
        go_wp2_with fail
      · refine (depth_ok _ _ (by have := Hd.out; have := Hz.out; omega)).mono ?_
        rintro e w3 ⟨rfl, rfl⟩
        go_wp2
        go_ret
        rw [HR.out, if_neg Hz.out]
        exact ⟨ad2, cap2, by rw [Hmm.out]; rfl, Hfl2.out, by have := Hm.out; omega, Hnew.out, Hb2.out⟩
      · refine (depth_no _ _ (by have := Hd.out; have := Hz.out; omega)).mono ?_
        rintro e w3 ⟨rfl, rfl⟩
        exact ⟨rfl, by rw [HR.out, if_pos Hz.out]; exact ⟨rfl, Hb2.out⟩⟩
end Go.Proofs.YtnnnnlcpmocnfaaDoor
