/- THE LAW ValueHeld: THE DOCUMENT'S KEY. -/
import Derived.Test.YtnnnnlcpmocnfaaGreatDoorZ3
import Derived.Outline
import Derived.WalkLawsBesides
import Derived.Lib.ValidLaws
import Derived.Lib.RuneCount
import Derived.Laws.RangeAny
import Derived.Laws.RangeString
import Derived.LoopTactic
namespace Go.Proofs.YtnnnnlcpmocnfaaGreatDoor
open Go.RowKit
set_option linter.unusedVariables false

/-- the document's Utf answers as the shelf's word does -/
def UtfOk : Prop := ∀ (s : ByteArray) (W : World), s.size ≤ 140737488353000 → Calls Tryz.prog 64 #[.string s] W fun e w' => e = .returned (.bool (utf s)) ∧ Below W.heap.size W w'
theorem rkey_any (hU : UtfOk) (s : ByteArray) (w : World) (hs : s.size ≤ 140737488353000) : Calls Tryz.prog 70 #[.string s] w fun e w' => e = .returned (.int .i64 (keyErr s)) ∧ Below w.heap.size w w' := by
  unfold keyErr
  by_cases h : s.size ≤ 4096
  · rw [if_pos h]
    have h' : ¬ 4096 < s.size := by omega
    cases hu : utf s
    · go_enter Tryz.func70, Tryz.ntmps70
      go_wp2_with (go_at_call 64; refine (hU s _ hs).mono ?_; rw [hu]; rintro e w' ⟨rfl, hb⟩)
      go_ret
      exact ⟨rfl, hb⟩
    · go_enter Tryz.func70, Tryz.ntmps70
      go_wp2_with (go_at_call 64; refine (hU s _ hs).mono ?_; rw [hu]; rintro e w' ⟨rfl, hb⟩)
      go_ret
      exact ⟨rfl, hb⟩
  · rw [if_neg h]
    have h' : 4096 < s.size := by omega
    go_enter Tryz.func70, Tryz.ntmps70
    go_wp2
    go_ret
    exact ⟨rfl, Below.refl _ _⟩
end Go.Proofs.YtnnnnlcpmocnfaaGreatDoor

/- THE DOCUMENT'S Utf: WHAT A STEP SEES. -/
namespace Go.Proofs.YtnnnnlcpmocnfaaGreatDoor
open Go.RowKit
set_option linter.unusedVariables false

theorem fffd_head (t : List UInt8) : Lib.decodeL ([239, 191, 189] ++ t) = (65533, 3) := by
  rw [Lib.decodeL_N]
  simp [Lib.decodeN, List.getD]
theorem fffd_take (l : List UInt8) (hne : l ≠ []) (h : (Lib.decodeL l).1 = 65533) (hw : (Lib.decodeL l).2 ≠ 1) : l.take 3 = [239, 191, 189] := by
  have e := Lib.encode_decode l hne (fun h => hw h.2)
  rw [h] at e
  have e2 : Lib.encodeRune ((65533 : Nat) : Int) = [239, 191, 189] := by decide
  rw [e2] at e
  have hl := congrArg List.length e
  have hle := Lib.decodeL_le l hne
  rw [List.length_take, Nat.min_eq_left hle] at hl
  have : (Lib.decodeL l).2 = 3 := hl.symm
  rw [this] at e
  exact e.symm
theorem bad_iff (l : List UInt8) (hne : l ≠ []) : ((Lib.decodeL l).1 = 65533 ∧ (Lib.decodeL l).2 = 1) ↔ ((Lib.decodeL l).1 = 65533 ∧ ¬ l.take 3 = [239, 191, 189]) := by
  constructor
  · rintro ⟨h1, h2⟩
    refine ⟨h1, fun h => ?_⟩
    have e : l = [239, 191, 189] ++ l.drop 3 := by rw [← h, List.take_append_drop]
    rw [e, fffd_head] at h2
    cases h2
  · rintro ⟨h1, h2⟩
    refine ⟨h1, Classical.byContradiction fun h => h2 (fffd_take l hne h1 h)⟩
/-- one step of the word, at a place within the text -/
theorem utf_step (s : ByteArray) (pos : Nat) (h : pos < s.size) : Lib.validD (s.data.toList.drop pos) = if (Utf8.decode s pos).1 = 65533 ∧ ¬ (s.data.toList.drop pos).take 3 = [239, 191, 189] then false else Lib.validD (s.data.toList.drop (pos + (Utf8.decode s pos).2)) := by
  have hne : s.data.toList.drop pos ≠ [] := by
    intro e
    have := congrArg List.length e
    rw [List.length_drop, ← Lib.size_eq, List.length_nil] at this
    omega
  rw [Lib.validD_step _ hne]
  simp only [bad_iff _ hne]
  rw [Lib.decodeL_drop, List.drop_drop]
theorem utf_end (s : ByteArray) (pos : Nat) (h : ¬ pos < s.size) : Lib.validD (s.data.toList.drop pos) = true := by
  have : s.data.toList.drop pos = [] := List.drop_eq_nil_of_le (by rw [← Lib.size_eq]; omega)
  rw [this]; rfl
theorem cut3 (s : ByteArray) (pos : Nat) : (s.extract pos (pos + 3)).data.toList = (s.data.toList.drop pos).take 3 := by
  simp
end Go.Proofs.YtnnnnlcpmocnfaaGreatDoor

/- THE DOCUMENT'S Utf, WALKED. -/
namespace Go.Proofs.YtnnnnlcpmocnfaaGreatDoor
open Go.RowKit
set_option linter.unusedVariables false
theorem utf_bad (s : ByteArray) (pos : Nat) (hp : pos < s.size) (h1 : ((Utf8.decode s pos).1 : Int) = 65533) (h2 : (s.size : Int) < pos + 3 ∨ (!(s.extract pos (pos + 3)).toList == [239, 191, 189]) = true) : Lib.validD (s.data.toList.drop pos) = false := by
  rw [utf_step s pos hp, if_pos]
  refine ⟨by omega, fun h => ?_⟩
  rcases h2 with h2 | h2
  · have := congrArg List.length h
    rw [List.length_take, List.length_drop, ← Lib.size_eq] at this
    simp at this
    omega
  · rw [Lib.extract_toList, show pos + 3 - pos = 3 by omega, h] at h2
    exact absurd h2 (by decide)
theorem utf_on (s : ByteArray) (pos : Nat) (hp : pos < s.size) (h : ((Utf8.decode s pos).1 : Int) = 65533 → (!(s.extract pos (pos + 3)).toList == [239, 191, 189]) = false) : Lib.validD (s.data.toList.drop pos) = Lib.validD (s.data.toList.drop (pos + (Utf8.decode s pos).2)) := by
  rw [utf_step s pos hp, if_neg]
  rintro ⟨h1, h2⟩
  have h3 := h (by omega)
  rw [Lib.extract_toList, show pos + 3 - pos = 3 by omega] at h3
  simp at h3
  exact h2 (by simpa using h3)
theorem utf_in (s : ByteArray) (pos : Nat) (hp : pos < s.size) : pos + (Utf8.decode s pos).2 ≤ s.size := by
  have h := Lib.decodeL_le (s.data.toList.drop pos) (by
    intro e
    have := congrArg List.length e
    rw [List.length_drop, ← Lib.size_eq, List.length_nil] at this
    omega)
  rw [Lib.decodeL_drop, List.length_drop, ← Lib.size_eq] at h
  omega
set_option maxHeartbeats 4000000 in
set_option maxRecDepth 1000000 in
theorem utf_walk (s : ByteArray) (w : World) (hs : s.size ≤ 140737488353000) : Calls Tryz.prog 64 #[.string s] w fun e w' => e = .returned (.bool (utf s)) ∧ ∃ pos, w' = w.iter s pos := by
  go_enter Tryz.func64, Tryz.ntmps64
  go_wp2
  go_loopw [] (fun w' => ∃ (pos : Nat), w' = w.iter s pos ∧ pos ≤ s.size ∧ Lib.validD (s.data.toList.drop pos) = utf s) (fun w' => s.size - w'.iterPos w.heap.size)
  case atStart => exact ⟨0, rfl, Nat.zero_le _, rfl⟩
  case round =>
    obtain ⟨pos, rfl, hps, hv⟩ := hrel
    by_cases hp : pos < s.size
    · have hnx : ∀ ty, (Instr.next (.pointer (some ⟨w.heap.size, 0, none⟩)) true ty).run Tryz.prog (w.iter s pos) = _ := fun ty => run_next_any w s pos ty hp
      have hwd := Lib.decode_width_pos s pos hp
      have hd1 := utf_in s pos hp
      go_wp2
      · go_ret
        rename_i h1 h2 h3 h4 h5
        rw [utf_bad s pos hp h1 h5] at hv
        exact ⟨by rw [← hv]; rfl, _, rfl⟩
      · rename_i h1 h2 h3 h4 h5
        refine ⟨⟨_, rfl, hd1, by rw [← hv]; exact (utf_on s pos hp fun _ => h5.2).symm⟩, ?_⟩
        simp
        omega
      · go_ret
        rename_i h1 h2
        rw [utf_bad s pos hp h1 (.inl h2)] at hv
        exact ⟨by rw [← hv]; rfl, _, rfl⟩
      · rename_i h1
        refine ⟨⟨_, rfl, hd1, by rw [← hv]; exact (utf_on s pos hp fun h => absurd h h1).symm⟩, ?_⟩
        simp
        omega
    · have hnx : ∀ ty, (Instr.next (.pointer (some ⟨w.heap.size, 0, none⟩)) true ty).run Tryz.prog (w.iter s pos) = _ := fun ty => run_next_end w s pos ty hp
      go_wp2
      go_ret
      rw [utf_end s pos hp] at hv
      exact ⟨by rw [← hv]; rfl, _, rfl⟩
theorem utf_is : UtfOk := fun s W hs => (utf_walk s W hs).mono (by rintro e w' ⟨rfl, pos, rfl⟩; exact ⟨rfl, (Below.refl _ _).alloc (Nat.le_refl _) _⟩)
end Go.Proofs.YtnnnnlcpmocnfaaGreatDoor
