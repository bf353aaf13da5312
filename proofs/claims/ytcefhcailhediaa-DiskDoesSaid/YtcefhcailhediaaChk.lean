/- THE WALKS OVER isName, isFile, Check. -/
import Derived.Test.YtcefhcailhediaaKit
namespace Go.Proofs.Ytcefhcailhediaa
open Go.RowKit
set_option linter.unusedVariables false
set_option linter.unusedSimpArgs false
theorem ret_bool {a b : Bool} (h : a = b) : Ending.returned (.bool a) = .returned (.bool b) := by rw [h]
theorem ret_int {k : IntKind} {a b : Int} (h : a = b) : Ending.returned (.int k a) = .returned (.int k b) := by rw [h]

/-- a name is right -/
def okNB (n : ByteArray) : Bool := decide (okN n)
theorem size_ne {n : ByteArray} (h : n.size ≠ 0) : (!(n.toList == (⟨#[]⟩ : ByteArray).toList)) = true := by
  rw [str_not (fun e => h (by rw [e]; rfl))]; rfl
theorem size_eq {n : ByteArray} (h : n.size = 0) : n = ⟨#[]⟩ := by
  cases n with | mk d => have : d = #[] := Array.eq_empty_of_size_eq_zero h; rw [this]

theorem nil_list : (⟨#[]⟩ : ByteArray).toList = [] := by rw [Go.ByteArray.toList_eq]
theorem nil_of_empty {n : ByteArray} (h : n.toList = []) : n.size = 0 := by
  have : n = ⟨#[]⟩ := str_inj (by rw [h, nil_list])
  rw [this]; rfl
theorem isName_any (n : ByteArray) (w : World) (hl : n.size ≤ 9223372036854775807) :
    Calls Try.prog 53 #[.string n] w fun e w' => e = .returned (.bool (okNB n)) ∧ w = w' := by
  obtain ⟨r, hr⟩ : ∃ r, okNB n = r := ⟨_, rfl⟩
  rw [hr]
  have Hr := Lib.hid hr; clear hr
  by_cases h0 : n.size = 0
  · have h1 : n.toList = [] := by rw [size_eq h0, nil_list]
    have h2 : n.toList.isEmpty = true := by rw [h1]; rfl
    have H0 := Lib.hid h0
    clear h0
    go_enter Try.func53, Try.ntmps53
    go_wp2
    go_ret
    exact ⟨ret_bool (by rw [← Hr.out]; have := H0.out; rw [Bool.eq_iff_iff]; simp [okNB, okN, this] <;> omega), rfl⟩
  · have h1 : ¬ n.toList = [] := fun h => h0 (nil_of_empty h)
    have h2 : n.toList.isEmpty = false := by rw [Bool.eq_false_iff]; intro h; exact h1 (List.isEmpty_iff.1 h)
    have H0 := Lib.hid h0
    clear h0
    go_enter Try.func53, Try.ntmps53
    go_wp2
    go_ret
    exact ⟨ret_bool (by rw [← Hr.out]; have := H0.out; rw [Bool.eq_iff_iff]; simp [okNB, okN, this] <;> omega), rfl⟩
theorem isName_quiet (n : ByteArray) (w : World) (hl : n.size ≤ 9223372036854775807) :
    Calls Try.prog 53 #[.string n] w fun e w' => e = .returned (.bool (okNB n)) ∧ w' = w := (isName_any n w hl).mono fun _ _ ⟨a, b⟩ => ⟨a, b.symm⟩

/-- numbers that fit -/
def Fit (f : F) : Prop := f.name.size ≤ 9223372036854775807 ∧ f.data.size ≤ 9223372036854775807 ∧ -9223372036854775808 ≤ f.syn ∧ f.syn ≤ 9223372036854775807
theorem okF_fit {f : F} (h : okF f) : Fit f := by obtain ⟨⟨h1, h2⟩, h3, h4, h5⟩ := h; exact ⟨by omega, by omega, by omega, by omega⟩
def okFB (f : F) : Bool := decide (okF f)
abbrev fcells (n d : ByteArray) (s : Int) : Array Value := #[.string n, .string d, .int .i64 s]
theorem okFB_no {n d : ByteArray} {s : Int} (h : okNB n = false) : okFB ⟨n, d, s⟩ = false := by
  unfold okNB okFB at *
  exact decide_eq_false (fun q => of_decide_eq_false h q.1)
theorem okFB_yes {n d : ByteArray} {s : Int} (h : okNB n = true) : okFB ⟨n, d, s⟩ = (decide (d.size ≤ 262144) && decide (0 ≤ s) && decide (s ≤ d.size)) := by
  unfold okNB okFB at *
  have h' := of_decide_eq_true h
  rw [Bool.eq_iff_iff]; simp [okF, h', and_assoc]

set_option maxHeartbeats 1000000 in
theorem isFile_any (n d : ByteArray) (s : Int) (w : World) (hf : Fit ⟨n, d, s⟩) :
    Calls Try.prog 39 #[.agg (fcells n d s)] w fun e w' => e = .returned (.bool (okFB ⟨n, d, s⟩)) ∧ w.alloc (.cells (fcells n d s) 46) = w' := by
  obtain ⟨f1, f2, f3, f4⟩ := hf
  simp only at f1 f2 f3 f4
  obtain ⟨r, hr⟩ : ∃ r, okFB ⟨n, d, s⟩ = r := ⟨_, rfl⟩
  rw [hr]
  have Hr := Lib.hid hr; clear hr
  have hN := fun W => isName_any n W f1
  obtain ⟨b, hb⟩ : ∃ b, okNB n = b := ⟨_, rfl⟩
  rw [hb] at hN
  have HN := Lib.hid hN; clear hN
  have HB := Lib.hid hb; clear hb
  cases b with
  | false =>
    go_enter Try.func39, Try.ntmps39
    go_wp2_with fail
    refine (HN.out _).mono ?_
    rintro e w' ⟨rfl, rfl⟩
    go_wp2
    go_ret
    exact ⟨ret_bool (by rw [← Hr.out, okFB_no HB.out]), rfl⟩
  | true =>
    go_enter Try.func39, Try.ntmps39
    go_wp2_with fail
    refine (HN.out _).mono ?_
    rintro e w' ⟨rfl, rfl⟩
    go_wp2
    all_goals
      go_ret
      exact ⟨ret_bool (by rw [← Hr.out, okFB_yes HB.out]; rw [Bool.eq_iff_iff]; simp <;> omega), rfl⟩
end Go.Proofs.Ytcefhcailhediaa
