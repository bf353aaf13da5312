/- HTTP: TEXTS THAT CAME IN, WITH THEIR BULK. -/
import Derived.Test.YtjkinjfbjbehjaaGreatDoorGca
import Derived.Test.YtjkinjfbjbehjaaGreatDoorRows
import Derived.SliceStrings
import Derived.OpenShut
import Derived.ShutString
import Derived.LaidMore
namespace Go.Proofs.YtjkinjfbjbehjaaGreatDoor
open Go.RowKit Go.ChangeShapes Go.WideShapes
set_option linter.unusedVariables false
set_option linter.unusedSimpArgs false
set_option maxRecDepth 100000
section
variable {E : Type} {enc : TypeId × Value → E} {w : World}
theorem strs_bulk : ∀ (l : List ByteArray), Rows.uptoBulkAll (strs (H := E) l) = H.bulk (l.map fun s => s.data.toList)
  | [] => rfl
  | a :: t => by
    show Rows.uptoBulkAll (_ :: strs (H := E) t) = _
    rw [Rows.uptoBulkAll, strs_bulk t]
    simp [Rows.uptoBulk, H.bulk]
theorem open_bulk {base : Nat} {v : Value} {d : DataW E} {p : List MemPlace} (hv : Value.okWide Tryz.prog w .any base 44 v) (h : DataW.Trod enc Tryz.prog w 0 (fun _ => true) true 44 v d p) :
    ∃ ad n cap ps, v = .slice ad n cap ∧ n = ps.length ∧ Tx w ad ps ∧ H.bulk ps ≤ Rows.uptoBulk d := by
  obtain ⟨ad, len, cap, rfl⟩ := okWide_slice Tryz.underlying44 hv
  obtain ⟨fuel, hf⟩ := h
  rcases open_strings Tryz.underlying44 Tryz.underlying9 (by kernel_rfl) hf with ⟨hcs, _⟩ | ⟨a, len', cap', ss, hcs, _, hl, hm, hz, hx, hcell, hsz⟩
  · simp [Value.cells] at hcs
    obtain ⟨rfl, rfl, rfl⟩ := hcs
    exact ⟨none, 0, 0, [], rfl, rfl, fun h => absurd rfl h, by simp [H.bulk]⟩
  · simp [Value.cells] at hcs
    obtain ⟨rfl, rfl, rfl⟩ := hcs
    simp only [if_true] at hz
    injection hx with hd _
    subst hd
    refine ⟨some a, len, cap, (ss.take len).map (fun s => s.data.toList), rfl, by rw [List.length_map, List.length_take]; omega, fun hne => ?_, ?_⟩
    · have h0 : 0 < ss.length := by
        rcases Nat.eq_zero_or_pos ss.length with e | e
        · rw [List.eq_nil_of_length_eq_zero e] at hne; simp at hne
        · exact e
      obtain ⟨b, off, spot⟩ := a
      have hc0 := hcell 0 h0
      have hs : spot = none := by simpa [Addr.add] using World.cell?_spot hc0
      subst hs
      refine ⟨b, off, rfl, World.block_lt_of_cell? w _ hc0, fun i s hi => ?_⟩
      rw [List.getElem?_map] at hi
      cases h2 : (ss.take len)[i]? with
      | none => rw [h2] at hi; cases hi
      | some u =>
        rw [h2] at hi
        simp only [Option.map_some, Option.some.injEq] at hi
        subst hi
        rw [List.getElem?_take] at h2
        split at h2
        · have hil : i < ss.length := (List.getElem?_eq_some_iff.1 h2).1
          have := hcell i hil
          rw [Addr.add_lit] at this
          rw [this, show (S u.data.toList : Value) = .string u from congrArg Value.string (S_data u)]
          simp [List.getD, h2]
        · cases h2
    · rw [← strs_bulk (E := E)]
      simp only [Rows.uptoBulk]
      omega
end
theorem lawChunks_any (w : World) (ps : List H.T) (ad : Option Addr) (n cap : Nat) (x : ByteArray) (most : Int) (hm : -9223372036854775808 ≤ most ∧ most ≤ 9223372036854775807) (hp : Tx w ad ps) (hn : n = ps.length) (hb : H.bulk ps ≤ 1048576) (hx : x.size ≤ 1048576) (hT : Tabs w) :
    Calls Tryz.prog 7 #[.slice ad n cap, .int .i64 most, .string x] w fun e w' => e = .returned (.bool true) ∧ Below w.heap.size w w' := by
  subst hn
  obtain ⟨l, rfl⟩ : ∃ l : H.T, x = ⟨l.toArray⟩ := ⟨x.data.toList, (S_data x).symm⟩
  rw [S_size] at hx
  exact chunks_law w ps ad cap l most hm hp hb hx hT
end Go.Proofs.YtjkinjfbjbehjaaGreatDoor
