/- A VALUE IN A BOX. -/
import Derived.Test.YtnnnnlcpmocnfaaDoorVal7
import Derived.ProofKit
namespace Go.Proofs.YtnnnnlcpmocnfaaDoor.valueOrder
open Go.ChangeShapes Go.WideShapes Go.ChangeAt Go.RowKit
set_option linter.unusedVariables false
set_option linter.unusedSimpArgs false
attribute [local go_sem] run_store_float

theorem boxg {w : World} {g : Nat} {k : Int} {s : ByteArray} {b : Bool} {n : Int} {f : Nat} {p q : Value} (h : w.heap[g]? = some (.cells (gv k s b n f p q) 27 (0, 0))) :
    w.cell? ⟨g, 0, none⟩ = some (.int .u8 k) ∧ w.cell? ⟨g, 1, none⟩ = some (.string s) ∧ w.cell? ⟨g, 2, none⟩ = some (.bool b) ∧ w.cell? ⟨g, 3, none⟩ = some (.int .i64 n) ∧
    w.cell? ⟨g, 4, none⟩ = some (.float .f64 f) ∧ w.cell? ⟨g, 5, none⟩ = some p ∧ w.cell? ⟨g, 6, none⟩ = some q :=
  ⟨cell_of_row w g 0 _ 27 (0, 0) h, cell_of_row w g 1 _ 27 (0, 0) h, cell_of_row w g 2 _ 27 (0, 0) h, cell_of_row w g 3 _ 27 (0, 0) h, cell_of_row w g 4 _ 27 (0, 0) h, cell_of_row w g 5 _ 27 (0, 0) h, cell_of_row w g 6 _ 27 (0, 0) h⟩

end Go.Proofs.YtnnnnlcpmocnfaaDoor.valueOrder
