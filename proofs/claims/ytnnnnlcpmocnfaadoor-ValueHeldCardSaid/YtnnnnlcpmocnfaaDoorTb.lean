/- THE TABLES OF utf8, FROM WHAT THE ROW LISTS. -/
import Derived.Test.YtnnnnlcpmocnfaaDoorVs
import Derived.Test.YtnnnnlcpmocnfaaDoorCk4
import Derived.Test.YtnnnnlcpmocnfaaDoorRows
import Derived.Lib.LaidU8T
import Derived.LaidMore
import Derived.SevenTiedAt
import Derived.Stop.Joined
namespace Go.Proofs.YtnnnnlcpmocnfaaDoor
open Go.RowKit
set_option linter.unusedVariables false

theorem tabs_of {w : World} (h : Lib.Utf8Tabs 1 2 w) : Tabs w := fun W hW s hs =>
  Any.utf8_ValidString Tryd.laysValid s W (by omega) (Utf8Tabs_below h hW)
set_option maxRecDepth 100000 in
theorem tabs_laid {w : World} (h : laidMetH Tryd.prog Rows.valueHeldRow.laid w) : Tabs w := by
  rw [MakeChecks.laidMetH_plain _ _ _ (by kernel_rfl)] at h
  exact tabs_of (utf8Tabs_of_readsT (ρ := Tryd.laysValid_ren) (U8Types.of196 Tryd.laysValid) ⟨by kernel_rfl, by kernel_rfl, by kernel_rfl, by kernel_rfl, by kernel_rfl, by kernel_rfl, by kernel_rfl⟩ (Lib.laidMet.reads h (.tail _ (.head _))) (Lib.laidMet.reads h (.head _)))
end Go.Proofs.YtnnnnlcpmocnfaaDoor
