/-
  DERIVED. GIVEN WITH THE SEED: THE CARDS: each row of YtcefhcailhediaaDoorRows.lean that lists a variable, with what it lists TIED to the program's text (the seventh form; the later family's looks); each row that meets fmt, with fmt's text TOLD by the authors' own Lean function (tested against real Go, not proved from fmt's source: count such statements apart). THE CARD IS WHAT COUNTS. Prove the row's statement (the work); the ties are given (YtcefhcailhediaaDoorTie.lean); close each card by the builder's one call (the guide's Derived/Test/ToyasCard.lean, 'card_holds'). Laid BY PROGRAM, IN A SANDBOX (cutbox-door.mjs). By AI agents, Wed Nov 11 2026. No macro, syntax, notation, axiom, sorry.
-/
import Derived.Test.YtcefhcailhediaaDoorRows
import GoSem.ClaimSeven
namespace Go.Proofs.YtcefhcailhediaaDoor
namespace Rows

/-- THE TIED CARD OF 'penstocklaw10.SegmentKeeps'. -/
def segmentKeepsCard : Claim7 := { stood := { row := segmentKeepsRow, standIns := [], harness := (true, "f95b95d43857760717316c825e3126e7888ab24a92f180fd804b90b29a1ac989"), looks := true }, kinds := [], alts := [], laidByText := true, laidKinds := [.data, .data, .data, .sentinel, .sentinel, .data], laidTests := true, laidLooks := .later }
def SegmentKeepsCardSaid : Prop := Claim7.holds Tryd.pinned (.plain (OpenSpec.ofChange segmentKeepsSpec)) segmentKeepsCard

/-- THE TIED CARD OF 'penstocklaw10.SegmentWhole'. -/
def segmentWholeCard : Claim7 := { stood := { row := segmentWholeRow, standIns := [], harness := (true, "f95b95d43857760717316c825e3126e7888ab24a92f180fd804b90b29a1ac989"), looks := true }, kinds := [], alts := [], laidByText := true, laidKinds := [.data, .data, .data, .sentinel, .sentinel, .data], laidTests := true, laidLooks := .later }
def SegmentWholeCardSaid : Prop := Claim7.holds Tryd.pinned (.plain (OpenSpec.ofChange segmentWholeSpec)) segmentWholeCard

/-- THE TIED CARD OF 'penstocklaw10.SegmentAgain'. -/
def segmentAgainCard : Claim7 := { stood := { row := segmentAgainRow, standIns := [], harness := (true, "f95b95d43857760717316c825e3126e7888ab24a92f180fd804b90b29a1ac989"), looks := true }, kinds := [], alts := [], laidByText := true, laidKinds := [.data, .data, .data, .sentinel, .sentinel, .data], laidTests := true, laidLooks := .later }
def SegmentAgainCardSaid : Prop := Claim7.holds Tryd.pinned (.plain (OpenSpec.ofChange segmentAgainSpec)) segmentAgainCard

/-- THE TIED CARD OF 'penstocklaw10.SegmentDrops'. -/
def segmentDropsCard : Claim7 := { stood := { row := segmentDropsRow, standIns := [], harness := (true, "f95b95d43857760717316c825e3126e7888ab24a92f180fd804b90b29a1ac989"), looks := true }, kinds := [], alts := [], laidByText := true, laidKinds := [.data, .data, .data, .sentinel, .sentinel, .data], laidTests := true, laidLooks := .later }
def SegmentDropsCardSaid : Prop := Claim7.holds Tryd.pinned (.plain (OpenSpec.ofChange segmentDropsSpec)) segmentDropsCard

/-- THE TIED CARD OF 'penstocklaw10.SegmentCutOff'. -/
def segmentCutOffCard : Claim7 := { stood := { row := segmentCutOffRow, standIns := [], harness := (true, "f95b95d43857760717316c825e3126e7888ab24a92f180fd804b90b29a1ac989"), looks := true }, kinds := [], alts := [], laidByText := true, laidKinds := [.data, .data, .data, .sentinel, .sentinel, .data], laidTests := true, laidLooks := .later }
def SegmentCutOffCardSaid : Prop := Claim7.holds Tryd.pinned (.plain (OpenSpec.ofChange segmentCutOffSpec)) segmentCutOffCard

/-- THE TIED CARD OF 'penstocklaw10.SegmentTwins'. -/
def segmentTwinsCard : Claim7 := { stood := { row := segmentTwinsRow, standIns := [], harness := (true, "f95b95d43857760717316c825e3126e7888ab24a92f180fd804b90b29a1ac989"), looks := true }, kinds := [], alts := [], laidByText := true, laidKinds := [.data, .data, .data, .sentinel, .sentinel, .data], laidTests := true, laidLooks := .later }
def SegmentTwinsCardSaid : Prop := Claim7.holds Tryd.pinned (.plain (OpenSpec.ofChange segmentTwinsSpec)) segmentTwinsCard

/-- THE SECOND FORM's CARD OF 'penstocklaw10.SegmentKeeps'. -/
def segmentKeepsUptoCard : Claim7 := { stood := { row := segmentKeepsUptoRow, standIns := [], harness := (true, "f95b95d43857760717316c825e3126e7888ab24a92f180fd804b90b29a1ac989"), looks := true }, kinds := [], alts := [], laidByText := true, laidKinds := [.data, .data, .data, .sentinel, .sentinel, .data], laidTests := true, laidLooks := .later }
def SegmentKeepsUptoCardSaid : Prop := Claim7.holds Tryd.pinned (.plain (OpenSpec.upto segmentKeepsSpec)) segmentKeepsUptoCard

/-- THE SECOND FORM's CARD OF 'penstocklaw10.SegmentWhole'. -/
def segmentWholeUptoCard : Claim7 := { stood := { row := segmentWholeUptoRow, standIns := [], harness := (true, "f95b95d43857760717316c825e3126e7888ab24a92f180fd804b90b29a1ac989"), looks := true }, kinds := [], alts := [], laidByText := true, laidKinds := [.data, .data, .data, .sentinel, .sentinel, .data], laidTests := true, laidLooks := .later }
def SegmentWholeUptoCardSaid : Prop := Claim7.holds Tryd.pinned (.plain (OpenSpec.upto segmentWholeSpec)) segmentWholeUptoCard

/-- THE SECOND FORM's CARD OF 'penstocklaw10.SegmentAgain'. -/
def segmentAgainUptoCard : Claim7 := { stood := { row := segmentAgainUptoRow, standIns := [], harness := (true, "f95b95d43857760717316c825e3126e7888ab24a92f180fd804b90b29a1ac989"), looks := true }, kinds := [], alts := [], laidByText := true, laidKinds := [.data, .data, .data, .sentinel, .sentinel, .data], laidTests := true, laidLooks := .later }
def SegmentAgainUptoCardSaid : Prop := Claim7.holds Tryd.pinned (.plain (OpenSpec.upto segmentAgainSpec)) segmentAgainUptoCard

/-- THE SECOND FORM's CARD OF 'penstocklaw10.SegmentDrops'. -/
def segmentDropsUptoCard : Claim7 := { stood := { row := segmentDropsUptoRow, standIns := [], harness := (true, "f95b95d43857760717316c825e3126e7888ab24a92f180fd804b90b29a1ac989"), looks := true }, kinds := [], alts := [], laidByText := true, laidKinds := [.data, .data, .data, .sentinel, .sentinel, .data], laidTests := true, laidLooks := .later }
def SegmentDropsUptoCardSaid : Prop := Claim7.holds Tryd.pinned (.plain (OpenSpec.upto segmentDropsSpec)) segmentDropsUptoCard

/-- THE SECOND FORM's CARD OF 'penstocklaw10.SegmentCutOff'. -/
def segmentCutOffUptoCard : Claim7 := { stood := { row := segmentCutOffUptoRow, standIns := [], harness := (true, "f95b95d43857760717316c825e3126e7888ab24a92f180fd804b90b29a1ac989"), looks := true }, kinds := [], alts := [], laidByText := true, laidKinds := [.data, .data, .data, .sentinel, .sentinel, .data], laidTests := true, laidLooks := .later }
def SegmentCutOffUptoCardSaid : Prop := Claim7.holds Tryd.pinned (.plain (OpenSpec.upto segmentCutOffSpec)) segmentCutOffUptoCard

/-- THE SECOND FORM's CARD OF 'penstocklaw10.SegmentTwins'. -/
def segmentTwinsUptoCard : Claim7 := { stood := { row := segmentTwinsUptoRow, standIns := [], harness := (true, "f95b95d43857760717316c825e3126e7888ab24a92f180fd804b90b29a1ac989"), looks := true }, kinds := [], alts := [], laidByText := true, laidKinds := [.data, .data, .data, .sentinel, .sentinel, .data], laidTests := true, laidLooks := .later }
def SegmentTwinsUptoCardSaid : Prop := Claim7.holds Tryd.pinned (.plain (OpenSpec.upto segmentTwinsSpec)) segmentTwinsUptoCard
end Rows
end Go.Proofs.YtcefhcailhediaaDoor
