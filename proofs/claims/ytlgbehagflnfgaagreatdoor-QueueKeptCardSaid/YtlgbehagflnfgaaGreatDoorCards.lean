/-
  DERIVED. GIVEN WITH THE SEED: THE CARDS: each row of YtlgbehagflnfgaaGreatDoorRows.lean that lists a variable, with what it lists TIED to the program's text (the seventh form; the later family's looks); each row that meets fmt, with fmt's text TOLD by the authors' own Lean function (tested against real Go, not proved from fmt's source: count such statements apart). THE CARD IS WHAT COUNTS. Prove the row's statement (the work); the ties are given (YtlgbehagflnfgaaGreatDoorTie.lean); close each card by the builder's one call (the guide's Derived/Test/ToyasCard.lean, 'card_holds'). Laid BY PROGRAM, IN A SANDBOX (cutbox-door.mjs). By AI agents, Wed Nov 11 2026. No macro, syntax, notation, axiom, sorry.
-/
import Derived.Test.YtlgbehagflnfgaaGreatDoorRows
import GoSem.ClaimSeven
namespace Go.Proofs.YtlgbehagflnfgaaGreatDoor
namespace Rows

/-- THE TIED CARD OF 'penstocklaw11.QueueDoes'. -/
def queueDoesCard : Claim7 := { stood := { row := queueDoesRow, standIns := [], harness := (true, "f9e879a6d7b05857cad1f4b5153e8166df83786c4a7590ebcf9b1084d61c0e5a"), looks := true }, kinds := [], alts := [], laidByText := true, laidKinds := [.data, .data, .data, .sentinel, .sentinel, .data], laidTests := true, laidLooks := .later }
def QueueDoesCardSaid : Prop := Claim7.holds Tryz.pinned (.plain (OpenSpec.ofChange queueDoesSpec)) queueDoesCard

/-- THE TIED CARD OF 'penstocklaw11.QueueKept'. -/
def queueKeptCard : Claim7 := { stood := { row := queueKeptRow, standIns := [], harness := (true, "f9e879a6d7b05857cad1f4b5153e8166df83786c4a7590ebcf9b1084d61c0e5a"), looks := true }, kinds := [], alts := [], laidByText := true, laidKinds := [.data, .data, .data, .sentinel, .sentinel, .data], laidTests := true, laidLooks := .later }
def QueueKeptCardSaid : Prop := Claim7.holds Tryz.pinned (.plain (OpenSpec.ofChange queueKeptSpec)) queueKeptCard

/-- THE TIED CARD OF 'penstocklaw11.QueueOrder'. -/
def queueOrderCard : Claim7 := { stood := { row := queueOrderRow, standIns := [], harness := (true, "f9e879a6d7b05857cad1f4b5153e8166df83786c4a7590ebcf9b1084d61c0e5a"), looks := true }, kinds := [], alts := [], laidByText := true, laidKinds := [.data, .data, .data, .sentinel, .sentinel, .data], laidTests := true, laidLooks := .later }
def QueueOrderCardSaid : Prop := Claim7.holds Tryz.pinned (.plain (OpenSpec.ofChange queueOrderSpec)) queueOrderCard

/-- THE TIED CARD OF 'penstocklaw11.QueueRight'. -/
def queueRightCard : Claim7 := { stood := { row := queueRightRow, standIns := [], harness := (true, "f9e879a6d7b05857cad1f4b5153e8166df83786c4a7590ebcf9b1084d61c0e5a"), looks := true }, kinds := [], alts := [], laidByText := true, laidKinds := [.data, .data, .data, .sentinel, .sentinel, .data], laidTests := true, laidLooks := .later }
def QueueRightCardSaid : Prop := Claim7.holds Tryz.pinned (.plain (OpenSpec.ofChange queueRightSpec)) queueRightCard

/-- THE TIED CARD OF 'penstocklaw11.QueueLeases'. -/
def queueLeasesCard : Claim7 := { stood := { row := queueLeasesRow, standIns := [], harness := (true, "f9e879a6d7b05857cad1f4b5153e8166df83786c4a7590ebcf9b1084d61c0e5a"), looks := true }, kinds := [], alts := [], laidByText := true, laidKinds := [.data, .data, .data, .sentinel, .sentinel, .data], laidTests := true, laidLooks := .later }
def QueueLeasesCardSaid : Prop := Claim7.holds Tryz.pinned (.plain (OpenSpec.ofChange queueLeasesSpec)) queueLeasesCard

/-- THE TIED CARD OF 'penstocklaw11.QueueAgain'. -/
def queueAgainCard : Claim7 := { stood := { row := queueAgainRow, standIns := [], harness := (true, "f9e879a6d7b05857cad1f4b5153e8166df83786c4a7590ebcf9b1084d61c0e5a"), looks := true }, kinds := [], alts := [], laidByText := true, laidKinds := [.data, .data, .data, .sentinel, .sentinel, .data], laidTests := true, laidLooks := .later }
def QueueAgainCardSaid : Prop := Claim7.holds Tryz.pinned (.plain (OpenSpec.ofChange queueAgainSpec)) queueAgainCard

/-- THE TIED CARD OF 'penstocklaw11.QueueFull'. -/
def queueFullCard : Claim7 := { stood := { row := queueFullRow, standIns := [], harness := (true, "f9e879a6d7b05857cad1f4b5153e8166df83786c4a7590ebcf9b1084d61c0e5a"), looks := true }, kinds := [], alts := [], laidByText := true, laidKinds := [.data, .data, .data, .sentinel, .sentinel, .data], laidTests := true, laidLooks := .later }
def QueueFullCardSaid : Prop := Claim7.holds Tryz.pinned (.plain (OpenSpec.ofChange queueFullSpec)) queueFullCard

/-- THE SECOND FORM's CARD OF 'penstocklaw11.QueueDoes'. -/
def queueDoesUptoCard : Claim7 := { stood := { row := queueDoesUptoRow, standIns := [], harness := (true, "f9e879a6d7b05857cad1f4b5153e8166df83786c4a7590ebcf9b1084d61c0e5a"), looks := true }, kinds := [], alts := [], laidByText := true, laidKinds := [.data, .data, .data, .sentinel, .sentinel, .data], laidTests := true, laidLooks := .later }
def QueueDoesUptoCardSaid : Prop := Claim7.holds Tryz.pinned (.plain (OpenSpec.upto queueDoesSpec)) queueDoesUptoCard

/-- THE SECOND FORM's CARD OF 'penstocklaw11.QueueKept'. -/
def queueKeptUptoCard : Claim7 := { stood := { row := queueKeptUptoRow, standIns := [], harness := (true, "f9e879a6d7b05857cad1f4b5153e8166df83786c4a7590ebcf9b1084d61c0e5a"), looks := true }, kinds := [], alts := [], laidByText := true, laidKinds := [.data, .data, .data, .sentinel, .sentinel, .data], laidTests := true, laidLooks := .later }
def QueueKeptUptoCardSaid : Prop := Claim7.holds Tryz.pinned (.plain (OpenSpec.upto queueKeptSpec)) queueKeptUptoCard

/-- THE SECOND FORM's CARD OF 'penstocklaw11.QueueOrder'. -/
def queueOrderUptoCard : Claim7 := { stood := { row := queueOrderUptoRow, standIns := [], harness := (true, "f9e879a6d7b05857cad1f4b5153e8166df83786c4a7590ebcf9b1084d61c0e5a"), looks := true }, kinds := [], alts := [], laidByText := true, laidKinds := [.data, .data, .data, .sentinel, .sentinel, .data], laidTests := true, laidLooks := .later }
def QueueOrderUptoCardSaid : Prop := Claim7.holds Tryz.pinned (.plain (OpenSpec.upto queueOrderSpec)) queueOrderUptoCard

/-- THE SECOND FORM's CARD OF 'penstocklaw11.QueueRight'. -/
def queueRightUptoCard : Claim7 := { stood := { row := queueRightUptoRow, standIns := [], harness := (true, "f9e879a6d7b05857cad1f4b5153e8166df83786c4a7590ebcf9b1084d61c0e5a"), looks := true }, kinds := [], alts := [], laidByText := true, laidKinds := [.data, .data, .data, .sentinel, .sentinel, .data], laidTests := true, laidLooks := .later }
def QueueRightUptoCardSaid : Prop := Claim7.holds Tryz.pinned (.plain (OpenSpec.upto queueRightSpec)) queueRightUptoCard

/-- THE SECOND FORM's CARD OF 'penstocklaw11.QueueLeases'. -/
def queueLeasesUptoCard : Claim7 := { stood := { row := queueLeasesUptoRow, standIns := [], harness := (true, "f9e879a6d7b05857cad1f4b5153e8166df83786c4a7590ebcf9b1084d61c0e5a"), looks := true }, kinds := [], alts := [], laidByText := true, laidKinds := [.data, .data, .data, .sentinel, .sentinel, .data], laidTests := true, laidLooks := .later }
def QueueLeasesUptoCardSaid : Prop := Claim7.holds Tryz.pinned (.plain (OpenSpec.upto queueLeasesSpec)) queueLeasesUptoCard

/-- THE SECOND FORM's CARD OF 'penstocklaw11.QueueAgain'. -/
def queueAgainUptoCard : Claim7 := { stood := { row := queueAgainUptoRow, standIns := [], harness := (true, "f9e879a6d7b05857cad1f4b5153e8166df83786c4a7590ebcf9b1084d61c0e5a"), looks := true }, kinds := [], alts := [], laidByText := true, laidKinds := [.data, .data, .data, .sentinel, .sentinel, .data], laidTests := true, laidLooks := .later }
def QueueAgainUptoCardSaid : Prop := Claim7.holds Tryz.pinned (.plain (OpenSpec.upto queueAgainSpec)) queueAgainUptoCard

/-- THE SECOND FORM's CARD OF 'penstocklaw11.QueueFull'. -/
def queueFullUptoCard : Claim7 := { stood := { row := queueFullUptoRow, standIns := [], harness := (true, "f9e879a6d7b05857cad1f4b5153e8166df83786c4a7590ebcf9b1084d61c0e5a"), looks := true }, kinds := [], alts := [], laidByText := true, laidKinds := [.data, .data, .data, .sentinel, .sentinel, .data], laidTests := true, laidLooks := .later }
def QueueFullUptoCardSaid : Prop := Claim7.holds Tryz.pinned (.plain (OpenSpec.upto queueFullSpec)) queueFullUptoCard
end Rows
end Go.Proofs.YtlgbehagflnfgaaGreatDoor
