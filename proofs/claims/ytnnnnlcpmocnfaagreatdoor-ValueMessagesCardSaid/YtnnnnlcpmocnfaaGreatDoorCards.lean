/-
  DERIVED. GIVEN WITH THE SEED: THE CARDS: each row of YtnnnnlcpmocnfaaGreatDoorRows.lean that lists a variable, with what it lists TIED to the program's text (the seventh form; the later family's looks); each row that meets fmt, with fmt's text TOLD by the authors' own Lean function (tested against real Go, not proved from fmt's source: count such statements apart). THE CARD IS WHAT COUNTS. Prove the row's statement (the work); the ties are given (YtnnnnlcpmocnfaaGreatDoorTie.lean); close each card by the builder's one call (the guide's Derived/Test/ToyasCard.lean, 'card_holds'). Laid BY PROGRAM, IN A SANDBOX (cutbox-door.mjs). By AI agents, Wed Nov 11 2026. No macro, syntax, notation, axiom, sorry.
-/
import Derived.Test.YtnnnnlcpmocnfaaGreatDoorRows
import GoSem.ClaimSeven
namespace Go.Proofs.YtnnnnlcpmocnfaaGreatDoor
namespace Rows

/-- THE TIED CARD OF 'penstocklaw02.ValueMessages'. -/
def valueMessagesCard : Claim7 := { stood := { row := valueMessagesRow, standIns := [], harness := (true, "c8a93d38e3910395a0849d35d3620b8c7d4021b3978b6f47a033133fca34ca62"), looks := true }, kinds := [], alts := [], laidByText := true, laidKinds := [.data, .pinned], laidTests := true, laidLooks := .later }
def ValueMessagesCardSaid : Prop := Claim7.holds Tryz.pinned (.plain (OpenSpec.ofChange valueMessagesSpec)) valueMessagesCard

/-- THE SECOND FORM's CARD OF 'penstocklaw02.ValueMessages'. -/
def valueMessagesUptoCard : Claim7 := { stood := { row := valueMessagesUptoRow, standIns := [], harness := (true, "c8a93d38e3910395a0849d35d3620b8c7d4021b3978b6f47a033133fca34ca62"), looks := true }, kinds := [], alts := [], laidByText := true, laidKinds := [.data, .pinned], laidTests := true, laidLooks := .later }
def ValueMessagesUptoCardSaid : Prop := Claim7.holds Tryz.pinned (.plain (OpenSpec.upto valueMessagesSpec)) valueMessagesUptoCard
end Rows
end Go.Proofs.YtnnnnlcpmocnfaaGreatDoor
