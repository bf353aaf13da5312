/-
  DERIVED. GIVEN WITH THE SEED: THE CARDS: each row of YtomicdkmbgckkaaGreatDoorRows.lean that lists a variable, with what it lists TIED to the program's text (the seventh form; the later family's looks); each row that meets fmt, with fmt's text TOLD by the authors' own Lean function (tested against real Go, not proved from fmt's source: count such statements apart). THE CARD IS WHAT COUNTS. Prove the row's statement (the work); the ties are given (YtomicdkmbgckkaaGreatDoorTie.lean); close each card by the builder's one call (the guide's Derived/Test/ToyasCard.lean, 'card_holds'). Laid BY PROGRAM, IN A SANDBOX (cutbox-door.mjs). By AI agents, Wed Nov 11 2026. No macro, syntax, notation, axiom, sorry.
-/
import Derived.Test.YtomicdkmbgckkaaGreatDoorRows
import GoSem.ClaimSeven
namespace Go.Proofs.YtomicdkmbgckkaaGreatDoor
namespace Rows

/-- THE TIED CARD OF 'penstocklaw08.ServerQuiet'. -/
def serverQuietCard : Claim7 := { stood := { row := serverQuietRow, standIns := [], harness := (true, "0c6f74bd167e3f7ffb394556ab4633cc74bc0578d10dfecb97980633c19c3fc5"), looks := true }, kinds := [], alts := [], laidByText := true, laidKinds := [.data, .data, .data, .data, .sentinel, .sentinel, .pinned], laidTests := true, laidLooks := .later }
def ServerQuietCardSaid : Prop := Claim7.holds Tryz.pinned (.plain (OpenSpec.ofChange serverQuietSpec)) serverQuietCard

/-- THE TIED CARD OF 'penstocklaw08.ServerTakes'. -/
def serverTakesCard : Claim7 := { stood := { row := serverTakesRow, standIns := [], harness := (true, "0c6f74bd167e3f7ffb394556ab4633cc74bc0578d10dfecb97980633c19c3fc5"), looks := true }, kinds := [], alts := [], laidByText := true, laidKinds := [.data, .data, .data, .data, .sentinel, .sentinel, .pinned], laidTests := true, laidLooks := .later }
def ServerTakesCardSaid : Prop := Claim7.holds Tryz.pinned (.plain (OpenSpec.ofChange serverTakesSpec)) serverTakesCard

/-- THE SECOND FORM's CARD OF 'penstocklaw08.ServerQuiet'. -/
def serverQuietUptoCard : Claim7 := { stood := { row := serverQuietUptoRow, standIns := [], harness := (true, "0c6f74bd167e3f7ffb394556ab4633cc74bc0578d10dfecb97980633c19c3fc5"), looks := true }, kinds := [], alts := [], laidByText := true, laidKinds := [.data, .data, .data, .data, .sentinel, .sentinel, .pinned], laidTests := true, laidLooks := .later }
def ServerQuietUptoCardSaid : Prop := Claim7.holds Tryz.pinned (.plain (OpenSpec.upto serverQuietSpec)) serverQuietUptoCard

/-- THE SECOND FORM's CARD OF 'penstocklaw08.ServerTakes'. -/
def serverTakesUptoCard : Claim7 := { stood := { row := serverTakesUptoRow, standIns := [], harness := (true, "0c6f74bd167e3f7ffb394556ab4633cc74bc0578d10dfecb97980633c19c3fc5"), looks := true }, kinds := [], alts := [], laidByText := true, laidKinds := [.data, .data, .data, .data, .sentinel, .sentinel, .pinned], laidTests := true, laidLooks := .later }
def ServerTakesUptoCardSaid : Prop := Claim7.holds Tryz.pinned (.plain (OpenSpec.upto serverTakesSpec)) serverTakesUptoCard
end Rows
end Go.Proofs.YtomicdkmbgckkaaGreatDoor
