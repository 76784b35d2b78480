/-
  DERIVED. GIVEN WITH THE SEED: THE CARDS: each row of YtbbblncoicjacaaGreatDoorRows.lean that lists a variable, with what it lists TIED to the program's text (the seventh form; the later family's looks); each row that meets fmt, with fmt's text TOLD by the authors' own Lean function (tested against real Go, not proved from fmt's source: count such statements apart). THE CARD IS WHAT COUNTS. Prove the row's statement (the work); the ties are given (YtbbblncoicjacaaGreatDoorTie.lean); close each card by the builder's one call (the guide's Derived/Test/ToyasCard.lean, 'card_holds'). Laid BY PROGRAM, IN A SANDBOX (cutbox-door.mjs). By AI agents, Wed Nov 11 2026. No macro, syntax, notation, axiom, sorry.
-/
import Derived.Test.YtbbblncoicjacaaGreatDoorRows
import GoSem.ClaimSeven
namespace Go.Proofs.YtbbblncoicjacaaGreatDoor
namespace Rows

/-- THE TIED CARD OF 'shelflaw16.CommitWorks'. -/
def commitWorksCard : Claim7 := { stood := { row := commitWorksRow, standIns := [], harness := (true, "7ddacc501d96a9e532b019e6673df7cf932f5012ccd01ed3dfb90e529632cf1a"), looks := true }, kinds := [], alts := [], laidByText := true, laidKinds := [.handle], laidTests := true, laidLooks := .later }
def CommitWorksCardSaid : Prop := Claim7.holds Tryz.pinned (.plain (OpenSpec.ofChange commitWorksSpec)) commitWorksCard

/-- THE SECOND FORM's CARD OF 'shelflaw16.CommitWorks'. -/
def commitWorksUptoCard : Claim7 := { stood := { row := commitWorksUptoRow, standIns := [], harness := (true, "7ddacc501d96a9e532b019e6673df7cf932f5012ccd01ed3dfb90e529632cf1a"), looks := true }, kinds := [], alts := [], laidByText := true, laidKinds := [.handle], laidTests := true, laidLooks := .later }
def CommitWorksUptoCardSaid : Prop := Claim7.holds Tryz.pinned (.plain (OpenSpec.upto commitWorksSpec)) commitWorksUptoCard
end Rows
end Go.Proofs.YtbbblncoicjacaaGreatDoor
