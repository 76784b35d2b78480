/-
  DERIVED. GIVEN WITH THE SEED: THE CARDS: each row of YtkmehjikllilaaaDoorRows.lean that lists a variable, with what it lists TIED to the program's text (the seventh form; the later family's looks); each row that meets fmt, with fmt's text TOLD by the authors' own Lean function (tested against real Go, not proved from fmt's source: count such statements apart). THE CARD IS WHAT COUNTS. Prove the row's statement (the work); the ties are given (YtkmehjikllilaaaDoorTie.lean); close each card by the builder's one call (the guide's Derived/Test/ToyasCard.lean, 'card_holds'). Laid BY PROGRAM, IN A SANDBOX (cutbox-door.mjs). By AI agents, Wed Nov 11 2026. No macro, syntax, notation, axiom, sorry.
-/
import Derived.Test.YtkmehjikllilaaaDoorRows
import GoSem.ClaimSeven
namespace Go.Proofs.YtkmehjikllilaaaDoor
namespace Rows

/-- THE TIED CARD OF 'shelflaw12.PackUnits'. -/
def packUnitsCard : Claim7 := { stood := { row := packUnitsRow, standIns := [], harness := (true, "c2dbc32cfb4837eda6ddca81579552a2929e7b4fe24f7c72cd40e8c42f25ccb3"), looks := true }, kinds := [], alts := [], laidByText := true, laidKinds := [.data], laidTests := true, laidLooks := .later }
def PackUnitsCardSaid : Prop := Claim7.holds Tryd.pinned (.plain (OpenSpec.ofChange packUnitsSpec)) packUnitsCard

/-- THE SECOND FORM's CARD OF 'shelflaw12.PackUnits'. -/
def packUnitsUptoCard : Claim7 := { stood := { row := packUnitsUptoRow, standIns := [], harness := (true, "c2dbc32cfb4837eda6ddca81579552a2929e7b4fe24f7c72cd40e8c42f25ccb3"), looks := true }, kinds := [], alts := [], laidByText := true, laidKinds := [.data], laidTests := true, laidLooks := .later }
def PackUnitsUptoCardSaid : Prop := Claim7.holds Tryd.pinned (.plain (OpenSpec.upto packUnitsSpec)) packUnitsUptoCard
end Rows
end Go.Proofs.YtkmehjikllilaaaDoor
