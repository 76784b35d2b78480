/-
  DERIVED. GIVEN WITH THE SEED: THE CARDS: each row of YtegjklllnegghaaGreatDoorRows.lean that lists a variable, with what it lists TIED to the program's text (the seventh form; the later family's looks); each row that meets fmt, with fmt's text TOLD by the authors' own Lean function (tested against real Go, not proved from fmt's source: count such statements apart). THE CARD IS WHAT COUNTS. Prove the row's statement (the work); the ties are given (YtegjklllnegghaaGreatDoorTie.lean); close each card by the builder's one call (the guide's Derived/Test/ToyasCard.lean, 'card_holds'). Laid BY PROGRAM, IN A SANDBOX (cutbox-door.mjs). By AI agents, Wed Nov 11 2026. No macro, syntax, notation, axiom, sorry.
-/
import Derived.Test.YtegjklllnegghaaGreatDoorRows
import GoSem.ClaimSeven
namespace Go.Proofs.YtegjklllnegghaaGreatDoor
namespace Rows

/-- THE TIED CARD OF 'shelflaw11.IndexCells'. -/
def indexCellsCard : Claim7 := { stood := { row := indexCellsRow, standIns := [], harness := (true, "223da4c4a47d4679f0755f0db1826834b6d0d93512d8711b98b7c50d39e2eb65"), looks := false }, kinds := [], alts := [], laidByText := true, laidKinds := [.data, .pinned], laidTests := true, laidLooks := .later }
def IndexCellsCardSaid : Prop := Claim7.holds Tryz.pinned (.plain (OpenSpec.ofChange indexCellsSpec)) indexCellsCard

/-- THE TIED CARD OF 'shelflaw11.IndexFound'. -/
def indexFoundCard : Claim7 := { stood := { row := indexFoundRow, standIns := [], harness := (true, "223da4c4a47d4679f0755f0db1826834b6d0d93512d8711b98b7c50d39e2eb65"), looks := false }, kinds := [], alts := [], laidByText := true, laidKinds := [.data, .pinned], laidTests := true, laidLooks := .later }
def IndexFoundCardSaid : Prop := Claim7.holds Tryz.pinned (.plain (OpenSpec.ofChange indexFoundSpec)) indexFoundCard

/-- THE TIED CARD OF 'shelflaw11.IndexCut'. -/
def indexCutCard : Claim7 := { stood := { row := indexCutRow, standIns := [], harness := (true, "223da4c4a47d4679f0755f0db1826834b6d0d93512d8711b98b7c50d39e2eb65"), looks := false }, kinds := [], alts := [], laidByText := true, laidKinds := [.data, .pinned], laidTests := true, laidLooks := .later }
def IndexCutCardSaid : Prop := Claim7.holds Tryz.pinned (.plain (OpenSpec.ofChange indexCutSpec)) indexCutCard

/-- THE TIED CARD OF 'shelflaw11.IndexEncode'. -/
def indexEncodeCard : Claim7 := { stood := { row := indexEncodeRow, standIns := [], harness := (true, "223da4c4a47d4679f0755f0db1826834b6d0d93512d8711b98b7c50d39e2eb65"), looks := false }, kinds := [], alts := [], laidByText := true, laidKinds := [.data, .pinned], laidTests := true, laidLooks := .later }
def IndexEncodeCardSaid : Prop := Claim7.holds Tryz.pinned (.plain (OpenSpec.ofChange indexEncodeSpec)) indexEncodeCard

/-- THE SECOND FORM's CARD OF 'shelflaw11.IndexCells'. -/
def indexCellsUptoCard : Claim7 := { stood := { row := indexCellsUptoRow, standIns := [], harness := (true, "223da4c4a47d4679f0755f0db1826834b6d0d93512d8711b98b7c50d39e2eb65"), looks := false }, kinds := [], alts := [], laidByText := true, laidKinds := [.data, .pinned], laidTests := true, laidLooks := .later }
def IndexCellsUptoCardSaid : Prop := Claim7.holds Tryz.pinned (.plain (OpenSpec.upto indexCellsSpec)) indexCellsUptoCard

/-- THE SECOND FORM's CARD OF 'shelflaw11.IndexFound'. -/
def indexFoundUptoCard : Claim7 := { stood := { row := indexFoundUptoRow, standIns := [], harness := (true, "223da4c4a47d4679f0755f0db1826834b6d0d93512d8711b98b7c50d39e2eb65"), looks := false }, kinds := [], alts := [], laidByText := true, laidKinds := [.data, .pinned], laidTests := true, laidLooks := .later }
def IndexFoundUptoCardSaid : Prop := Claim7.holds Tryz.pinned (.plain (OpenSpec.upto indexFoundSpec)) indexFoundUptoCard

/-- THE SECOND FORM's CARD OF 'shelflaw11.IndexCut'. -/
def indexCutUptoCard : Claim7 := { stood := { row := indexCutUptoRow, standIns := [], harness := (true, "223da4c4a47d4679f0755f0db1826834b6d0d93512d8711b98b7c50d39e2eb65"), looks := false }, kinds := [], alts := [], laidByText := true, laidKinds := [.data, .pinned], laidTests := true, laidLooks := .later }
def IndexCutUptoCardSaid : Prop := Claim7.holds Tryz.pinned (.plain (OpenSpec.upto indexCutSpec)) indexCutUptoCard

/-- THE SECOND FORM's CARD OF 'shelflaw11.IndexEncode'. -/
def indexEncodeUptoCard : Claim7 := { stood := { row := indexEncodeUptoRow, standIns := [], harness := (true, "223da4c4a47d4679f0755f0db1826834b6d0d93512d8711b98b7c50d39e2eb65"), looks := false }, kinds := [], alts := [], laidByText := true, laidKinds := [.data, .pinned], laidTests := true, laidLooks := .later }
def IndexEncodeUptoCardSaid : Prop := Claim7.holds Tryz.pinned (.plain (OpenSpec.upto indexEncodeSpec)) indexEncodeUptoCard
end Rows
end Go.Proofs.YtegjklllnegghaaGreatDoor
