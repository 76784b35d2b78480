/-
  DERIVED. GIVEN WITH THE SEED: THE CARDS: each row of YtnfplepaejjmfaaGreatDoorRows.lean that lists a variable, with what it lists TIED to the program's text (the seventh form; the later family's looks); each row that meets fmt, with fmt's text TOLD by the authors' own Lean function (tested against real Go, not proved from fmt's source: count such statements apart). THE CARD IS WHAT COUNTS. Prove the row's statement (the work); the ties are given (YtnfplepaejjmfaaGreatDoorTie.lean); close each card by the builder's one call (the guide's Derived/Test/ToyasCard.lean, 'card_holds'). Laid BY PROGRAM, IN A SANDBOX (cutbox-door.mjs). By AI agents, Wed Nov 11 2026. No macro, syntax, notation, axiom, sorry.
-/
import Derived.Test.YtnfplepaejjmfaaGreatDoorRows
import GoSem.ClaimSeven
namespace Go.Proofs.YtnfplepaejjmfaaGreatDoor
namespace Rows

/-- THE TIED CARD OF 'shelflaw9.ArcEach'. -/
def arcEachCard : Claim7 := { stood := { row := arcEachRow, standIns := [], harness := (true, "95f12e439a0a0c28aa7081d82d3f1abe486aaf867a33ede65a1b7f2d37d8552d"), looks := true }, kinds := [], alts := [], laidByText := true, laidKinds := [.data, .data, .pinned], laidTests := true, laidLooks := .later }
def ArcEachCardSaid : Prop := Claim7.holds Tryz.pinned (.plain (OpenSpec.ofChange arcEachSpec)) arcEachCard

/-- THE TIED CARD OF 'shelflaw9.ArcEachStop'. -/
def arcEachStopCard : Claim7 := { stood := { row := arcEachStopRow, standIns := [], harness := (true, "95f12e439a0a0c28aa7081d82d3f1abe486aaf867a33ede65a1b7f2d37d8552d"), looks := true }, kinds := [], alts := [], laidByText := true, laidKinds := [.data, .data, .pinned], laidTests := true, laidLooks := .later }
def ArcEachStopCardSaid : Prop := Claim7.holds Tryz.pinned (.plain (OpenSpec.ofChange arcEachStopSpec)) arcEachStopCard

/-- THE TIED CARD OF 'shelflaw9.ArcParse'. -/
def arcParseCard : Claim7 := { stood := { row := arcParseRow, standIns := [], harness := (true, "95f12e439a0a0c28aa7081d82d3f1abe486aaf867a33ede65a1b7f2d37d8552d"), looks := true }, kinds := [], alts := [], laidByText := true, laidKinds := [.data, .data, .pinned], laidTests := true, laidLooks := .later }
def ArcParseCardSaid : Prop := Claim7.holds Tryz.pinned (.plain (OpenSpec.ofChange arcParseSpec)) arcParseCard

/-- THE TIED CARD OF 'shelflaw9.ArcLists'. -/
def arcListsCard : Claim7 := { stood := { row := arcListsRow, standIns := [], harness := (true, "95f12e439a0a0c28aa7081d82d3f1abe486aaf867a33ede65a1b7f2d37d8552d"), looks := true }, kinds := [], alts := [], laidByText := true, laidKinds := [.data, .data, .pinned], laidTests := true, laidLooks := .later }
def ArcListsCardSaid : Prop := Claim7.holds Tryz.pinned (.plain (OpenSpec.ofChange arcListsSpec)) arcListsCard

/-- THE TIED CARD OF 'shelflaw9.ArcTiles'. -/
def arcTilesCard : Claim7 := { stood := { row := arcTilesRow, standIns := [], harness := (true, "95f12e439a0a0c28aa7081d82d3f1abe486aaf867a33ede65a1b7f2d37d8552d"), looks := true }, kinds := [], alts := [], laidByText := true, laidKinds := [.data, .data, .data, .data, .data, .pinned], laidTests := true, laidLooks := .later }
def ArcTilesCardSaid : Prop := Claim7.holds Tryz.pinned (.plain (OpenSpec.ofChange arcTilesSpec)) arcTilesCard

/-- THE TIED CARD OF 'shelflaw9.ArcMade'. -/
def arcMadeCard : Claim7 := { stood := { row := arcMadeRow, standIns := [], harness := (true, "95f12e439a0a0c28aa7081d82d3f1abe486aaf867a33ede65a1b7f2d37d8552d"), looks := true }, kinds := [], alts := [], laidByText := true, laidKinds := [.data, .data, .data, .data, .data, .pinned], laidTests := true, laidLooks := .later }
def ArcMadeCardSaid : Prop := Claim7.holds Tryz.pinned (.plain (OpenSpec.ofChange arcMadeSpec)) arcMadeCard

/-- THE SECOND FORM's CARD OF 'shelflaw9.ArcEach'. -/
def arcEachUptoCard : Claim7 := { stood := { row := arcEachUptoRow, standIns := [], harness := (true, "95f12e439a0a0c28aa7081d82d3f1abe486aaf867a33ede65a1b7f2d37d8552d"), looks := true }, kinds := [], alts := [], laidByText := true, laidKinds := [.data, .data, .pinned], laidTests := true, laidLooks := .later }
def ArcEachUptoCardSaid : Prop := Claim7.holds Tryz.pinned (.plain (OpenSpec.upto arcEachSpec)) arcEachUptoCard

/-- THE SECOND FORM's CARD OF 'shelflaw9.ArcEachStop'. -/
def arcEachStopUptoCard : Claim7 := { stood := { row := arcEachStopUptoRow, standIns := [], harness := (true, "95f12e439a0a0c28aa7081d82d3f1abe486aaf867a33ede65a1b7f2d37d8552d"), looks := true }, kinds := [], alts := [], laidByText := true, laidKinds := [.data, .data, .pinned], laidTests := true, laidLooks := .later }
def ArcEachStopUptoCardSaid : Prop := Claim7.holds Tryz.pinned (.plain (OpenSpec.upto arcEachStopSpec)) arcEachStopUptoCard

/-- THE SECOND FORM's CARD OF 'shelflaw9.ArcParse'. -/
def arcParseUptoCard : Claim7 := { stood := { row := arcParseUptoRow, standIns := [], harness := (true, "95f12e439a0a0c28aa7081d82d3f1abe486aaf867a33ede65a1b7f2d37d8552d"), looks := true }, kinds := [], alts := [], laidByText := true, laidKinds := [.data, .data, .pinned], laidTests := true, laidLooks := .later }
def ArcParseUptoCardSaid : Prop := Claim7.holds Tryz.pinned (.plain (OpenSpec.upto arcParseSpec)) arcParseUptoCard

/-- THE SECOND FORM's CARD OF 'shelflaw9.ArcLists'. -/
def arcListsUptoCard : Claim7 := { stood := { row := arcListsUptoRow, standIns := [], harness := (true, "95f12e439a0a0c28aa7081d82d3f1abe486aaf867a33ede65a1b7f2d37d8552d"), looks := true }, kinds := [], alts := [], laidByText := true, laidKinds := [.data, .data, .pinned], laidTests := true, laidLooks := .later }
def ArcListsUptoCardSaid : Prop := Claim7.holds Tryz.pinned (.plain (OpenSpec.upto arcListsSpec)) arcListsUptoCard

/-- THE SECOND FORM's CARD OF 'shelflaw9.ArcTiles'. -/
def arcTilesUptoCard : Claim7 := { stood := { row := arcTilesUptoRow, standIns := [], harness := (true, "95f12e439a0a0c28aa7081d82d3f1abe486aaf867a33ede65a1b7f2d37d8552d"), looks := true }, kinds := [], alts := [], laidByText := true, laidKinds := [.data, .data, .data, .data, .data, .pinned], laidTests := true, laidLooks := .later }
def ArcTilesUptoCardSaid : Prop := Claim7.holds Tryz.pinned (.plain (OpenSpec.upto arcTilesSpec)) arcTilesUptoCard

/-- THE SECOND FORM's CARD OF 'shelflaw9.ArcMade'. -/
def arcMadeUptoCard : Claim7 := { stood := { row := arcMadeUptoRow, standIns := [], harness := (true, "95f12e439a0a0c28aa7081d82d3f1abe486aaf867a33ede65a1b7f2d37d8552d"), looks := true }, kinds := [], alts := [], laidByText := true, laidKinds := [.data, .data, .data, .data, .data, .pinned], laidTests := true, laidLooks := .later }
def ArcMadeUptoCardSaid : Prop := Claim7.holds Tryz.pinned (.plain (OpenSpec.upto arcMadeSpec)) arcMadeUptoCard
end Rows
end Go.Proofs.YtnfplepaejjmfaaGreatDoor
