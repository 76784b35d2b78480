/-
  DERIVED. GIVEN WITH THE SEED: THE CARDS: each row of YtaeigacinefhnaaDoorRows.lean that lists a variable, with what it lists TIED to the program's text (the seventh form; the later family's looks); each row that meets fmt, with fmt's text TOLD by the authors' own Lean function (tested against real Go, not proved from fmt's source: count such statements apart). THE CARD IS WHAT COUNTS. Prove the row's statement (the work); the ties are given (YtaeigacinefhnaaDoorTie.lean); close each card by the builder's one call (the guide's Derived/Test/ToyasCard.lean, 'card_holds'). Laid BY PROGRAM, IN A SANDBOX (cutbox-door.mjs). By AI agents, Wed Nov 11 2026. No macro, syntax, notation, axiom, sorry.
-/
import Derived.Test.YtaeigacinefhnaaDoorRows
import GoSem.ClaimSeven
namespace Go.Proofs.YtaeigacinefhnaaDoor
namespace Rows

/-- THE TIED CARD OF 'shelflaw6.SymsCut'. -/
def symsCutCard : Claim7 := { stood := { row := symsCutRow, standIns := [], harness := (true, "b2bf86b35af39f21d3b366b2d3410b9c56b58df3b663d0af3dbdcc4efea1dc6f"), looks := true }, kinds := [], alts := [], laidByText := true, laidKinds := [.data], laidTests := true, laidLooks := .later }
def SymsCutCardSaid : Prop := Claim7.holds Tryd.pinned (.plain (OpenSpec.ofChange symsCutSpec)) symsCutCard

/-- THE TIED CARD OF 'shelflaw6.SymsBroken'. -/
def symsBrokenCard : Claim7 := { stood := { row := symsBrokenRow, standIns := [], harness := (true, "b2bf86b35af39f21d3b366b2d3410b9c56b58df3b663d0af3dbdcc4efea1dc6f"), looks := true }, kinds := [], alts := [], laidByText := true, laidKinds := [.data], laidTests := true, laidLooks := .later }
def SymsBrokenCardSaid : Prop := Claim7.holds Tryd.pinned (.plain (OpenSpec.ofChange symsBrokenSpec)) symsBrokenCard

/-- THE TIED CARD OF 'shelflaw6.SymsFilter'. -/
def symsFilterCard : Claim7 := { stood := { row := symsFilterRow, standIns := [], harness := (true, "b2bf86b35af39f21d3b366b2d3410b9c56b58df3b663d0af3dbdcc4efea1dc6f"), looks := true }, kinds := [], alts := [], laidByText := true, laidKinds := [.data], laidTests := true, laidLooks := .later }
def SymsFilterCardSaid : Prop := Claim7.holds Tryd.pinned (.plain (OpenSpec.ofChange symsFilterSpec)) symsFilterCard

/-- THE TIED CARD OF 'shelflaw6.SymsTable'. -/
def symsTableCard : Claim7 := { stood := { row := symsTableRow, standIns := [], harness := (true, "b2bf86b35af39f21d3b366b2d3410b9c56b58df3b663d0af3dbdcc4efea1dc6f"), looks := true }, kinds := [], alts := [], laidByText := true, laidKinds := [.data], laidTests := true, laidLooks := .later }
def SymsTableCardSaid : Prop := Claim7.holds Tryd.pinned (.plain (OpenSpec.ofChange symsTableSpec)) symsTableCard

/-- THE TIED CARD OF 'shelflaw6.SymsBehind'. -/
def symsBehindCard : Claim7 := { stood := { row := symsBehindRow, standIns := [], harness := (true, "b2bf86b35af39f21d3b366b2d3410b9c56b58df3b663d0af3dbdcc4efea1dc6f"), looks := true }, kinds := [], alts := [], laidByText := true, laidKinds := [.data], laidTests := true, laidLooks := .later }
def SymsBehindCardSaid : Prop := Claim7.holds Tryd.pinned (.plain (OpenSpec.ofChange symsBehindSpec)) symsBehindCard

/-- THE TIED CARD OF 'shelflaw6.SymsTables'. -/
def symsTablesCard : Claim7 := { stood := { row := symsTablesRow, standIns := [], harness := (true, "b2bf86b35af39f21d3b366b2d3410b9c56b58df3b663d0af3dbdcc4efea1dc6f"), looks := true }, kinds := [], alts := [], laidByText := true, laidKinds := [.data], laidTests := true, laidLooks := .later }
def SymsTablesCardSaid : Prop := Claim7.holds Tryd.pinned (.plain (OpenSpec.ofChange symsTablesSpec)) symsTablesCard

/-- THE SECOND FORM's CARD OF 'shelflaw6.SymsCut'. -/
def symsCutUptoCard : Claim7 := { stood := { row := symsCutUptoRow, standIns := [], harness := (true, "b2bf86b35af39f21d3b366b2d3410b9c56b58df3b663d0af3dbdcc4efea1dc6f"), looks := true }, kinds := [], alts := [], laidByText := true, laidKinds := [.data], laidTests := true, laidLooks := .later }
def SymsCutUptoCardSaid : Prop := Claim7.holds Tryd.pinned (.plain (OpenSpec.upto symsCutSpec)) symsCutUptoCard

/-- THE SECOND FORM's CARD OF 'shelflaw6.SymsBroken'. -/
def symsBrokenUptoCard : Claim7 := { stood := { row := symsBrokenUptoRow, standIns := [], harness := (true, "b2bf86b35af39f21d3b366b2d3410b9c56b58df3b663d0af3dbdcc4efea1dc6f"), looks := true }, kinds := [], alts := [], laidByText := true, laidKinds := [.data], laidTests := true, laidLooks := .later }
def SymsBrokenUptoCardSaid : Prop := Claim7.holds Tryd.pinned (.plain (OpenSpec.upto symsBrokenSpec)) symsBrokenUptoCard

/-- THE SECOND FORM's CARD OF 'shelflaw6.SymsFilter'. -/
def symsFilterUptoCard : Claim7 := { stood := { row := symsFilterUptoRow, standIns := [], harness := (true, "b2bf86b35af39f21d3b366b2d3410b9c56b58df3b663d0af3dbdcc4efea1dc6f"), looks := true }, kinds := [], alts := [], laidByText := true, laidKinds := [.data], laidTests := true, laidLooks := .later }
def SymsFilterUptoCardSaid : Prop := Claim7.holds Tryd.pinned (.plain (OpenSpec.upto symsFilterSpec)) symsFilterUptoCard

/-- THE SECOND FORM's CARD OF 'shelflaw6.SymsTable'. -/
def symsTableUptoCard : Claim7 := { stood := { row := symsTableUptoRow, standIns := [], harness := (true, "b2bf86b35af39f21d3b366b2d3410b9c56b58df3b663d0af3dbdcc4efea1dc6f"), looks := true }, kinds := [], alts := [], laidByText := true, laidKinds := [.data], laidTests := true, laidLooks := .later }
def SymsTableUptoCardSaid : Prop := Claim7.holds Tryd.pinned (.plain (OpenSpec.upto symsTableSpec)) symsTableUptoCard

/-- THE SECOND FORM's CARD OF 'shelflaw6.SymsBehind'. -/
def symsBehindUptoCard : Claim7 := { stood := { row := symsBehindUptoRow, standIns := [], harness := (true, "b2bf86b35af39f21d3b366b2d3410b9c56b58df3b663d0af3dbdcc4efea1dc6f"), looks := true }, kinds := [], alts := [], laidByText := true, laidKinds := [.data], laidTests := true, laidLooks := .later }
def SymsBehindUptoCardSaid : Prop := Claim7.holds Tryd.pinned (.plain (OpenSpec.upto symsBehindSpec)) symsBehindUptoCard

/-- THE SECOND FORM's CARD OF 'shelflaw6.SymsTables'. -/
def symsTablesUptoCard : Claim7 := { stood := { row := symsTablesUptoRow, standIns := [], harness := (true, "b2bf86b35af39f21d3b366b2d3410b9c56b58df3b663d0af3dbdcc4efea1dc6f"), looks := true }, kinds := [], alts := [], laidByText := true, laidKinds := [.data], laidTests := true, laidLooks := .later }
def SymsTablesUptoCardSaid : Prop := Claim7.holds Tryd.pinned (.plain (OpenSpec.upto symsTablesSpec)) symsTablesUptoCard
end Rows
end Go.Proofs.YtaeigacinefhnaaDoor
