/-
  DERIVED. GIVEN WITH THE SEED: THE CARDS: each row of YtaeigacinefhnabDoorRows.lean that lists a variable, with what it lists TIED to the program's text (the seventh form; the later family's looks); each row that meets fmt, with fmt's text TOLD by the authors' own Lean function (tested against real Go, not proved from fmt's source: count such statements apart). THE CARD IS WHAT COUNTS. Prove the row's statement (the work); the ties are given (YtaeigacinefhnabDoorTie.lean); close each card by the builder's one call (the guide's Derived/Test/ToyasCard.lean, 'card_holds'). Laid BY PROGRAM, IN A SANDBOX (cutbox-door.mjs). By AI agents, Wed Nov 11 2026. No macro, syntax, notation, axiom, sorry.
-/
import Derived.Test.YtaeigacinefhnabDoorRows
import GoSem.ClaimSeven
namespace Go.Proofs.YtaeigacinefhnabDoor
namespace Rows

/-- THE TIED CARD OF 'shelflaw6.SymsMade'. -/
def symsMadeCard : Claim7 := { stood := { row := symsMadeRow, standIns := [], harness := (true, "804136ad64168c85c759bb320fe03d31307e3ea97dd9a8602df456cf24eee5df"), looks := true }, kinds := [], alts := [], laidByText := true, laidKinds := [.data], laidTests := true, laidLooks := .later }
def SymsMadeCardSaid : Prop := Claim7.holds Tryd.pinned (.plain (OpenSpec.ofChange symsMadeSpec)) symsMadeCard

/-- THE TIED CARD OF 'shelflaw6.SymsGlobals'. -/
def symsGlobalsCard : Claim7 := { stood := { row := symsGlobalsRow, standIns := [], harness := (true, "804136ad64168c85c759bb320fe03d31307e3ea97dd9a8602df456cf24eee5df"), looks := true }, kinds := [], alts := [], laidByText := true, laidKinds := [.data], laidTests := true, laidLooks := .later }
def SymsGlobalsCardSaid : Prop := Claim7.holds Tryd.pinned (.plain (OpenSpec.ofChange symsGlobalsSpec)) symsGlobalsCard

/-- THE TIED CARD OF 'shelflaw6.SymsNeeds'. -/
def symsNeedsCard : Claim7 := { stood := { row := symsNeedsRow, standIns := [], harness := (true, "804136ad64168c85c759bb320fe03d31307e3ea97dd9a8602df456cf24eee5df"), looks := true }, kinds := [], alts := [], laidByText := true, laidKinds := [.data], laidTests := true, laidLooks := .later }
def SymsNeedsCardSaid : Prop := Claim7.holds Tryd.pinned (.plain (OpenSpec.ofChange symsNeedsSpec)) symsNeedsCard

/-- THE TIED CARD OF 'shelflaw6.SymsLists'. -/
def symsListsCard : Claim7 := { stood := { row := symsListsRow, standIns := [], harness := (true, "804136ad64168c85c759bb320fe03d31307e3ea97dd9a8602df456cf24eee5df"), looks := true }, kinds := [], alts := [], laidByText := true, laidKinds := [.data], laidTests := true, laidLooks := .later }
def SymsListsCardSaid : Prop := Claim7.holds Tryd.pinned (.plain (OpenSpec.ofChange symsListsSpec)) symsListsCard

/-- THE SECOND FORM's CARD OF 'shelflaw6.SymsMade'. -/
def symsMadeUptoCard : Claim7 := { stood := { row := symsMadeUptoRow, standIns := [], harness := (true, "804136ad64168c85c759bb320fe03d31307e3ea97dd9a8602df456cf24eee5df"), looks := true }, kinds := [], alts := [], laidByText := true, laidKinds := [.data], laidTests := true, laidLooks := .later }
def SymsMadeUptoCardSaid : Prop := Claim7.holds Tryd.pinned (.plain (OpenSpec.upto symsMadeSpec)) symsMadeUptoCard

/-- THE SECOND FORM's CARD OF 'shelflaw6.SymsGlobals'. -/
def symsGlobalsUptoCard : Claim7 := { stood := { row := symsGlobalsUptoRow, standIns := [], harness := (true, "804136ad64168c85c759bb320fe03d31307e3ea97dd9a8602df456cf24eee5df"), looks := true }, kinds := [], alts := [], laidByText := true, laidKinds := [.data], laidTests := true, laidLooks := .later }
def SymsGlobalsUptoCardSaid : Prop := Claim7.holds Tryd.pinned (.plain (OpenSpec.upto symsGlobalsSpec)) symsGlobalsUptoCard

/-- THE SECOND FORM's CARD OF 'shelflaw6.SymsNeeds'. -/
def symsNeedsUptoCard : Claim7 := { stood := { row := symsNeedsUptoRow, standIns := [], harness := (true, "804136ad64168c85c759bb320fe03d31307e3ea97dd9a8602df456cf24eee5df"), looks := true }, kinds := [], alts := [], laidByText := true, laidKinds := [.data], laidTests := true, laidLooks := .later }
def SymsNeedsUptoCardSaid : Prop := Claim7.holds Tryd.pinned (.plain (OpenSpec.upto symsNeedsSpec)) symsNeedsUptoCard

/-- THE SECOND FORM's CARD OF 'shelflaw6.SymsLists'. -/
def symsListsUptoCard : Claim7 := { stood := { row := symsListsUptoRow, standIns := [], harness := (true, "804136ad64168c85c759bb320fe03d31307e3ea97dd9a8602df456cf24eee5df"), looks := true }, kinds := [], alts := [], laidByText := true, laidKinds := [.data], laidTests := true, laidLooks := .later }
def SymsListsUptoCardSaid : Prop := Claim7.holds Tryd.pinned (.plain (OpenSpec.upto symsListsSpec)) symsListsUptoCard
end Rows
end Go.Proofs.YtaeigacinefhnabDoor
