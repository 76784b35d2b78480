/-
  DERIVED. GIVEN WITH THE SEED: THE CARDS: each row of YtmoapdecacnmpaaDoorRows.lean that lists a variable, with what it lists TIED to the program's text (the seventh form; the later family's looks); each row that meets fmt, with fmt's text TOLD by the authors' own Lean function (tested against real Go, not proved from fmt's source: count such statements apart). THE CARD IS WHAT COUNTS. Prove the row's statement (the work); the ties are given (YtmoapdecacnmpaaDoorTie.lean); close each card by the builder's one call (the guide's Derived/Test/ToyasCard.lean, 'card_holds'). Laid BY PROGRAM, IN A SANDBOX (cutbox-door.mjs). By AI agents, Wed Nov 11 2026. No macro, syntax, notation, axiom, sorry.
-/
import Derived.Test.YtmoapdecacnmpaaDoorRows
import GoSem.ClaimSeven
namespace Go.Proofs.YtmoapdecacnmpaaDoor
namespace Rows

/-- THE TIED CARD OF 'shelflaw5.ElfIdent'. -/
def elfIdentCard : Claim7 := { stood := { row := elfIdentRow, standIns := [], harness := (true, "da5921f6c5ddaddc4ea6761b6778b2b5adae228bdccb36a1e890df2c6db26034"), looks := true }, kinds := [], alts := [], laidByText := true, laidKinds := [.data], laidTests := true, laidLooks := .later }
def ElfIdentCardSaid : Prop := Claim7.holds Tryd.pinned (.plain (OpenSpec.ofChange elfIdentSpec)) elfIdentCard

/-- THE TIED CARD OF 'shelflaw5.ElfHeader'. -/
def elfHeaderCard : Claim7 := { stood := { row := elfHeaderRow, standIns := [], harness := (true, "da5921f6c5ddaddc4ea6761b6778b2b5adae228bdccb36a1e890df2c6db26034"), looks := true }, kinds := [], alts := [], laidByText := true, laidKinds := [.data], laidTests := true, laidLooks := .later }
def ElfHeaderCardSaid : Prop := Claim7.holds Tryd.pinned (.plain (OpenSpec.ofChange elfHeaderSpec)) elfHeaderCard

/-- THE TIED CARD OF 'shelflaw5.ElfSections'. -/
def elfSectionsCard : Claim7 := { stood := { row := elfSectionsRow, standIns := [], harness := (true, "da5921f6c5ddaddc4ea6761b6778b2b5adae228bdccb36a1e890df2c6db26034"), looks := true }, kinds := [], alts := [], laidByText := true, laidKinds := [.data], laidTests := true, laidLooks := .later }
def ElfSectionsCardSaid : Prop := Claim7.holds Tryd.pinned (.plain (OpenSpec.ofChange elfSectionsSpec)) elfSectionsCard

/-- THE SECOND FORM's CARD OF 'shelflaw5.ElfIdent'. -/
def elfIdentUptoCard : Claim7 := { stood := { row := elfIdentUptoRow, standIns := [], harness := (true, "da5921f6c5ddaddc4ea6761b6778b2b5adae228bdccb36a1e890df2c6db26034"), looks := true }, kinds := [], alts := [], laidByText := true, laidKinds := [.data], laidTests := true, laidLooks := .later }
def ElfIdentUptoCardSaid : Prop := Claim7.holds Tryd.pinned (.plain (OpenSpec.upto elfIdentSpec)) elfIdentUptoCard

/-- THE SECOND FORM's CARD OF 'shelflaw5.ElfHeader'. -/
def elfHeaderUptoCard : Claim7 := { stood := { row := elfHeaderUptoRow, standIns := [], harness := (true, "da5921f6c5ddaddc4ea6761b6778b2b5adae228bdccb36a1e890df2c6db26034"), looks := true }, kinds := [], alts := [], laidByText := true, laidKinds := [.data], laidTests := true, laidLooks := .later }
def ElfHeaderUptoCardSaid : Prop := Claim7.holds Tryd.pinned (.plain (OpenSpec.upto elfHeaderSpec)) elfHeaderUptoCard

/-- THE SECOND FORM's CARD OF 'shelflaw5.ElfSections'. -/
def elfSectionsUptoCard : Claim7 := { stood := { row := elfSectionsUptoRow, standIns := [], harness := (true, "da5921f6c5ddaddc4ea6761b6778b2b5adae228bdccb36a1e890df2c6db26034"), looks := true }, kinds := [], alts := [], laidByText := true, laidKinds := [.data], laidTests := true, laidLooks := .later }
def ElfSectionsUptoCardSaid : Prop := Claim7.holds Tryd.pinned (.plain (OpenSpec.upto elfSectionsSpec)) elfSectionsUptoCard
end Rows
end Go.Proofs.YtmoapdecacnmpaaDoor
