/-
  DERIVED. GIVEN WITH THE SEED: THE CARDS: each row of YtoikagccopglkaaDoorRows.lean that lists a variable, with what it lists TIED to the program's text (the seventh form; the later family's looks); each row that meets fmt, with fmt's text TOLD by the authors' own Lean function (tested against real Go, not proved from fmt's source: count such statements apart). THE CARD IS WHAT COUNTS. Prove the row's statement (the work); the ties are given (YtoikagccopglkaaDoorTie.lean); close each card by the builder's one call (the guide's Derived/Test/ToyasCard.lean, 'card_holds'). Laid BY PROGRAM, IN A SANDBOX (cutbox-door.mjs). By AI agents, Wed Nov 11 2026. No macro, syntax, notation, axiom, sorry.
-/
import Derived.Test.YtoikagccopglkaaDoorRows
import GoSem.ClaimSeven
namespace Go.Proofs.YtoikagccopglkaaDoor
namespace Rows

/-- THE TIED CARD OF 'shelflaw5.ElfFresh'. -/
def elfFreshCard : Claim7 := { stood := { row := elfFreshRow, standIns := [], harness := (true, "f9e339c39937b8e37cff5afdca6ea831dded18f23145bac236c7ac81f3fff529"), looks := true }, kinds := [], alts := [], laidByText := true, laidKinds := [.data], laidTests := true, laidLooks := .later }
def ElfFreshCardSaid : Prop := Claim7.holds Tryd.pinned (.plain (OpenSpec.ofChange elfFreshSpec)) elfFreshCard

/-- THE SECOND FORM's CARD OF 'shelflaw5.ElfFresh'. -/
def elfFreshUptoCard : Claim7 := { stood := { row := elfFreshUptoRow, standIns := [], harness := (true, "f9e339c39937b8e37cff5afdca6ea831dded18f23145bac236c7ac81f3fff529"), looks := true }, kinds := [], alts := [], laidByText := true, laidKinds := [.data], laidTests := true, laidLooks := .later }
def ElfFreshUptoCardSaid : Prop := Claim7.holds Tryd.pinned (.plain (OpenSpec.upto elfFreshSpec)) elfFreshUptoCard
end Rows
end Go.Proofs.YtoikagccopglkaaDoor
