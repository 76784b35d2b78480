/-
  DERIVED. GIVEN WITH THE SEED: THE CARDS: each row of YtofmiaaglbcebaaGreatDoorRows.lean that lists a variable, with what it lists TIED to the program's text (the seventh form; the later family's looks); each row that meets fmt, with fmt's text TOLD by the authors' own Lean function (tested against real Go, not proved from fmt's source: count such statements apart). THE CARD IS WHAT COUNTS. Prove the row's statement (the work); the ties are given (YtofmiaaglbcebaaGreatDoorTie.lean); close each card by the builder's one call (the guide's Derived/Test/ToyasCard.lean, 'card_holds'). Laid BY PROGRAM, IN A SANDBOX (cutbox-door.mjs). By AI agents, Wed Nov 11 2026. No macro, syntax, notation, axiom, sorry.
-/
import Derived.Test.YtofmiaaglbcebaaGreatDoorRows
import GoSem.ClaimSeven
namespace Go.Proofs.YtofmiaaglbcebaaGreatDoor
namespace Rows

/-- THE TIED CARD OF 'shelflaw16.CommitLoads'. -/
def commitLoadsCard : Claim7 := { stood := { row := commitLoadsRow, standIns := [], harness := (true, "24721b73bd9f2162ef563e0ae70645c50e0a9d5fe759c1476c81f1dcaa8cc622"), looks := true }, kinds := [], alts := [], laidByText := true, laidKinds := [.handle], laidTests := true, laidLooks := .later }
def CommitLoadsCardSaid : Prop := Claim7.holds Tryz.pinned (.plain (OpenSpec.ofChange commitLoadsSpec)) commitLoadsCard

/-- THE TIED CARD OF 'shelflaw16.CommitReplaces'. -/
def commitReplacesCard : Claim7 := { stood := { row := commitReplacesRow, standIns := [], harness := (true, "24721b73bd9f2162ef563e0ae70645c50e0a9d5fe759c1476c81f1dcaa8cc622"), looks := true }, kinds := [], alts := [], laidByText := true, laidKinds := [.handle], laidTests := true, laidLooks := .later }
def CommitReplacesCardSaid : Prop := Claim7.holds Tryz.pinned (.plain (OpenSpec.ofChange commitReplacesSpec)) commitReplacesCard

/-- THE TIED CARD OF 'shelflaw16.CommitExact'. -/
def commitExactCard : Claim7 := { stood := { row := commitExactRow, standIns := [], harness := (true, "24721b73bd9f2162ef563e0ae70645c50e0a9d5fe759c1476c81f1dcaa8cc622"), looks := true }, kinds := [], alts := [], laidByText := true, laidKinds := [.handle], laidTests := true, laidLooks := .later }
def CommitExactCardSaid : Prop := Claim7.holds Tryz.pinned (.plain (OpenSpec.ofChange commitExactSpec)) commitExactCard

/-- THE SECOND FORM's CARD OF 'shelflaw16.CommitLoads'. -/
def commitLoadsUptoCard : Claim7 := { stood := { row := commitLoadsUptoRow, standIns := [], harness := (true, "24721b73bd9f2162ef563e0ae70645c50e0a9d5fe759c1476c81f1dcaa8cc622"), looks := true }, kinds := [], alts := [], laidByText := true, laidKinds := [.handle], laidTests := true, laidLooks := .later }
def CommitLoadsUptoCardSaid : Prop := Claim7.holds Tryz.pinned (.plain (OpenSpec.upto commitLoadsSpec)) commitLoadsUptoCard

/-- THE SECOND FORM's CARD OF 'shelflaw16.CommitReplaces'. -/
def commitReplacesUptoCard : Claim7 := { stood := { row := commitReplacesUptoRow, standIns := [], harness := (true, "24721b73bd9f2162ef563e0ae70645c50e0a9d5fe759c1476c81f1dcaa8cc622"), looks := true }, kinds := [], alts := [], laidByText := true, laidKinds := [.handle], laidTests := true, laidLooks := .later }
def CommitReplacesUptoCardSaid : Prop := Claim7.holds Tryz.pinned (.plain (OpenSpec.upto commitReplacesSpec)) commitReplacesUptoCard

/-- THE SECOND FORM's CARD OF 'shelflaw16.CommitExact'. -/
def commitExactUptoCard : Claim7 := { stood := { row := commitExactUptoRow, standIns := [], harness := (true, "24721b73bd9f2162ef563e0ae70645c50e0a9d5fe759c1476c81f1dcaa8cc622"), looks := true }, kinds := [], alts := [], laidByText := true, laidKinds := [.handle], laidTests := true, laidLooks := .later }
def CommitExactUptoCardSaid : Prop := Claim7.holds Tryz.pinned (.plain (OpenSpec.upto commitExactSpec)) commitExactUptoCard
end Rows
end Go.Proofs.YtofmiaaglbcebaaGreatDoor
