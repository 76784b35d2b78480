/-
  DERIVED. GIVEN WITH THE SEED: THE CARDS: each row of YtmlnnbinbbmmhaaDoorRows.lean that lists a variable, with what it lists TIED to the program's text (the seventh form; the later family's looks); each row that meets fmt, with fmt's text TOLD by the authors' own Lean function (tested against real Go, not proved from fmt's source: count such statements apart). THE CARD IS WHAT COUNTS. Prove the row's statement (the work); the ties are given (YtmlnnbinbbmmhaaDoorTie.lean); close each card by the builder's one call (the guide's Derived/Test/ToyasCard.lean, 'card_holds'). Laid BY PROGRAM, IN A SANDBOX (cutbox-door.mjs). By AI agents, Wed Nov 11 2026. No macro, syntax, notation, axiom, sorry.
-/
import Derived.Test.YtmlnnbinbbmmhaaDoorRows
import GoSem.ClaimSeven
namespace Go.Proofs.YtmlnnbinbbmmhaaDoor
namespace Rows

/-- THE TIED CARD OF 'shelflaw10.LayMany'. -/
def layManyCard : Claim7 := { stood := { row := layManyRow, standIns := [], harness := (true, "9931c5ba00f4c17dc2c2c5e638591612d2a973e8668bf50a1ae0c21713750a00"), looks := true }, kinds := [], alts := [], laidByText := true, laidKinds := [.data, .data, .data, .data, .pinned], laidTests := true, laidLooks := .later }
def LayManyCardSaid : Prop := Claim7.holds Tryd.pinned (.plain (OpenSpec.ofChange layManySpec)) layManyCard

/-- THE TIED CARD OF 'shelflaw10.LaySums'. -/
def laySumsCard : Claim7 := { stood := { row := laySumsRow, standIns := [], harness := (true, "9931c5ba00f4c17dc2c2c5e638591612d2a973e8668bf50a1ae0c21713750a00"), looks := true }, kinds := [], alts := [], laidByText := true, laidKinds := [.data, .data, .data, .data, .pinned], laidTests := true, laidLooks := .later }
def LaySumsCardSaid : Prop := Claim7.holds Tryd.pinned (.plain (OpenSpec.ofChange laySumsSpec)) laySumsCard

/-- THE TIED CARD OF 'shelflaw10.LayPlan'. -/
def layPlanCard : Claim7 := { stood := { row := layPlanRow, standIns := [], harness := (true, "9931c5ba00f4c17dc2c2c5e638591612d2a973e8668bf50a1ae0c21713750a00"), looks := true }, kinds := [], alts := [], laidByText := true, laidKinds := [.data, .data, .data, .data, .pinned], laidTests := true, laidLooks := .later }
def LayPlanCardSaid : Prop := Claim7.holds Tryd.pinned (.plain (OpenSpec.ofChange layPlanSpec)) layPlanCard

/-- THE TIED CARD OF 'shelflaw10.LayJoins'. -/
def layJoinsCard : Claim7 := { stood := { row := layJoinsRow, standIns := [], harness := (true, "9931c5ba00f4c17dc2c2c5e638591612d2a973e8668bf50a1ae0c21713750a00"), looks := true }, kinds := [], alts := [], laidByText := true, laidKinds := [.data, .data, .data, .data, .data, .pinned], laidTests := true, laidLooks := .later }
def LayJoinsCardSaid : Prop := Claim7.holds Tryd.pinned (.plain (OpenSpec.ofChange layJoinsSpec)) layJoinsCard

/-- THE SECOND FORM's CARD OF 'shelflaw10.LayMany'. -/
def layManyUptoCard : Claim7 := { stood := { row := layManyUptoRow, standIns := [], harness := (true, "9931c5ba00f4c17dc2c2c5e638591612d2a973e8668bf50a1ae0c21713750a00"), looks := true }, kinds := [], alts := [], laidByText := true, laidKinds := [.data, .data, .data, .data, .pinned], laidTests := true, laidLooks := .later }
def LayManyUptoCardSaid : Prop := Claim7.holds Tryd.pinned (.plain (OpenSpec.upto layManySpec)) layManyUptoCard

/-- THE SECOND FORM's CARD OF 'shelflaw10.LaySums'. -/
def laySumsUptoCard : Claim7 := { stood := { row := laySumsUptoRow, standIns := [], harness := (true, "9931c5ba00f4c17dc2c2c5e638591612d2a973e8668bf50a1ae0c21713750a00"), looks := true }, kinds := [], alts := [], laidByText := true, laidKinds := [.data, .data, .data, .data, .pinned], laidTests := true, laidLooks := .later }
def LaySumsUptoCardSaid : Prop := Claim7.holds Tryd.pinned (.plain (OpenSpec.upto laySumsSpec)) laySumsUptoCard

/-- THE SECOND FORM's CARD OF 'shelflaw10.LayPlan'. -/
def layPlanUptoCard : Claim7 := { stood := { row := layPlanUptoRow, standIns := [], harness := (true, "9931c5ba00f4c17dc2c2c5e638591612d2a973e8668bf50a1ae0c21713750a00"), looks := true }, kinds := [], alts := [], laidByText := true, laidKinds := [.data, .data, .data, .data, .pinned], laidTests := true, laidLooks := .later }
def LayPlanUptoCardSaid : Prop := Claim7.holds Tryd.pinned (.plain (OpenSpec.upto layPlanSpec)) layPlanUptoCard

/-- THE SECOND FORM's CARD OF 'shelflaw10.LayJoins'. -/
def layJoinsUptoCard : Claim7 := { stood := { row := layJoinsUptoRow, standIns := [], harness := (true, "9931c5ba00f4c17dc2c2c5e638591612d2a973e8668bf50a1ae0c21713750a00"), looks := true }, kinds := [], alts := [], laidByText := true, laidKinds := [.data, .data, .data, .data, .data, .pinned], laidTests := true, laidLooks := .later }
def LayJoinsUptoCardSaid : Prop := Claim7.holds Tryd.pinned (.plain (OpenSpec.upto layJoinsSpec)) layJoinsUptoCard
end Rows
end Go.Proofs.YtmlnnbinbbmmhaaDoor
