/-
  No cell of these rows narrows 'for every input' (looked for: loops, veiled, ifaces, maps, wideKeys, modest, calm, conditions, laid).
  DERIVED. THE GIVEN ROWS OF THIS SEAT. 6 by the template 'for every input the law returns true; each argument reads behind the call as it read before'; 0 by the template 'total and deterministic' (their statements: YtaaagdmhokgcjaaTotals.lean).
  GIVEN WITH THE SEED: the statements are not yours to turn. If you find one false, say at which input.
  Laid BY PROGRAM, IN A SANDBOX (cutbox-rows.mjs): the forced cells as the released guide's own fill.sh prints them over the translation 7a14c6f6a0f64c82… (all of the seat's roots in one cut). By AI agents, Wed Nov 11 2026. No macro, syntax, notation, axiom, sorry.
-/
import Derived.Test.YtaaagdmhokgcjaaChecked
import GoSem.Claim
import GoSem.ClaimJoined
import GoSem.ClaimMapViews
import Derived.JoinedTies
import Derived.KernelRfl
namespace Go.Proofs.Ytaaagdmhokgcjaa
/- THE CELL 'sum', in the pinned program and in every row, IS THE sha256 OF THE DUMP (.gsa) THAT YtaaagdmhokgcjaaProg.lean LOADS. Nothing in Lean hashes anything: it is a label: what it is worth is what the hold of that sum in a sandbox is worth. -/
noncomputable def Try.pinned : Pinned := { name := "ytaaagdmhokgcjaa", sum := "7a14c6f6a0f64c828dfed84b2ea5e0fe375a6a8a2658eb26205776b23954d0d7", checked := Try.checked }
namespace Rows
def none {H : Type} : Left H := { results := [], args := [] }

/-- 'shelflaw13.OpsTakes': WHATEVER THE INPUT: true; the input reads as it did. -/
def opsTakesSpec : ChangeSpec := { name := "opsTakes", fn := fun _ => fun
  | [d1, d2] => { results := [.lit (.bool true)], args := [d1, d2] }
  | _ => none }
def opsTakesRow : OpenClaim := { program := "ytaaagdmhokgcjaa", sum := "7a14c6f6a0f64c828dfed84b2ea5e0fe375a6a8a2658eb26205776b23954d0d7", func := "shelf/shelflaw13.OpsTakes", spec := "opsTakes", apart := false }
def OpsTakesSaid : Prop := opsTakesRow.holds Try.pinned (OpenSpec.ofChange opsTakesSpec)

/-- ITS FALSE NEIGHBOUR: 'it returns false'. Refute it at one input. -/
def opsTakesWrong : ChangeSpec := { name := "opsTakes", fn := fun _ => fun
  | [d1, d2] => { results := [.lit (.bool false)], args := [d1, d2] }
  | _ => none }
def OpsTakesWrongFalsely : Prop := opsTakesRow.holds Try.pinned (OpenSpec.ofChange opsTakesWrong)

/-- 'shelflaw13.OpsNormal': WHATEVER THE INPUT: true; the input reads as it did. -/
def opsNormalSpec : ChangeSpec := { name := "opsNormal", fn := fun _ => fun
  | [d] => { results := [.lit (.bool true)], args := [d] }
  | _ => none }
def opsNormalRow : OpenClaim := { program := "ytaaagdmhokgcjaa", sum := "7a14c6f6a0f64c828dfed84b2ea5e0fe375a6a8a2658eb26205776b23954d0d7", func := "shelf/shelflaw13.OpsNormal", spec := "opsNormal", apart := false }
def OpsNormalSaid : Prop := opsNormalRow.holds Try.pinned (OpenSpec.ofChange opsNormalSpec)

/-- ITS FALSE NEIGHBOUR: 'it returns false'. Refute it at one input. -/
def opsNormalWrong : ChangeSpec := { name := "opsNormal", fn := fun _ => fun
  | [d] => { results := [.lit (.bool false)], args := [d] }
  | _ => none }
def OpsNormalWrongFalsely : Prop := opsNormalRow.holds Try.pinned (OpenSpec.ofChange opsNormalWrong)

/-- 'shelflaw13.OpsAppend': WHATEVER THE INPUT: true; the input reads as it did. -/
def opsAppendSpec : ChangeSpec := { name := "opsAppend", fn := fun _ => fun
  | [d1, d2] => { results := [.lit (.bool true)], args := [d1, d2] }
  | _ => none }
def opsAppendRow : OpenClaim := { program := "ytaaagdmhokgcjaa", sum := "7a14c6f6a0f64c828dfed84b2ea5e0fe375a6a8a2658eb26205776b23954d0d7", func := "shelf/shelflaw13.OpsAppend", spec := "opsAppend", apart := false }
def OpsAppendSaid : Prop := opsAppendRow.holds Try.pinned (OpenSpec.ofChange opsAppendSpec)

/-- ITS FALSE NEIGHBOUR: 'it returns false'. Refute it at one input. -/
def opsAppendWrong : ChangeSpec := { name := "opsAppend", fn := fun _ => fun
  | [d1, d2] => { results := [.lit (.bool false)], args := [d1, d2] }
  | _ => none }
def OpsAppendWrongFalsely : Prop := opsAppendRow.holds Try.pinned (OpenSpec.ofChange opsAppendWrong)

/-- 'shelflaw13.OpsIn': WHATEVER THE INPUT: true; the input reads as it did. -/
def opsInSpec : ChangeSpec := { name := "opsIn", fn := fun _ => fun
  | [d1, d2, d3] => { results := [.lit (.bool true)], args := [d1, d2, d3] }
  | _ => none }
def opsInRow : OpenClaim := { program := "ytaaagdmhokgcjaa", sum := "7a14c6f6a0f64c828dfed84b2ea5e0fe375a6a8a2658eb26205776b23954d0d7", func := "shelf/shelflaw13.OpsIn", spec := "opsIn", unfollowed := true, recurses := true, apart := false }
def OpsInSaid : Prop := opsInRow.holds Try.pinned (OpenSpec.ofChange opsInSpec)

/-- ITS FALSE NEIGHBOUR: 'it returns false'. Refute it at one input. -/
def opsInWrong : ChangeSpec := { name := "opsIn", fn := fun _ => fun
  | [d1, d2, d3] => { results := [.lit (.bool false)], args := [d1, d2, d3] }
  | _ => none }
def OpsInWrongFalsely : Prop := opsInRow.holds Try.pinned (OpenSpec.ofChange opsInWrong)

/-- 'shelflaw13.OpsSelect': WHATEVER THE INPUT: true; the input reads as it did. -/
def opsSelectSpec : ChangeSpec := { name := "opsSelect", fn := fun _ => fun
  | [d1, d2] => { results := [.lit (.bool true)], args := [d1, d2] }
  | _ => none }
def opsSelectRow : OpenClaim := { program := "ytaaagdmhokgcjaa", sum := "7a14c6f6a0f64c828dfed84b2ea5e0fe375a6a8a2658eb26205776b23954d0d7", func := "shelf/shelflaw13.OpsSelect", spec := "opsSelect", apart := false }
def OpsSelectSaid : Prop := opsSelectRow.holds Try.pinned (OpenSpec.ofChange opsSelectSpec)

/-- ITS FALSE NEIGHBOUR: 'it returns false'. Refute it at one input. -/
def opsSelectWrong : ChangeSpec := { name := "opsSelect", fn := fun _ => fun
  | [d1, d2] => { results := [.lit (.bool false)], args := [d1, d2] }
  | _ => none }
def OpsSelectWrongFalsely : Prop := opsSelectRow.holds Try.pinned (OpenSpec.ofChange opsSelectWrong)

/-- 'shelflaw13.OpsInsert': WHATEVER THE INPUT: true; the input reads as it did. -/
def opsInsertSpec : ChangeSpec := { name := "opsInsert", fn := fun _ => fun
  | [d1, d2, d3, d4] => { results := [.lit (.bool true)], args := [d1, d2, d3, d4] }
  | _ => none }
def opsInsertRow : OpenClaim := { program := "ytaaagdmhokgcjaa", sum := "7a14c6f6a0f64c828dfed84b2ea5e0fe375a6a8a2658eb26205776b23954d0d7", func := "shelf/shelflaw13.OpsInsert", spec := "opsInsert", unfollowed := true, recurses := true, apart := false }
def OpsInsertSaid : Prop := opsInsertRow.holds Try.pinned (OpenSpec.ofChange opsInsertSpec)

/-- ITS FALSE NEIGHBOUR: 'it returns false'. Refute it at one input. -/
def opsInsertWrong : ChangeSpec := { name := "opsInsert", fn := fun _ => fun
  | [d1, d2, d3, d4] => { results := [.lit (.bool false)], args := [d1, d2, d3, d4] }
  | _ => none }
def OpsInsertWrongFalsely : Prop := opsInsertRow.holds Try.pinned (OpenSpec.ofChange opsInsertWrong)

/- THE SECOND FORM. 'bulk': how many values and letters a reading holds, each counted each time it is reached (what is shared counts as often as it is met; a slice's spare places count too). A statement '..UptoSaid' is the law's where the arguments, and the package variables that the reading takes, are together of bulk at most 1048576: NARROWER than '..Said'. Prove '..Said' where nothing that the law and all that it calls make is longer than what came in: it says more and counts as full. Else prove '..UptoSaid'. A law counts once. -/
mutual
def uptoBulk {H : Type} : DataW H → Nat
  | .lit (.string bytes) => bytes.length + 1
  | .lit _ => 1
  | .nil => 1
  | .ptr d => uptoBulk d + 1
  | .slice elems spare => uptoBulkAll elems + uptoBulkAll spare + 1
  | .agg parts => uptoBulkAll parts + 1
  | .iface _ d => uptoBulk d + 1
  | .map entries => uptoBulkEntries entries + 1
  | .held _ => 1
def uptoBulkAll {H : Type} : List (DataW H) → Nat
  | [] => 0
  | d :: r => uptoBulk d + uptoBulkAll r
def uptoBulkEntries {H : Type} : List (Lit × DataW H) → Nat
  | [] => 0
  | x :: r => uptoBulkEntry x + uptoBulkEntries r
def uptoBulkEntry {H : Type} : Lit × DataW H → Nat
  | (.string bytes, d) => bytes.length + uptoBulk d + 1
  | (_, d) => uptoBulk d + 1
 end
def uptoSmall : (H : Type) → List (DataW H) → Bool := fun _ ds => decide (uptoBulkAll ds ≤ 1048576)
def OpenSpec.upto (s : _root_.Go.ChangeSpec) : _root_.Go.OpenSpec := { _root_.Go.OpenSpec.ofChange s with cond := some uptoSmall }

/-- 'shelflaw13.OpsTakes', WHERE WHAT IT READS IS OF BULK AT MOST 1048576: true; the input reads as it did. -/
def opsTakesUptoRow : OpenClaim := { program := "ytaaagdmhokgcjaa", sum := "7a14c6f6a0f64c828dfed84b2ea5e0fe375a6a8a2658eb26205776b23954d0d7", func := "shelf/shelflaw13.OpsTakes", spec := "opsTakes", apart := false, narrowed := true }
def OpsTakesUptoSaid : Prop := opsTakesUptoRow.holds Try.pinned (OpenSpec.upto opsTakesSpec)

/-- 'shelflaw13.OpsNormal', WHERE WHAT IT READS IS OF BULK AT MOST 1048576: true; the input reads as it did. -/
def opsNormalUptoRow : OpenClaim := { program := "ytaaagdmhokgcjaa", sum := "7a14c6f6a0f64c828dfed84b2ea5e0fe375a6a8a2658eb26205776b23954d0d7", func := "shelf/shelflaw13.OpsNormal", spec := "opsNormal", apart := false, narrowed := true }
def OpsNormalUptoSaid : Prop := opsNormalUptoRow.holds Try.pinned (OpenSpec.upto opsNormalSpec)

/-- 'shelflaw13.OpsAppend', WHERE WHAT IT READS IS OF BULK AT MOST 1048576: true; the input reads as it did. -/
def opsAppendUptoRow : OpenClaim := { program := "ytaaagdmhokgcjaa", sum := "7a14c6f6a0f64c828dfed84b2ea5e0fe375a6a8a2658eb26205776b23954d0d7", func := "shelf/shelflaw13.OpsAppend", spec := "opsAppend", apart := false, narrowed := true }
def OpsAppendUptoSaid : Prop := opsAppendUptoRow.holds Try.pinned (OpenSpec.upto opsAppendSpec)

/-- 'shelflaw13.OpsIn', WHERE WHAT IT READS IS OF BULK AT MOST 1048576: true; the input reads as it did. -/
def opsInUptoRow : OpenClaim := { program := "ytaaagdmhokgcjaa", sum := "7a14c6f6a0f64c828dfed84b2ea5e0fe375a6a8a2658eb26205776b23954d0d7", func := "shelf/shelflaw13.OpsIn", spec := "opsIn", unfollowed := true, recurses := true, apart := false, narrowed := true }
def OpsInUptoSaid : Prop := opsInUptoRow.holds Try.pinned (OpenSpec.upto opsInSpec)

/-- 'shelflaw13.OpsSelect', WHERE WHAT IT READS IS OF BULK AT MOST 1048576: true; the input reads as it did. -/
def opsSelectUptoRow : OpenClaim := { program := "ytaaagdmhokgcjaa", sum := "7a14c6f6a0f64c828dfed84b2ea5e0fe375a6a8a2658eb26205776b23954d0d7", func := "shelf/shelflaw13.OpsSelect", spec := "opsSelect", apart := false, narrowed := true }
def OpsSelectUptoSaid : Prop := opsSelectUptoRow.holds Try.pinned (OpenSpec.upto opsSelectSpec)

/-- 'shelflaw13.OpsInsert', WHERE WHAT IT READS IS OF BULK AT MOST 1048576: true; the input reads as it did. -/
def opsInsertUptoRow : OpenClaim := { program := "ytaaagdmhokgcjaa", sum := "7a14c6f6a0f64c828dfed84b2ea5e0fe375a6a8a2658eb26205776b23954d0d7", func := "shelf/shelflaw13.OpsInsert", spec := "opsInsert", unfollowed := true, recurses := true, apart := false, narrowed := true }
def OpsInsertUptoSaid : Prop := opsInsertUptoRow.holds Try.pinned (OpenSpec.upto opsInsertSpec)

end Rows
end Go.Proofs.Ytaaagdmhokgcjaa
