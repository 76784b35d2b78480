/-
  No cell of these rows narrows 'for every input' (looked for: loops, veiled, ifaces, maps, wideKeys, modest, calm, conditions, laid).
  DERIVED. THE GIVEN ROWS OF THIS SEAT. 5 by the template 'for every input the law returns true; each argument reads behind the call as it read before'; 0 by the template 'total and deterministic' (their statements: YtaaagdmhokgcjabTotals.lean).
  GIVEN WITH THE SEED: the statements are not yours to turn. If you find one false, say at which input.
  Laid BY PROGRAM, IN A SANDBOX (cutbox-rows.mjs): the forced cells as the released guide's own fill.sh prints them over the translation 65d1c1fdd781895b… (all of the seat's roots in one cut). By AI agents, Wed Nov 11 2026. No macro, syntax, notation, axiom, sorry.
-/
import Derived.Test.YtaaagdmhokgcjabChecked
import GoSem.Claim
import GoSem.ClaimJoined
import GoSem.ClaimMapViews
import Derived.JoinedTies
import Derived.KernelRfl
namespace Go.Proofs.Ytaaagdmhokgcjab
/- THE CELL 'sum', in the pinned program and in every row, IS THE sha256 OF THE DUMP (.gsa) THAT YtaaagdmhokgcjabProg.lean LOADS. Nothing in Lean hashes anything: it is a label: what it is worth is what the hold of that sum in a sandbox is worth. -/
noncomputable def Try.pinned : Pinned := { name := "ytaaagdmhokgcjab", sum := "65d1c1fdd781895b4b77547d122a7670e2577072df976061ca773a8fbd0ca191", checked := Try.checked }
namespace Rows
def none {H : Type} : Left H := { results := [], args := [] }

/-- 'shelflaw13.OpsDet': WHATEVER THE INPUT: true; the input reads as it did. -/
def opsDetSpec : ChangeSpec := { name := "opsDet", fn := fun _ => fun
  | [d1, d2, d3, d4, d5] => { results := [.lit (.bool true)], args := [d1, d2, d3, d4, d5] }
  | _ => none }
def opsDetRow : OpenClaim := { program := "ytaaagdmhokgcjab", sum := "65d1c1fdd781895b4b77547d122a7670e2577072df976061ca773a8fbd0ca191", func := "shelf/shelflaw13.OpsDet", spec := "opsDet", unfollowed := true, recurses := true, apart := false }
def OpsDetSaid : Prop := opsDetRow.holds Try.pinned (OpenSpec.ofChange opsDetSpec)

/-- ITS FALSE NEIGHBOUR: 'it returns false'. Refute it at one input. -/
def opsDetWrong : ChangeSpec := { name := "opsDet", fn := fun _ => fun
  | [d1, d2, d3, d4, d5] => { results := [.lit (.bool false)], args := [d1, d2, d3, d4, d5] }
  | _ => none }
def OpsDetWrongFalsely : Prop := opsDetRow.holds Try.pinned (OpenSpec.ofChange opsDetWrong)

/-- 'shelflaw13.OpsDelete': WHATEVER THE INPUT: true; the input reads as it did. -/
def opsDeleteSpec : ChangeSpec := { name := "opsDelete", fn := fun _ => fun
  | [d1, d2] => { results := [.lit (.bool true)], args := [d1, d2] }
  | _ => none }
def opsDeleteRow : OpenClaim := { program := "ytaaagdmhokgcjab", sum := "65d1c1fdd781895b4b77547d122a7670e2577072df976061ca773a8fbd0ca191", func := "shelf/shelflaw13.OpsDelete", spec := "opsDelete", apart := false }
def OpsDeleteSaid : Prop := opsDeleteRow.holds Try.pinned (OpenSpec.ofChange opsDeleteSpec)

/-- ITS FALSE NEIGHBOUR: 'it returns false'. Refute it at one input. -/
def opsDeleteWrong : ChangeSpec := { name := "opsDelete", fn := fun _ => fun
  | [d1, d2] => { results := [.lit (.bool false)], args := [d1, d2] }
  | _ => none }
def OpsDeleteWrongFalsely : Prop := opsDeleteRow.holds Try.pinned (OpenSpec.ofChange opsDeleteWrong)

/-- 'shelflaw13.OpsUndo': WHATEVER THE INPUT: true; the input reads as it did. -/
def opsUndoSpec : ChangeSpec := { name := "opsUndo", fn := fun _ => fun
  | [d1, d2, d3] => { results := [.lit (.bool true)], args := [d1, d2, d3] }
  | _ => none }
def opsUndoRow : OpenClaim := { program := "ytaaagdmhokgcjab", sum := "65d1c1fdd781895b4b77547d122a7670e2577072df976061ca773a8fbd0ca191", func := "shelf/shelflaw13.OpsUndo", spec := "opsUndo", unfollowed := true, recurses := true, apart := false }
def OpsUndoSaid : Prop := opsUndoRow.holds Try.pinned (OpenSpec.ofChange opsUndoSpec)

/-- ITS FALSE NEIGHBOUR: 'it returns false'. Refute it at one input. -/
def opsUndoWrong : ChangeSpec := { name := "opsUndo", fn := fun _ => fun
  | [d1, d2, d3] => { results := [.lit (.bool false)], args := [d1, d2, d3] }
  | _ => none }
def OpsUndoWrongFalsely : Prop := opsUndoRow.holds Try.pinned (OpenSpec.ofChange opsUndoWrong)

/-- 'shelflaw13.OpsMove': WHATEVER THE INPUT: true; the input reads as it did. -/
def opsMoveSpec : ChangeSpec := { name := "opsMove", fn := fun _ => fun
  | [d1, d2, d3] => { results := [.lit (.bool true)], args := [d1, d2, d3] }
  | _ => none }
def opsMoveRow : OpenClaim := { program := "ytaaagdmhokgcjab", sum := "65d1c1fdd781895b4b77547d122a7670e2577072df976061ca773a8fbd0ca191", func := "shelf/shelflaw13.OpsMove", spec := "opsMove", unfollowed := true, recurses := true, apart := false }
def OpsMoveSaid : Prop := opsMoveRow.holds Try.pinned (OpenSpec.ofChange opsMoveSpec)

/-- ITS FALSE NEIGHBOUR: 'it returns false'. Refute it at one input. -/
def opsMoveWrong : ChangeSpec := { name := "opsMove", fn := fun _ => fun
  | [d1, d2, d3] => { results := [.lit (.bool false)], args := [d1, d2, d3] }
  | _ => none }
def OpsMoveWrongFalsely : Prop := opsMoveRow.holds Try.pinned (OpenSpec.ofChange opsMoveWrong)

/-- 'shelflaw13.OpsLists': WHATEVER THE INPUT: true; the input reads as it did. -/
def opsListsSpec : ChangeSpec := { name := "opsLists", fn := fun _ => fun
  | [d1, d2, d3] => { results := [.lit (.bool true)], args := [d1, d2, d3] }
  | _ => none }
def opsListsRow : OpenClaim := { program := "ytaaagdmhokgcjab", sum := "65d1c1fdd781895b4b77547d122a7670e2577072df976061ca773a8fbd0ca191", func := "shelf/shelflaw13.OpsLists", spec := "opsLists", unfollowed := true, recurses := true, apart := false }
def OpsListsSaid : Prop := opsListsRow.holds Try.pinned (OpenSpec.ofChange opsListsSpec)

/-- ITS FALSE NEIGHBOUR: 'it returns false'. Refute it at one input. -/
def opsListsWrong : ChangeSpec := { name := "opsLists", fn := fun _ => fun
  | [d1, d2, d3] => { results := [.lit (.bool false)], args := [d1, d2, d3] }
  | _ => none }
def OpsListsWrongFalsely : Prop := opsListsRow.holds Try.pinned (OpenSpec.ofChange opsListsWrong)

/- THE SECOND FORM. 'bulk': how many values and letters a reading holds, each counted each time it is reached (what is shared counts as often as it is met; a slice's spare places count too). A statement '..UptoSaid' is the law's where the arguments, and the package variables that the reading takes, are together of bulk at most 1048576: NARROWER than '..Said'. Prove '..Said' where nothing that the law and all that it calls make is longer than what came in: it says more and counts as full. Else prove '..UptoSaid'. A law counts once. -/
mutual
def uptoBulk {H : Type} : DataW H → Nat
  | .lit (.string bytes) => bytes.length + 1
  | .lit _ => 1
  | .nil => 1
  | .ptr d => uptoBulk d + 1
  | .slice elems spare => uptoBulkAll elems + uptoBulkAll spare + 1
  | .agg parts => uptoBulkAll parts + 1
  | .iface _ d => uptoBulk d + 1
  | .map entries => uptoBulkEntries entries + 1
  | .held _ => 1
def uptoBulkAll {H : Type} : List (DataW H) → Nat
  | [] => 0
  | d :: r => uptoBulk d + uptoBulkAll r
def uptoBulkEntries {H : Type} : List (Lit × DataW H) → Nat
  | [] => 0
  | x :: r => uptoBulkEntry x + uptoBulkEntries r
def uptoBulkEntry {H : Type} : Lit × DataW H → Nat
  | (.string bytes, d) => bytes.length + uptoBulk d + 1
  | (_, d) => uptoBulk d + 1
 end
def uptoSmall : (H : Type) → List (DataW H) → Bool := fun _ ds => decide (uptoBulkAll ds ≤ 1048576)
def OpenSpec.upto (s : _root_.Go.ChangeSpec) : _root_.Go.OpenSpec := { _root_.Go.OpenSpec.ofChange s with cond := some uptoSmall }

/-- 'shelflaw13.OpsDet', WHERE WHAT IT READS IS OF BULK AT MOST 1048576: true; the input reads as it did. -/
def opsDetUptoRow : OpenClaim := { program := "ytaaagdmhokgcjab", sum := "65d1c1fdd781895b4b77547d122a7670e2577072df976061ca773a8fbd0ca191", func := "shelf/shelflaw13.OpsDet", spec := "opsDet", unfollowed := true, recurses := true, apart := false, narrowed := true }
def OpsDetUptoSaid : Prop := opsDetUptoRow.holds Try.pinned (OpenSpec.upto opsDetSpec)

/-- 'shelflaw13.OpsDelete', WHERE WHAT IT READS IS OF BULK AT MOST 1048576: true; the input reads as it did. -/
def opsDeleteUptoRow : OpenClaim := { program := "ytaaagdmhokgcjab", sum := "65d1c1fdd781895b4b77547d122a7670e2577072df976061ca773a8fbd0ca191", func := "shelf/shelflaw13.OpsDelete", spec := "opsDelete", apart := false, narrowed := true }
def OpsDeleteUptoSaid : Prop := opsDeleteUptoRow.holds Try.pinned (OpenSpec.upto opsDeleteSpec)

/-- 'shelflaw13.OpsUndo', WHERE WHAT IT READS IS OF BULK AT MOST 1048576: true; the input reads as it did. -/
def opsUndoUptoRow : OpenClaim := { program := "ytaaagdmhokgcjab", sum := "65d1c1fdd781895b4b77547d122a7670e2577072df976061ca773a8fbd0ca191", func := "shelf/shelflaw13.OpsUndo", spec := "opsUndo", unfollowed := true, recurses := true, apart := false, narrowed := true }
def OpsUndoUptoSaid : Prop := opsUndoUptoRow.holds Try.pinned (OpenSpec.upto opsUndoSpec)

/-- 'shelflaw13.OpsMove', WHERE WHAT IT READS IS OF BULK AT MOST 1048576: true; the input reads as it did. -/
def opsMoveUptoRow : OpenClaim := { program := "ytaaagdmhokgcjab", sum := "65d1c1fdd781895b4b77547d122a7670e2577072df976061ca773a8fbd0ca191", func := "shelf/shelflaw13.OpsMove", spec := "opsMove", unfollowed := true, recurses := true, apart := false, narrowed := true }
def OpsMoveUptoSaid : Prop := opsMoveUptoRow.holds Try.pinned (OpenSpec.upto opsMoveSpec)

/-- 'shelflaw13.OpsLists', WHERE WHAT IT READS IS OF BULK AT MOST 1048576: true; the input reads as it did. -/
def opsListsUptoRow : OpenClaim := { program := "ytaaagdmhokgcjab", sum := "65d1c1fdd781895b4b77547d122a7670e2577072df976061ca773a8fbd0ca191", func := "shelf/shelflaw13.OpsLists", spec := "opsLists", unfollowed := true, recurses := true, apart := false, narrowed := true }
def OpsListsUptoSaid : Prop := opsListsUptoRow.holds Try.pinned (OpenSpec.upto opsListsSpec)

end Rows
end Go.Proofs.Ytaaagdmhokgcjab
