/-
  No cell of these rows narrows 'for every input' (looked for: loops, veiled, ifaces, maps, wideKeys, modest, calm, conditions, laid).
  DERIVED. THE GIVEN ROWS OF THIS SEAT. 4 by the template 'for every input the law returns true; each argument reads behind the call as it read before'; 0 by the template 'total and deterministic' (their statements: YtbbblncoicjacaaGreatTotals.lean).
  GIVEN WITH THE SEED: the statements are not yours to turn. If you find one false, say at which input.
  Laid BY PROGRAM, IN A SANDBOX (cutbox-rows.mjs): the forced cells as the released guide's own fill.sh prints them over the translation 398945900aad5e4d… (all of the seat's roots in one cut). By AI agents, Wed Nov 11 2026. No macro, syntax, notation, axiom, sorry.
-/
import Derived.Test.YtbbblncoicjacaaGreatChecked
import GoSem.Claim
import GoSem.ClaimJoined
import GoSem.ClaimMapViews
import Derived.JoinedTies
import Derived.KernelRfl
namespace Go.Proofs.YtbbblncoicjacaaGreat
/- THE CELL 'sum', in the pinned program and in every row, IS THE sha256 OF THE DUMP (.gsa) THAT YtbbblncoicjacaaGreatProg.lean LOADS. Nothing in Lean hashes anything: it is a label: what it is worth is what the hold of that sum in a sandbox is worth. -/
noncomputable def Tryz.pinned : Pinned := { name := "ytbbblncoicjacaagreat", sum := "398945900aad5e4d5fddffab48975c3126127bc0ef389e042d17601e81215b57", checked := Tryz.checked }
namespace Rows
def none {H : Type} : Left H := { results := [], args := [] }

/-- 'shelflaw16.CommitRefused': WHATEVER THE INPUT: true; the input reads as it did. -/
def commitRefusedSpec : ChangeSpec := { name := "commitRefused", fn := fun _ => fun
  | [d1, d2, d3, d4, d5, d6] => { results := [.lit (.bool true)], args := [d1, d2, d3, d4, d5, d6] }
  | _ => none }
def commitRefusedRow : OpenClaim := { program := "ytbbblncoicjacaagreat", sum := "398945900aad5e4d5fddffab48975c3126127bc0ef389e042d17601e81215b57", func := "shelf/shelflaw16.CommitRefused", spec := "commitRefused", inPlace := ["internal/bytealg.IndexByteString", "internal/bytealg.IndexString"], unfollowed := true, recurses := true, named := ["internal/bytealg.MaxLen"], apart := false }
def CommitRefusedSaid : Prop := commitRefusedRow.holds Tryz.pinned (OpenSpec.ofChange commitRefusedSpec)

/-- ITS FALSE NEIGHBOUR: 'it returns false'. Refute it at one input. -/
def commitRefusedWrong : ChangeSpec := { name := "commitRefused", fn := fun _ => fun
  | [d1, d2, d3, d4, d5, d6] => { results := [.lit (.bool false)], args := [d1, d2, d3, d4, d5, d6] }
  | _ => none }
def CommitRefusedWrongFalsely : Prop := commitRefusedRow.holds Tryz.pinned (OpenSpec.ofChange commitRefusedWrong)

/-- 'shelflaw16.CommitLeftover': WHATEVER THE INPUT: true; the input reads as it did. -/
def commitLeftoverSpec : ChangeSpec := { name := "commitLeftover", fn := fun _ => fun
  | [d1, d2, d3, d4, d5, d6, d7] => { results := [.lit (.bool true)], args := [d1, d2, d3, d4, d5, d6, d7] }
  | _ => none }
def commitLeftoverRow : OpenClaim := { program := "ytbbblncoicjacaagreat", sum := "398945900aad5e4d5fddffab48975c3126127bc0ef389e042d17601e81215b57", func := "shelf/shelflaw16.CommitLeftover", spec := "commitLeftover", inPlace := ["internal/bytealg.IndexByteString", "internal/bytealg.IndexString"], unfollowed := true, recurses := true, named := ["internal/bytealg.MaxLen"], apart := false }
def CommitLeftoverSaid : Prop := commitLeftoverRow.holds Tryz.pinned (OpenSpec.ofChange commitLeftoverSpec)

/-- ITS FALSE NEIGHBOUR: 'it returns false'. Refute it at one input. -/
def commitLeftoverWrong : ChangeSpec := { name := "commitLeftover", fn := fun _ => fun
  | [d1, d2, d3, d4, d5, d6, d7] => { results := [.lit (.bool false)], args := [d1, d2, d3, d4, d5, d6, d7] }
  | _ => none }
def CommitLeftoverWrongFalsely : Prop := commitLeftoverRow.holds Tryz.pinned (OpenSpec.ofChange commitLeftoverWrong)

/-- 'shelflaw16.CommitOldOrNew': WHATEVER THE INPUT: true; the input reads as it did. -/
def commitOldOrNewSpec : ChangeSpec := { name := "commitOldOrNew", fn := fun _ => fun
  | [d1, d2, d3, d4, d5, d6] => { results := [.lit (.bool true)], args := [d1, d2, d3, d4, d5, d6] }
  | _ => none }
def commitOldOrNewRow : OpenClaim := { program := "ytbbblncoicjacaagreat", sum := "398945900aad5e4d5fddffab48975c3126127bc0ef389e042d17601e81215b57", func := "shelf/shelflaw16.CommitOldOrNew", spec := "commitOldOrNew", inPlace := ["internal/bytealg.IndexByteString", "internal/bytealg.IndexString"], unfollowed := true, recurses := true, named := ["internal/bytealg.MaxLen"], apart := false }
def CommitOldOrNewSaid : Prop := commitOldOrNewRow.holds Tryz.pinned (OpenSpec.ofChange commitOldOrNewSpec)

/-- ITS FALSE NEIGHBOUR: 'it returns false'. Refute it at one input. -/
def commitOldOrNewWrong : ChangeSpec := { name := "commitOldOrNew", fn := fun _ => fun
  | [d1, d2, d3, d4, d5, d6] => { results := [.lit (.bool false)], args := [d1, d2, d3, d4, d5, d6] }
  | _ => none }
def CommitOldOrNewWrongFalsely : Prop := commitOldOrNewRow.holds Tryz.pinned (OpenSpec.ofChange commitOldOrNewWrong)

/-- 'shelflaw16.CommitEveryCut': WHATEVER THE INPUT: true; the input reads as it did. -/
def commitEveryCutSpec : ChangeSpec := { name := "commitEveryCut", fn := fun _ => fun
  | [d1, d2, d3] => { results := [.lit (.bool true)], args := [d1, d2, d3] }
  | _ => none }
def commitEveryCutRow : OpenClaim := { program := "ytbbblncoicjacaagreat", sum := "398945900aad5e4d5fddffab48975c3126127bc0ef389e042d17601e81215b57", func := "shelf/shelflaw16.CommitEveryCut", spec := "commitEveryCut", inPlace := ["internal/bytealg.IndexByteString", "internal/bytealg.IndexString"], unfollowed := true, recurses := true, named := ["internal/bytealg.MaxLen"], apart := false }
def CommitEveryCutSaid : Prop := commitEveryCutRow.holds Tryz.pinned (OpenSpec.ofChange commitEveryCutSpec)

/-- ITS FALSE NEIGHBOUR: 'it returns false'. Refute it at one input. -/
def commitEveryCutWrong : ChangeSpec := { name := "commitEveryCut", fn := fun _ => fun
  | [d1, d2, d3] => { results := [.lit (.bool false)], args := [d1, d2, d3] }
  | _ => none }
def CommitEveryCutWrongFalsely : Prop := commitEveryCutRow.holds Tryz.pinned (OpenSpec.ofChange commitEveryCutWrong)

/- THE SECOND FORM. 'bulk': how many values and letters a reading holds, each counted each time it is reached (what is shared counts as often as it is met; a slice's spare places count too). A statement '..UptoSaid' is the law's where the arguments, and the package variables that the reading takes, are together of bulk at most 1048576: NARROWER than '..Said'. Prove '..Said' where nothing that the law and all that it calls make is longer than what came in: it says more and counts as full. Else prove '..UptoSaid'. A law counts once. -/
mutual
def uptoBulk {H : Type} : DataW H → Nat
  | .lit (.string bytes) => bytes.length + 1
  | .lit _ => 1
  | .nil => 1
  | .ptr d => uptoBulk d + 1
  | .slice elems spare => uptoBulkAll elems + uptoBulkAll spare + 1
  | .agg parts => uptoBulkAll parts + 1
  | .iface _ d => uptoBulk d + 1
  | .map entries => uptoBulkEntries entries + 1
  | .held _ => 1
def uptoBulkAll {H : Type} : List (DataW H) → Nat
  | [] => 0
  | d :: r => uptoBulk d + uptoBulkAll r
def uptoBulkEntries {H : Type} : List (Lit × DataW H) → Nat
  | [] => 0
  | x :: r => uptoBulkEntry x + uptoBulkEntries r
def uptoBulkEntry {H : Type} : Lit × DataW H → Nat
  | (.string bytes, d) => bytes.length + uptoBulk d + 1
  | (_, d) => uptoBulk d + 1
 end
def uptoSmall : (H : Type) → List (DataW H) → Bool := fun _ ds => decide (uptoBulkAll ds ≤ 1048576)
def OpenSpec.upto (s : _root_.Go.ChangeSpec) : _root_.Go.OpenSpec := { _root_.Go.OpenSpec.ofChange s with cond := some uptoSmall }

/-- 'shelflaw16.CommitRefused', WHERE WHAT IT READS IS OF BULK AT MOST 1048576: true; the input reads as it did. -/
def commitRefusedUptoRow : OpenClaim := { program := "ytbbblncoicjacaagreat", sum := "398945900aad5e4d5fddffab48975c3126127bc0ef389e042d17601e81215b57", func := "shelf/shelflaw16.CommitRefused", spec := "commitRefused", inPlace := ["internal/bytealg.IndexByteString", "internal/bytealg.IndexString"], unfollowed := true, recurses := true, named := ["internal/bytealg.MaxLen"], apart := false, narrowed := true }
def CommitRefusedUptoSaid : Prop := commitRefusedUptoRow.holds Tryz.pinned (OpenSpec.upto commitRefusedSpec)

/-- 'shelflaw16.CommitLeftover', WHERE WHAT IT READS IS OF BULK AT MOST 1048576: true; the input reads as it did. -/
def commitLeftoverUptoRow : OpenClaim := { program := "ytbbblncoicjacaagreat", sum := "398945900aad5e4d5fddffab48975c3126127bc0ef389e042d17601e81215b57", func := "shelf/shelflaw16.CommitLeftover", spec := "commitLeftover", inPlace := ["internal/bytealg.IndexByteString", "internal/bytealg.IndexString"], unfollowed := true, recurses := true, named := ["internal/bytealg.MaxLen"], apart := false, narrowed := true }
def CommitLeftoverUptoSaid : Prop := commitLeftoverUptoRow.holds Tryz.pinned (OpenSpec.upto commitLeftoverSpec)

/-- 'shelflaw16.CommitOldOrNew', WHERE WHAT IT READS IS OF BULK AT MOST 1048576: true; the input reads as it did. -/
def commitOldOrNewUptoRow : OpenClaim := { program := "ytbbblncoicjacaagreat", sum := "398945900aad5e4d5fddffab48975c3126127bc0ef389e042d17601e81215b57", func := "shelf/shelflaw16.CommitOldOrNew", spec := "commitOldOrNew", inPlace := ["internal/bytealg.IndexByteString", "internal/bytealg.IndexString"], unfollowed := true, recurses := true, named := ["internal/bytealg.MaxLen"], apart := false, narrowed := true }
def CommitOldOrNewUptoSaid : Prop := commitOldOrNewUptoRow.holds Tryz.pinned (OpenSpec.upto commitOldOrNewSpec)

/-- 'shelflaw16.CommitEveryCut', WHERE WHAT IT READS IS OF BULK AT MOST 1048576: true; the input reads as it did. -/
def commitEveryCutUptoRow : OpenClaim := { program := "ytbbblncoicjacaagreat", sum := "398945900aad5e4d5fddffab48975c3126127bc0ef389e042d17601e81215b57", func := "shelf/shelflaw16.CommitEveryCut", spec := "commitEveryCut", inPlace := ["internal/bytealg.IndexByteString", "internal/bytealg.IndexString"], unfollowed := true, recurses := true, named := ["internal/bytealg.MaxLen"], apart := false, narrowed := true }
def CommitEveryCutUptoSaid : Prop := commitEveryCutUptoRow.holds Tryz.pinned (OpenSpec.upto commitEveryCutSpec)

end Rows
end Go.Proofs.YtbbblncoicjacaaGreat
