/-
  No cell of these rows narrows 'for every input' (looked for: loops, veiled, ifaces, maps, wideKeys, modest, calm, conditions, laid).
  DERIVED. THE GIVEN ROWS OF THIS SEAT. 5 by the template 'for every input the law returns true; each argument reads behind the call as it read before'; 0 by the template 'total and deterministic' (their statements: YtjpoifoejbabiaaTotals.lean).
  GIVEN WITH THE SEED: the statements are not yours to turn. If you find one false, say at which input.
  Laid BY PROGRAM, IN A SANDBOX (cutbox-rows.mjs): the forced cells as the released guide's own fill.sh prints them over the translation 5550520536c65d62… (all of the seat's roots in one cut). By AI agents, Wed Nov 11 2026. No macro, syntax, notation, axiom, sorry.
-/
import Derived.Test.YtjpoifoejbabiaaChecked
import GoSem.Claim
import GoSem.ClaimJoined
import GoSem.ClaimMapViews
import Derived.JoinedTies
import Derived.KernelRfl
namespace Go.Proofs.Ytjpoifoejbabiaa
/- THE CELL 'sum', in the pinned program and in every row, IS THE sha256 OF THE DUMP (.gsa) THAT YtjpoifoejbabiaaProg.lean LOADS. Nothing in Lean hashes anything: it is a label: what it is worth is what the hold of that sum in a sandbox is worth. -/
noncomputable def Try.pinned : Pinned := { name := "ytjpoifoejbabiaa", sum := "5550520536c65d6204fdd164e89917ccfa4f51e68f59f5148a3d9a34bd427682", checked := Try.checked }
namespace Rows
def none {H : Type} : Left H := { results := [], args := [] }

/-- 'shelflaw14.ShowNames': WHATEVER THE INPUT: true; the input reads as it did. -/
def showNamesSpec : ChangeSpec := { name := "showNames", fn := fun _ => fun
  | [] => { results := [.lit (.bool true)], args := [] }
  | _ => none }
def showNamesRow : OpenClaim := { program := "ytjpoifoejbabiaa", sum := "5550520536c65d6204fdd164e89917ccfa4f51e68f59f5148a3d9a34bd427682", func := "shelf/shelflaw14.ShowNames", spec := "showNames", apart := false }
def ShowNamesSaid : Prop := showNamesRow.holds Try.pinned (OpenSpec.ofChange showNamesSpec)

/-- ITS FALSE NEIGHBOUR: 'it returns false'. Refute it at one input. -/
def showNamesWrong : ChangeSpec := { name := "showNames", fn := fun _ => fun
  | [] => { results := [.lit (.bool false)], args := [] }
  | _ => none }
def ShowNamesWrongFalsely : Prop := showNamesRow.holds Try.pinned (OpenSpec.ofChange showNamesWrong)

/-- 'shelflaw14.ShowMessageBack': WHATEVER THE INPUT: true; the input reads as it did. -/
def showMessageBackSpec : ChangeSpec := { name := "showMessageBack", fn := fun _ => fun
  | [d1, d2, d3] => { results := [.lit (.bool true)], args := [d1, d2, d3] }
  | _ => none }
def showMessageBackRow : OpenClaim := { program := "ytjpoifoejbabiaa", sum := "5550520536c65d6204fdd164e89917ccfa4f51e68f59f5148a3d9a34bd427682", func := "shelf/shelflaw14.ShowMessageBack", spec := "showMessageBack", inPlace := ["internal/abi.NoEscape", "internal/bytealg.MakeNoZero", "internal/bytealg.IndexByteString"], apart := false }
def ShowMessageBackSaid : Prop := showMessageBackRow.holds Try.pinned (OpenSpec.ofChange showMessageBackSpec)

/-- ITS FALSE NEIGHBOUR: 'it returns false'. Refute it at one input. -/
def showMessageBackWrong : ChangeSpec := { name := "showMessageBack", fn := fun _ => fun
  | [d1, d2, d3] => { results := [.lit (.bool false)], args := [d1, d2, d3] }
  | _ => none }
def ShowMessageBackWrongFalsely : Prop := showMessageBackRow.holds Try.pinned (OpenSpec.ofChange showMessageBackWrong)

/-- 'shelflaw14.ShowEvents': WHATEVER THE INPUT: true; the input reads as it did. -/
def showEventsSpec : ChangeSpec := { name := "showEvents", fn := fun _ => fun
  | [d] => { results := [.lit (.bool true)], args := [d] }
  | _ => none }
def showEventsRow : OpenClaim := { program := "ytjpoifoejbabiaa", sum := "5550520536c65d6204fdd164e89917ccfa4f51e68f59f5148a3d9a34bd427682", func := "shelf/shelflaw14.ShowEvents", spec := "showEvents", inPlace := ["internal/abi.NoEscape", "internal/bytealg.MakeNoZero"], unfollowed := true, recurses := true, apart := false }
def ShowEventsSaid : Prop := showEventsRow.holds Try.pinned (OpenSpec.ofChange showEventsSpec)

/-- ITS FALSE NEIGHBOUR: 'it returns false'. Refute it at one input. -/
def showEventsWrong : ChangeSpec := { name := "showEvents", fn := fun _ => fun
  | [d] => { results := [.lit (.bool false)], args := [d] }
  | _ => none }
def ShowEventsWrongFalsely : Prop := showEventsRow.holds Try.pinned (OpenSpec.ofChange showEventsWrong)

/-- 'shelflaw14.ShowMessage': WHATEVER THE INPUT: true; the input reads as it did. -/
def showMessageSpec : ChangeSpec := { name := "showMessage", fn := fun _ => fun
  | [d1, d2, d3] => { results := [.lit (.bool true)], args := [d1, d2, d3] }
  | _ => none }
def showMessageRow : OpenClaim := { program := "ytjpoifoejbabiaa", sum := "5550520536c65d6204fdd164e89917ccfa4f51e68f59f5148a3d9a34bd427682", func := "shelf/shelflaw14.ShowMessage", spec := "showMessage", inPlace := ["internal/abi.NoEscape", "internal/bytealg.MakeNoZero"], apart := false }
def ShowMessageSaid : Prop := showMessageRow.holds Try.pinned (OpenSpec.ofChange showMessageSpec)

/-- ITS FALSE NEIGHBOUR: 'it returns false'. Refute it at one input. -/
def showMessageWrong : ChangeSpec := { name := "showMessage", fn := fun _ => fun
  | [d1, d2, d3] => { results := [.lit (.bool false)], args := [d1, d2, d3] }
  | _ => none }
def ShowMessageWrongFalsely : Prop := showMessageRow.holds Try.pinned (OpenSpec.ofChange showMessageWrong)

/-- 'shelflaw14.ShowPrint': WHATEVER THE INPUT: true; the input reads as it did. -/
def showPrintSpec : ChangeSpec := { name := "showPrint", fn := fun _ => fun
  | [d1, d2] => { results := [.lit (.bool true)], args := [d1, d2] }
  | _ => none }
def showPrintRow : OpenClaim := { program := "ytjpoifoejbabiaa", sum := "5550520536c65d6204fdd164e89917ccfa4f51e68f59f5148a3d9a34bd427682", func := "shelf/shelflaw14.ShowPrint", spec := "showPrint", inPlace := ["internal/abi.NoEscape", "internal/bytealg.MakeNoZero"], unfollowed := true, recurses := true, apart := false }
def ShowPrintSaid : Prop := showPrintRow.holds Try.pinned (OpenSpec.ofChange showPrintSpec)

/-- ITS FALSE NEIGHBOUR: 'it returns false'. Refute it at one input. -/
def showPrintWrong : ChangeSpec := { name := "showPrint", fn := fun _ => fun
  | [d1, d2] => { results := [.lit (.bool false)], args := [d1, d2] }
  | _ => none }
def ShowPrintWrongFalsely : Prop := showPrintRow.holds Try.pinned (OpenSpec.ofChange showPrintWrong)

/- THE SECOND FORM. 'bulk': how many values and letters a reading holds, each counted each time it is reached (what is shared counts as often as it is met; a slice's spare places count too). A statement '..UptoSaid' is the law's where the arguments, and the package variables that the reading takes, are together of bulk at most 1048576: NARROWER than '..Said'. Prove '..Said' where nothing that the law and all that it calls make is longer than what came in: it says more and counts as full. Else prove '..UptoSaid'. A law counts once. -/
mutual
def uptoBulk {H : Type} : DataW H → Nat
  | .lit (.string bytes) => bytes.length + 1
  | .lit _ => 1
  | .nil => 1
  | .ptr d => uptoBulk d + 1
  | .slice elems spare => uptoBulkAll elems + uptoBulkAll spare + 1
  | .agg parts => uptoBulkAll parts + 1
  | .iface _ d => uptoBulk d + 1
  | .map entries => uptoBulkEntries entries + 1
  | .held _ => 1
def uptoBulkAll {H : Type} : List (DataW H) → Nat
  | [] => 0
  | d :: r => uptoBulk d + uptoBulkAll r
def uptoBulkEntries {H : Type} : List (Lit × DataW H) → Nat
  | [] => 0
  | x :: r => uptoBulkEntry x + uptoBulkEntries r
def uptoBulkEntry {H : Type} : Lit × DataW H → Nat
  | (.string bytes, d) => bytes.length + uptoBulk d + 1
  | (_, d) => uptoBulk d + 1
 end
def uptoSmall : (H : Type) → List (DataW H) → Bool := fun _ ds => decide (uptoBulkAll ds ≤ 1048576)
def OpenSpec.upto (s : _root_.Go.ChangeSpec) : _root_.Go.OpenSpec := { _root_.Go.OpenSpec.ofChange s with cond := some uptoSmall }

/-- 'shelflaw14.ShowNames', WHERE WHAT IT READS IS OF BULK AT MOST 1048576: true; the input reads as it did. -/
def showNamesUptoRow : OpenClaim := { program := "ytjpoifoejbabiaa", sum := "5550520536c65d6204fdd164e89917ccfa4f51e68f59f5148a3d9a34bd427682", func := "shelf/shelflaw14.ShowNames", spec := "showNames", apart := false, narrowed := true }
def ShowNamesUptoSaid : Prop := showNamesUptoRow.holds Try.pinned (OpenSpec.upto showNamesSpec)

/-- 'shelflaw14.ShowMessageBack', WHERE WHAT IT READS IS OF BULK AT MOST 1048576: true; the input reads as it did. -/
def showMessageBackUptoRow : OpenClaim := { program := "ytjpoifoejbabiaa", sum := "5550520536c65d6204fdd164e89917ccfa4f51e68f59f5148a3d9a34bd427682", func := "shelf/shelflaw14.ShowMessageBack", spec := "showMessageBack", inPlace := ["internal/abi.NoEscape", "internal/bytealg.MakeNoZero", "internal/bytealg.IndexByteString"], apart := false, narrowed := true }
def ShowMessageBackUptoSaid : Prop := showMessageBackUptoRow.holds Try.pinned (OpenSpec.upto showMessageBackSpec)

/-- 'shelflaw14.ShowEvents', WHERE WHAT IT READS IS OF BULK AT MOST 1048576: true; the input reads as it did. -/
def showEventsUptoRow : OpenClaim := { program := "ytjpoifoejbabiaa", sum := "5550520536c65d6204fdd164e89917ccfa4f51e68f59f5148a3d9a34bd427682", func := "shelf/shelflaw14.ShowEvents", spec := "showEvents", inPlace := ["internal/abi.NoEscape", "internal/bytealg.MakeNoZero"], unfollowed := true, recurses := true, apart := false, narrowed := true }
def ShowEventsUptoSaid : Prop := showEventsUptoRow.holds Try.pinned (OpenSpec.upto showEventsSpec)

/-- 'shelflaw14.ShowMessage', WHERE WHAT IT READS IS OF BULK AT MOST 1048576: true; the input reads as it did. -/
def showMessageUptoRow : OpenClaim := { program := "ytjpoifoejbabiaa", sum := "5550520536c65d6204fdd164e89917ccfa4f51e68f59f5148a3d9a34bd427682", func := "shelf/shelflaw14.ShowMessage", spec := "showMessage", inPlace := ["internal/abi.NoEscape", "internal/bytealg.MakeNoZero"], apart := false, narrowed := true }
def ShowMessageUptoSaid : Prop := showMessageUptoRow.holds Try.pinned (OpenSpec.upto showMessageSpec)

/-- 'shelflaw14.ShowPrint', WHERE WHAT IT READS IS OF BULK AT MOST 1048576: true; the input reads as it did. -/
def showPrintUptoRow : OpenClaim := { program := "ytjpoifoejbabiaa", sum := "5550520536c65d6204fdd164e89917ccfa4f51e68f59f5148a3d9a34bd427682", func := "shelf/shelflaw14.ShowPrint", spec := "showPrint", inPlace := ["internal/abi.NoEscape", "internal/bytealg.MakeNoZero"], unfollowed := true, recurses := true, apart := false, narrowed := true }
def ShowPrintUptoSaid : Prop := showPrintUptoRow.holds Try.pinned (OpenSpec.upto showPrintSpec)

end Rows
end Go.Proofs.Ytjpoifoejbabiaa
