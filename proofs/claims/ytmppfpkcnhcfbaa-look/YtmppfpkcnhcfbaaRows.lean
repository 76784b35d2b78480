/-
  No cell of these rows narrows 'for every input' (looked for: loops, veiled, ifaces, maps, wideKeys, modest, calm, conditions, laid).
  DERIVED. THE GIVEN ROWS OF THIS SEAT. 4 by the template 'for every input the law returns true; each argument reads behind the call as it read before'; 0 by the template 'total and deterministic' (their statements: YtmppfpkcnhcfbaaTotals.lean).
  GIVEN WITH THE SEED: the statements are not yours to turn. If you find one false, say at which input.
  Laid BY PROGRAM, IN A SANDBOX (cutbox-rows.mjs): the forced cells as the released guide's own fill.sh prints them over the translation 031fdb72826c23fb… (all of the seat's roots in one cut). By AI agents, Wed Nov 11 2026. No macro, syntax, notation, axiom, sorry.
-/
import Derived.Test.YtmppfpkcnhcfbaaChecked
import GoSem.Claim
import GoSem.ClaimJoined
import GoSem.ClaimMapViews
import Derived.JoinedTies
import Derived.KernelRfl
namespace Go.Proofs.Ytmppfpkcnhcfbaa
/- THE CELL 'sum', in the pinned program and in every row, IS THE sha256 OF THE DUMP (.gsa) THAT YtmppfpkcnhcfbaaProg.lean LOADS. Nothing in Lean hashes anything: it is a label: what it is worth is what the hold of that sum in a sandbox is worth. -/
noncomputable def Try.pinned : Pinned := { name := "ytmppfpkcnhcfbaa", sum := "031fdb72826c23fbff4d8ec426b034530e53e6e0082a78ec0b82a330c1325ed9", checked := Try.checked }
namespace Rows
def none {H : Type} : Left H := { results := [], args := [] }

/-- 'shelflaw8.NamesKindOf': WHATEVER THE INPUT: true; the input reads as it did. -/
def namesKindOfSpec : ChangeSpec := { name := "namesKindOf", fn := fun _ => fun
  | [d] => { results := [.lit (.bool true)], args := [d] }
  | _ => none }
def namesKindOfRow : OpenClaim := { program := "ytmppfpkcnhcfbaa", sum := "031fdb72826c23fbff4d8ec426b034530e53e6e0082a78ec0b82a330c1325ed9", func := "shelf/shelflaw8.NamesKindOf", spec := "namesKindOf", apart := false }
def NamesKindOfSaid : Prop := namesKindOfRow.holds Try.pinned (OpenSpec.ofChange namesKindOfSpec)

/-- ITS FALSE NEIGHBOUR: 'it returns false'. Refute it at one input. -/
def namesKindOfWrong : ChangeSpec := { name := "namesKindOf", fn := fun _ => fun
  | [d] => { results := [.lit (.bool false)], args := [d] }
  | _ => none }
def NamesKindOfWrongFalsely : Prop := namesKindOfRow.holds Try.pinned (OpenSpec.ofChange namesKindOfWrong)

/-- 'shelflaw8.NamesValid': WHATEVER THE INPUT: true; the input reads as it did. -/
def namesValidSpec : ChangeSpec := { name := "namesValid", fn := fun _ => fun
  | [d] => { results := [.lit (.bool true)], args := [d] }
  | _ => none }
def namesValidRow : OpenClaim := { program := "ytmppfpkcnhcfbaa", sum := "031fdb72826c23fbff4d8ec426b034530e53e6e0082a78ec0b82a330c1325ed9", func := "shelf/shelflaw8.NamesValid", spec := "namesValid", inPlace := ["internal/bytealg.IndexByteString"], apart := false }
def NamesValidSaid : Prop := namesValidRow.holds Try.pinned (OpenSpec.ofChange namesValidSpec)

/-- ITS FALSE NEIGHBOUR: 'it returns false'. Refute it at one input. -/
def namesValidWrong : ChangeSpec := { name := "namesValid", fn := fun _ => fun
  | [d] => { results := [.lit (.bool false)], args := [d] }
  | _ => none }
def NamesValidWrongFalsely : Prop := namesValidRow.holds Try.pinned (OpenSpec.ofChange namesValidWrong)

/-- 'shelflaw8.NamesLook': WHATEVER THE INPUT: true; the input reads as it did. -/
def namesLookSpec : ChangeSpec := { name := "namesLook", fn := fun _ => fun
  | [d1, d2] => { results := [.lit (.bool true)], args := [d1, d2] }
  | _ => none }
def namesLookRow : OpenClaim := { program := "ytmppfpkcnhcfbaa", sum := "031fdb72826c23fbff4d8ec426b034530e53e6e0082a78ec0b82a330c1325ed9", func := "shelf/shelflaw8.NamesLook", spec := "namesLook", inPlace := ["internal/bytealg.IndexByteString", "internal/bytealg.IndexString"], named := ["internal/bytealg.MaxLen"], apart := false }
def NamesLookSaid : Prop := namesLookRow.holds Try.pinned (OpenSpec.ofChange namesLookSpec)

/-- ITS FALSE NEIGHBOUR: 'it returns false'. Refute it at one input. -/
def namesLookWrong : ChangeSpec := { name := "namesLook", fn := fun _ => fun
  | [d1, d2] => { results := [.lit (.bool false)], args := [d1, d2] }
  | _ => none }
def NamesLookWrongFalsely : Prop := namesLookRow.holds Try.pinned (OpenSpec.ofChange namesLookWrong)

/-- 'shelflaw8.NamesRead': WHATEVER THE INPUT: true; the input reads as it did. -/
def namesReadSpec : ChangeSpec := { name := "namesRead", fn := fun _ => fun
  | [d] => { results := [.lit (.bool true)], args := [d] }
  | _ => none }
def namesReadRow : OpenClaim := { program := "ytmppfpkcnhcfbaa", sum := "031fdb72826c23fbff4d8ec426b034530e53e6e0082a78ec0b82a330c1325ed9", func := "shelf/shelflaw8.NamesRead", spec := "namesRead", inPlace := ["internal/bytealg.IndexByteString"], unfollowed := true, recurses := true, apart := false }
def NamesReadSaid : Prop := namesReadRow.holds Try.pinned (OpenSpec.ofChange namesReadSpec)

/-- ITS FALSE NEIGHBOUR: 'it returns false'. Refute it at one input. -/
def namesReadWrong : ChangeSpec := { name := "namesRead", fn := fun _ => fun
  | [d] => { results := [.lit (.bool false)], args := [d] }
  | _ => none }
def NamesReadWrongFalsely : Prop := namesReadRow.holds Try.pinned (OpenSpec.ofChange namesReadWrong)

/- THE SECOND FORM. 'bulk': how many values and letters a reading holds, each counted each time it is reached (what is shared counts as often as it is met; a slice's spare places count too). A statement '..UptoSaid' is the law's where the arguments, and the package variables that the reading takes, are together of bulk at most 1048576: NARROWER than '..Said'. Prove '..Said' where nothing that the law and all that it calls make is longer than what came in: it says more and counts as full. Else prove '..UptoSaid'. A law counts once. -/
mutual
def uptoBulk {H : Type} : DataW H → Nat
  | .lit (.string bytes) => bytes.length + 1
  | .lit _ => 1
  | .nil => 1
  | .ptr d => uptoBulk d + 1
  | .slice elems spare => uptoBulkAll elems + uptoBulkAll spare + 1
  | .agg parts => uptoBulkAll parts + 1
  | .iface _ d => uptoBulk d + 1
  | .map entries => uptoBulkEntries entries + 1
  | .held _ => 1
def uptoBulkAll {H : Type} : List (DataW H) → Nat
  | [] => 0
  | d :: r => uptoBulk d + uptoBulkAll r
def uptoBulkEntries {H : Type} : List (Lit × DataW H) → Nat
  | [] => 0
  | x :: r => uptoBulkEntry x + uptoBulkEntries r
def uptoBulkEntry {H : Type} : Lit × DataW H → Nat
  | (.string bytes, d) => bytes.length + uptoBulk d + 1
  | (_, d) => uptoBulk d + 1
 end
def uptoSmall : (H : Type) → List (DataW H) → Bool := fun _ ds => decide (uptoBulkAll ds ≤ 1048576)
def OpenSpec.upto (s : _root_.Go.ChangeSpec) : _root_.Go.OpenSpec := { _root_.Go.OpenSpec.ofChange s with cond := some uptoSmall }

/-- 'shelflaw8.NamesKindOf', WHERE WHAT IT READS IS OF BULK AT MOST 1048576: true; the input reads as it did. -/
def namesKindOfUptoRow : OpenClaim := { program := "ytmppfpkcnhcfbaa", sum := "031fdb72826c23fbff4d8ec426b034530e53e6e0082a78ec0b82a330c1325ed9", func := "shelf/shelflaw8.NamesKindOf", spec := "namesKindOf", apart := false, narrowed := true }
def NamesKindOfUptoSaid : Prop := namesKindOfUptoRow.holds Try.pinned (OpenSpec.upto namesKindOfSpec)

/-- 'shelflaw8.NamesValid', WHERE WHAT IT READS IS OF BULK AT MOST 1048576: true; the input reads as it did. -/
def namesValidUptoRow : OpenClaim := { program := "ytmppfpkcnhcfbaa", sum := "031fdb72826c23fbff4d8ec426b034530e53e6e0082a78ec0b82a330c1325ed9", func := "shelf/shelflaw8.NamesValid", spec := "namesValid", inPlace := ["internal/bytealg.IndexByteString"], apart := false, narrowed := true }
def NamesValidUptoSaid : Prop := namesValidUptoRow.holds Try.pinned (OpenSpec.upto namesValidSpec)

/-- 'shelflaw8.NamesLook', WHERE WHAT IT READS IS OF BULK AT MOST 1048576: true; the input reads as it did. -/
def namesLookUptoRow : OpenClaim := { program := "ytmppfpkcnhcfbaa", sum := "031fdb72826c23fbff4d8ec426b034530e53e6e0082a78ec0b82a330c1325ed9", func := "shelf/shelflaw8.NamesLook", spec := "namesLook", inPlace := ["internal/bytealg.IndexByteString", "internal/bytealg.IndexString"], named := ["internal/bytealg.MaxLen"], apart := false, narrowed := true }
def NamesLookUptoSaid : Prop := namesLookUptoRow.holds Try.pinned (OpenSpec.upto namesLookSpec)

/-- 'shelflaw8.NamesRead', WHERE WHAT IT READS IS OF BULK AT MOST 1048576: true; the input reads as it did. -/
def namesReadUptoRow : OpenClaim := { program := "ytmppfpkcnhcfbaa", sum := "031fdb72826c23fbff4d8ec426b034530e53e6e0082a78ec0b82a330c1325ed9", func := "shelf/shelflaw8.NamesRead", spec := "namesRead", inPlace := ["internal/bytealg.IndexByteString"], unfollowed := true, recurses := true, apart := false, narrowed := true }
def NamesReadUptoSaid : Prop := namesReadUptoRow.holds Try.pinned (OpenSpec.upto namesReadSpec)

end Rows
end Go.Proofs.Ytmppfpkcnhcfbaa
