
-- Keys: names, numbers, places.
import Derived.Test.YtiedimmbcmpfbaaMP
import Derived.Laws.StructEq
import Derived.Laws.Cover2
import Derived.WalkKit
import Derived.ProofKit
namespace Go.Proofs.Ytiedimmbcmpfbaa
open Go.RowKit Go.MapKept Go.ChangeMaps
set_option linter.unusedVariables false
set_option maxRecDepth 100000
abbrev IsSt : Value → Prop := IsKey .string
abbrev IsNm : Value → Prop := IsKey (.int .i64)
def plV (p : Int × Int) : Value := .agg #[.int .i64 p.1, .int .i64 p.2]
def IsPl (v : Value) : Prop := ∃ p, v = plV p
theorem keySt : KeyK Try.prog 9 IsSt := keyK_plain Try.underlying9
theorem keyNm : KeyK Try.prog 3 IsNm := keyK_plain Try.underlying3
theorem plV_inj {p q : Int × Int} (h : plV p = plV q) : p = q := by
  obtain ⟨a, b⟩ := p; obtain ⟨c, d⟩ := q
  simp [plV] at h
  simp [h.1, h.2]
end Go.Proofs.Ytiedimmbcmpfbaa
