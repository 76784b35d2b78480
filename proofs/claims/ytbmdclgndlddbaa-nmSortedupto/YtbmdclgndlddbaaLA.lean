
-- Letters: symbols and sections, plainly and in memory.
import Derived.Test.YtbmdclgndlddbaaA0
namespace Go.Proofs.Ytbmdclgndlddbaa
open Go.ChangeShapes Go.WideShapes Go.ChangeAt Go.RowKit
set_option linter.unusedVariables false
set_option maxRecDepth 100000
set_option linter.unusedSimpArgs false
structure Se where
  nm : Int
  ty : Int
  fl : Int
  lk : Int
  inf : Int
  ofs : Int
  sz : Int
  es : Int
def se0 : Se := ⟨0, 0, 0, 0, 0, 0, 0, 0⟩
def seL (x : Se) : List Value := [.int .i64 x.nm, .int .i64 x.ty, .int .u64 x.fl, .int .i64 x.lk, .int .i64 x.inf, .int .u64 x.ofs, .int .u64 x.sz, .int .u64 x.es]
theorem seL_len (x : Se) : (seL x).length = 8 := rfl
structure Sy where
  nm : ByteArray
  bd : Int
  ty : Int
  ot : Int
  sc : Int
  va : Int
  sz : Int
def syL (x : Sy) : List Value := [.string x.nm, .int .i64 x.bd, .int .i64 x.ty, .int .i64 x.ot, .int .i64 x.sc, .int .u64 x.va, .int .u64 x.sz]
/-- the letter, by the symbol's bind -/
def byB (b : Int) (c : Int) : Int := if b = 0 then c + 32 else c
/-- a flag of a section -/
def fb (fl k : Int) : Bool := bits BinOp.and IntKind.u64 fl k != 0
def secLt (ty fl : Int) : Int := if ty = 8 then 66 else if fb fl 4 = true then 84 else if fb fl 1 = true then 68 else if fb fl 2 = true then 82 else 78
theorem secLt_le (ty fl : Int) : 65 ≤ secLt ty fl ∧ secLt ty fl ≤ 90 := by
  unfold secLt
  repeat' split
  all_goals omega
/-- the letter of a symbol; n sections, the one at its place of type ty and flags fl -/
def letP (x : Sy) (n : Nat) (ty fl : Int) : Int :=
  if x.sc = 0 then (if x.bd = 2 then 119 else 85) else if x.sc = 65522 then 67 else if x.bd = 2 then (if x.ty = 1 then 86 else 87)
  else if x.sc = 65521 then byB x.bd 65 else if x.sc < 0 ∨ (n : Int) ≤ x.sc then 63 else byB x.bd (secLt ty fl)
end Go.Proofs.Ytbmdclgndlddbaa
