
-- Letters: symbols and sections, plainly and in memory.
import Derived.Test.YtnajnfnkpcpacaaA0
namespace Go.Proofs.Ytnajnfnkpcpacaa
open Go.ChangeShapes Go.WideShapes Go.ChangeAt Go.RowKit
set_option linter.unusedVariables false
set_option maxRecDepth 100000
set_option linter.unusedSimpArgs false
structure Se where
  nm : Int
  ty : Int
  fl : Int
  lk : Int
  inf : Int
  ofs : Int
  sz : Int
  es : Int
def se0 : Se := ⟨0, 0, 0, 0, 0, 0, 0, 0⟩
def seL (x : Se) : List Value := [.int .i64 x.nm, .int .i64 x.ty, .int .u64 x.fl, .int .i64 x.lk, .int .i64 x.inf, .int .u64 x.ofs, .int .u64 x.sz, .int .u64 x.es]
theorem seL_len (x : Se) : (seL x).length = 8 := rfl
structure Sy where
  nm : ByteArray
  bd : Int
  ty : Int
  ot : Int
  sc : Int
  va : Int
  sz : Int
def syL (x : Sy) : List Value := [.string x.nm, .int .i64 x.bd, .int .i64 x.ty, .int .i64 x.ot, .int .i64 x.sc, .int .u64 x.va, .int .u64 x.sz]
/-- the letter, by the symbol's bind -/
def byB (b : Int) (c : Int) : Int := if b = 0 then c + 32 else c
theorem byBind_c (b c : Int) (hc : 65 ≤ c) (hc' : c ≤ 90) (w : World) : Calls Try.prog 18 #[.int .i64 b, .int .u8 c] w fun e w' => e = .returned (.int .u8 (byB b c)) ∧ Below w.heap.size w w' := by
  have e1 : IntKind.u8.wrap (c - 65) = c - 65 := by
    show (c - 65) % 256 = c - 65; omega
  have e2 : IntKind.u8.wrap (c - 65 + 97) = c + 32 := by
    show (c - 65 + 97) % 256 = c + 32; omega
  go_enter Try.func18, Try.ntmps18
  by_cases h : b = 0
  · subst h
    go_wp2
    go_ret
    exact ⟨by simp only [byB, if_true]; rfl, Below.refl _ _⟩
  · go_wp2
    go_ret
    exact ⟨by simp only [byB, h, if_false]; rfl, Below.refl _ _⟩
theorem small_c (b c : Int) (hc : 65 ≤ c) (hc' : c ≤ 90) (w : World) : Calls Try.prog 20 #[.int .u8 c, .int .i64 b] w fun e w' => e = .returned (.int .u8 (byB b c)) ∧ Below w.heap.size w w' := by
  have e1 : IntKind.u8.wrap (c + 97) = c + 97 := by
    show (c + 97) % 256 = c + 97; omega
  have e2 : IntKind.u8.wrap (c + 97 - 65) = c + 32 := by
    show (c + 97 - 65) % 256 = c + 32; omega
  go_enter Try.func20, Try.ntmps20
  by_cases h : b = 0
  · subst h
    go_wp2
    go_ret
    exact ⟨by simp only [byB, if_true]; rfl, Below.refl _ _⟩
  · go_wp2
    go_ret
    exact ⟨by simp only [byB, h, if_false]; rfl, Below.refl _ _⟩
/-- a flag of a section -/
def fb (fl k : Int) : Bool := bits BinOp.and IntKind.u64 fl k != 0
def secLt (ty fl : Int) : Int := if ty = 8 then 66 else if fb fl 4 = true then 84 else if fb fl 1 = true then 68 else if fb fl 2 = true then 82 else 78
theorem secLt_le (ty fl : Int) : 65 ≤ secLt ty fl ∧ secLt ty fl ≤ 90 := by
  unfold secLt
  repeat' split
  all_goals omega
theorem sec_c (nm ty fl lk inf ofs sz es : Int) (w : World) : Calls Try.prog 19 #[.agg #[.int .i64 nm, .int .i64 ty, .int .u64 fl, .int .i64 lk, .int .i64 inf, .int .u64 ofs, .int .u64 sz, .int .u64 es]] w fun e w' => e = .returned (.int .u8 (secLt ty fl)) ∧ Below w.heap.size w w' := by
  go_enter Try.func19, Try.ntmps19
  by_cases h : ty = 8
  · go_wp2
    go_ret
    exact ⟨by simp only [secLt, h, if_true]; rfl, bupK (Below.refl _ _) _⟩
  · go_wp2
    all_goals go_ret
    all_goals refine ⟨?_, bupK (Below.refl _ _) _⟩
    all_goals simp only [secLt, fb, h, if_false, if_true, Bool.false_eq_true, *]
    all_goals rfl
/-- the letter of a symbol; n sections, the one at its place of type ty and flags fl -/
def letP (x : Sy) (n : Nat) (ty fl : Int) : Int :=
  if x.sc = 0 then (if x.bd = 2 then 119 else 85) else if x.sc = 65522 then 67 else if x.bd = 2 then (if x.ty = 1 then 86 else 87)
  else if x.sc = 65521 then byB x.bd 65 else if x.sc < 0 ∨ (n : Int) ≤ x.sc then 63 else byB x.bd (secLt ty fl)
end Go.Proofs.Ytnajnfnkpcpacaa
