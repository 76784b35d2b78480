
-- has, add.
import Derived.Test.YtiedimmbcmpfbaaST
import Derived.Maps.OwnOps
namespace Go.Proofs.Ytiedimmbcmpfbaa
open Go.ChangeShapes Go.WideShapes Go.ChangeAt Go.RowKit Go.MapKept
set_option linter.unusedVariables false
set_option maxRecDepth 100000
theorem zeroU (w : World) : (zeroValue 47).run Try.prog w = .ok (.agg #[]) w := by
  have : (Try.prog.info? 47).map (·.zero) = some (some (.agg #[])) := by kernel_rfl
  cases h : Try.prog.info? 47 with
  | none => simp [h] at this
  | some i => simp [h] at this; simp [zeroValue, typeInfo, h, this, Result.andThen]
theorem zeroN (w : World) : (zeroValue 3).run Try.prog w = .ok (.int .i64 0) w := by
  have : (Try.prog.info? 3).map (·.zero) = some (some (.int .i64 0)) := by kernel_rfl
  cases h : Try.prog.info? 3 with
  | none => simp [h] at this
  | some i => simp [h] at this; simp [zeroValue, typeInfo, h, this, Result.andThen]
end Go.Proofs.Ytiedimmbcmpfbaa
