
-- What '==' says of two headers, of two sections.
import Derived.Test.YtmoapdecacnmpaaDoorQ1
namespace Go.Proofs.YtmoapdecacnmpaaDoor
theorem eqELF (a b c d e f g h : Int) (w : World) : (Op.equalIn 10000 32 (.agg #[.int .i64 a, .int .i64 b, .int .i64 c, .int .i64 d, .int .u64 e, .int .i64 f, .int .i64 g, .int .i64 h]) (.agg #[.int .i64 a, .int .i64 b, .int .i64 c, .int .i64 d, .int .u64 e, .int .i64 f, .int .i64 g, .int .i64 h])).run Tryd.prog w = .ok true w := by
  have u3 := Tryd.underlying3
  have a3 := Tryd.isAgg3
  have z3 := Tryd.sizeOf3
  have u4 := Tryd.underlying30
  have a4 := Tryd.isAgg30
  have z4 := Tryd.sizeOf30
  have u5 := Tryd.underlying22
  have a5 := Tryd.isAgg22
  have z5 := Tryd.sizeOf22
  have hS : Tryd.prog.underlying 32 = some (.struct (Tryd.prog.fieldsOf 32)) := by kernel_rfl
  rw [show (10000 : Nat) = 9999 + 1 from rfl, run_equalIn_agg w 9999 32 _ _ hS (by kernel_rfl)]
  simp only [Program.fieldsOf, Tryd.underlying32]
  go_simp
theorem eqSec (a b c d e f g h : Int) (w : World) : (Op.equalIn 10000 66 (.agg #[.int .i64 a, .int .i64 b, .int .u64 c, .int .i64 d, .int .i64 e, .int .u64 f, .int .u64 g, .int .u64 h]) (.agg #[.int .i64 a, .int .i64 b, .int .u64 c, .int .i64 d, .int .i64 e, .int .u64 f, .int .u64 g, .int .u64 h])).run Tryd.prog w = .ok true w := by
  have u3 := Tryd.underlying3
  have a3 := Tryd.isAgg3
  have z3 := Tryd.sizeOf3
  have u4 := Tryd.underlying30
  have a4 := Tryd.isAgg30
  have z4 := Tryd.sizeOf30
  have hS : Tryd.prog.underlying 66 = some (.struct (Tryd.prog.fieldsOf 66)) := by kernel_rfl
  rw [show (10000 : Nat) = 9999 + 1 from rfl, run_equalIn_agg w 9999 66 _ _ hS (by kernel_rfl)]
  simp only [Program.fieldsOf, Tryd.underlying66]
  go_simp
end Go.Proofs.YtmoapdecacnmpaaDoor
