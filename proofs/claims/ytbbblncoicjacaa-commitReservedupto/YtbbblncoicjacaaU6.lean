
-- The calls of the device that fails: List, Stat.
import Derived.Test.YtbbblncoicjacaaU5
import Derived.Deep.RegionHeld3
import Derived.Deep.DrawnRows
namespace Go.Proofs.Ytbbblncoicjacaa
open Go.RowKit
set_option linter.unusedVariables false
variable {PS : (Nat → Prop) → Nat → St → World → Prop}
attribute [local go_sem ↓] Go.wp_at_zero Go.wp_at_succ
def stV (v : Vs) (name : ByteArray) : Array Value := #[.int .i64 (v.stat name).1.1.2.date, .int .i64 (v.stat name).1.1.2.uid, .int .i64 (v.stat name).1.1.2.gid, .int .i64 (v.stat name).1.1.2.mode, .string (v.stat name).1.1.1, .int .i64 (v.stat name).1.1.2.data.size]
end Go.Proofs.Ytbbblncoicjacaa
