import Derived.Test.YtggnjgmjfenibaaGreatDoorM6
import Derived.Test.YtggnjgmjfenibaaGreatDoorM4

-- The statements' inner: which Op and Name the error has.
namespace Go.Proofs.YtggnjgmjfenibaaGreatDoor
open Go.RowKit
set_option linter.unusedVariables false
set_option maxRecDepth 100000
set_option maxHeartbeats 4000000 in
theorem inner_c (a : Nat) (name : ByteArray) (w : World) (ha : a ≤ 7) : Calls Tryz.prog 24 #[.int .i64 (a : Int), .string name] w fun e w' => ∃ o n, e = .returned (.tuple #[.string o, .string n]) ∧ (a ≠ 0 → o = opR a ∧ n = nmR a name) ∧ Below w.heap.size w w' := by
  have hc : a = 0 ∨ a = 1 ∨ a = 2 ∨ a = 3 ∨ a = 4 ∨ a = 5 ∨ a = 6 ∨ a = 7 := by omega
  clear ha
  rcases hc with rfl | rfl | rfl | rfl | rfl | rfl | rfl | rfl
  all_goals
    go_enter Tryz.func24, Tryz.ntmps24
    go_wp2
    go_returns
  all_goals
    refine ⟨_, _, rfl, fun h0 => ⟨?_, ?_⟩, ?_⟩
  all_goals first
    | rfl
    | exact absurd rfl h0
    | go_grown
end Go.Proofs.YtggnjgmjfenibaaGreatDoor
