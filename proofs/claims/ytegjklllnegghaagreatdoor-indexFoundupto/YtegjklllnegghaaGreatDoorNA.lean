
-- index.nameAll's closure; the sort: contracts.
import Derived.Test.YtegjklllnegghaaGreatDoorPR
import Derived.Deep.QuietTactic
import Derived.BigQuiet
import Derived.Deep.Draws
namespace Go.Proofs.YtegjklllnegghaaGreatDoor
open Go.ChangeShapes Go.WideShapes Go.ChangeAt Go.RowKit
set_option linter.unusedVariables false
set_option maxRecDepth 100000
set_option maxHeartbeats 2000000 in
theorem clos_c (B G n c : Nat) (bg : Nat → Nat) (x y : Nat) (w : World) (hx : x < n) (hy : y < n) (hB : w.cell? ⟨B, 0, none⟩ = some (.slice (some ⟨G, 0, none⟩) n c)) (hG : ∀ j, j < n → w.cell? ⟨G, j, none⟩ = some (.int .i64 (bg j : Nat))) (hn : n ≤ 67108864) :
    Calls Tryz.prog 71 #[.int .i64 x, .int .i64 y, .pointer (some ⟨B, 0, none⟩)] w fun e w' => e = .returned (.int .i64 (Lib.compareInt (bg x) (bg y))) ∧ ∃ q, w' = w.drewN q := by
  have c1 := hG x hx
  have c2 := hG y hy
  have HC : Hid (∀ (a b : Int) (w : World), Calls Tryz.prog 72 #[.int .i64 a, .int .i64 b] w fun e w' => e = .returned (.int .i64 (Lib.compareInt a b)) ∧ w' = w) := fun a b w => Tryz.cmp_Compare_int a b w
  have hxI : (x : Int) < (n : Int) := by omega
  have hyI : (y : Int) < (n : Int) := by omega
  generalize ((bg x : Nat) : Int) = X at *
  generalize ((bg y : Nat) : Int) = Y at *
  clear hG
  go_enter Tryz.func71, Tryz.ntmps71
  go_wp2_with fail
  go_quiet ((go_at_call 72; exact Calls.quiet_of_same (HC.out _ _ _)))
  go_wp2
  go_ret
  exact ⟨rfl, _, rfl⟩
end Go.Proofs.YtegjklllnegghaaGreatDoor
