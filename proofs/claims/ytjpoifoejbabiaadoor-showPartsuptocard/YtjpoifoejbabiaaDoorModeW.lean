
import Derived.Test.YtjpoifoejbabiaaDoorRows
import Derived.WalkKit
import Derived.Handy
import Derived.BigQuiet
import Derived.Deep.RegionLaw
import Derived.Deep.RegionWith
import Derived.Laws.Rows
namespace Go.Proofs.YtjpoifoejbabiaaDoor
open Go.RowKit
set_option linter.unusedVariables false
set_option maxRecDepth 100000
/-- The letters of a mode. -/
def lif (b : Bool) (c : Int) : Int := if b then c else 45
def exl (x o : Bool) (m : Int) : Int := if o then (if x then m else m - 32) else (if x then 120 else 45)
theorem letterIf_c (b : Bool) (c : Int) (w : World) : Calls Tryd.prog 23 #[.bool b, .int .u8 c] w fun e w' => e = .returned (.int .u8 (lif b c)) ∧ w' = w := by
  cases b
  all_goals
    go_enter Tryd.func23, Tryd.ntmps23
    go_wp2
    go_ret
    exact ⟨rfl, rfl⟩
theorem executeLetter_c (x o : Bool) (m : Int) (h0 : 97 ≤ m) (h1 : m ≤ 122) (w : World) : Calls Tryd.prog 24 #[.bool x, .bool o, .int .u8 m] w fun e w' => e = .returned (.int .u8 (exl x o m)) ∧ w' = w := by
  have HL : Hid (∀ w, Calls Tryd.prog 23 #[.bool x, .int .u8 120] w fun e w' => e = .returned (.int .u8 (lif x 120)) ∧ w' = w) := fun w => letterIf_c x 120 w
  cases x <;> cases o
  all_goals
    go_enter Tryd.func24, Tryd.ntmps24
    go_wp2_with (go_at_call 23; refine (HL.out _).mono ?_; rintro e w1 ⟨rfl, hw1⟩; subst w1)
    go_ret
    refine ⟨?_, rfl⟩
    simp [exl, lif]
    try omega
end Go.Proofs.YtjpoifoejbabiaaDoor
