
-- strconv.Itoa, by the shelf.
import Derived.Test.YtmlnnbinbbmmhaaDoorShelfI
import Derived.Test.YtmlnnbinbbmmhaaDoorO8
namespace Go.Proofs.YtmlnnbinbbmmhaaDoor
open Go.ChangeShapes Go.WideShapes Go.ChangeAt Go.RowKit
set_option linter.unusedVariables false
set_option maxRecDepth 100000
theorem itoa_c (v : Nat) (w : World) (hv : v ≤ 9223372036854775807) (hT : Tabs w) :
    Calls Tryd.prog 54 #[.int .i64 v] w fun e w' => e = .returned (.string (strL (dg 10 v))) ∧ Below w.heap.size w w' := by
  refine (Tryd.strconv_Itoa v (by omega) (by omega) w hT.t10).mono fun e w' ⟨he, k, os, hw⟩ => ?_
  refine ⟨?_, by rw [hw]; exact below_grown w k os⟩
  rw [he, ← dec_dg v (big64 10 v (by omega) hv)]
  unfold Lib.itoa
  rw [if_neg (by omega), Int.toNat_natCast]; rfl
end Go.Proofs.YtmlnnbinbbmmhaaDoor
