-- From what the rows list to the facts that the walks take.
import Derived.Test.YtfjmjgnifbgneabDoorRPut
import Derived.WalkKit
import Derived.ProofKit
import Derived.OpenShut
import Derived.Deep.DeepHandedRow
import Derived.Lib.LaidTab
import Derived.Stop.LaidErr
namespace Go.Proofs.YtfjmjgnifbgneabDoor
open Go.ChangeShapes Go.WideShapes Go.ChangeAt Go.RowKit
theorem g64 : Tryd.prog.globalNamed "math/bits.deBruijn64tab" = some 3 := by kernel_rfl
theorem g64t : (Tryd.prog.globals[3]?).map (·.type) = some 80 := by kernel_rfl
theorem g10t : (Tryd.prog.globals[0]?).map (·.type) = some 71 := by kernel_rfl
theorem c80 : Tryd.prog.cellsOf 80 = 64 := by kernel_rfl
theorem c71 : Tryd.prog.cellsOf 71 = 20 := by kernel_rfl
theorem c5 : Tryd.prog.cellsOf 5 = 1 := by kernel_rfl
theorem c58 : Tryd.prog.cellsOf 58 = 1 := by kernel_rfl
def list64 : List Int := [0, 1, 56, 2, 57, 49, 28, 3, 61, 58, 42, 50, 38, 29, 17, 4, 62, 47, 59, 36, 45, 43, 51, 22, 53, 39, 33, 30, 24, 18, 12, 5, 63, 55, 48, 27, 60, 41, 37, 16, 46, 35, 44, 21, 52, 32, 23, 11, 54, 26, 40, 15, 34, 20, 31, 10, 25, 14, 19, 9, 13, 8, 7, 6]
theorem list10 : Lib.pow10Tab = [1, 10, 100, 1000, 10000, 100000, 1000000, 10000000, 100000000, 1000000000, 10000000000, 100000000000, 1000000000000, 10000000000000, 100000000000000, 1000000000000000, 10000000000000000, 100000000000000000, 1000000000000000000, 10000000000000000000] := by decide
theorem laid_is {W : World} (h : laidMetH Tryd.prog Rows.numPutDecRow.laid W) :
    laidMet Tryd.prog [("math/bits.deBruijn32tab", Rows.laid_math_bits_deBruijn32tab), ("math/bits.deBruijn64tab", Rows.laid_math_bits_deBruijn64tab), ("internal/strconv.uint64pow10", Rows.laid_internal_strconv_uint64pow10)] W := h
theorem tab64 {W : World} (h : laidMetH Tryd.prog Rows.numPutDecRow.laid W) : Lib.TabIs Tryd.prog W "math/bits.deBruijn64tab" .u8 list64 :=
  Lib.tabIs_of_head (rest := [("internal/strconv.uint64pow10", Rows.laid_internal_strconv_uint64pow10)]) g64 g64t Tryd.underlying80 Tryd.underlying5 c5 c80 (laid_is h).tail
theorem tab10 {W : World} (h : laidMetH Tryd.prog Rows.numPutDecRow.laid W) : Lib.TabIs Tryd.prog W "internal/strconv.uint64pow10" .u64 Lib.pow10Tab := by
  rw [list10]
  exact Lib.tabIs_of_head (rest := []) gPow g10t Tryd.underlying71 Tryd.underlying58 c58 c71 (laid_is h).tail.tail
theorem cell64 {W : World} (h : laidMetH Tryd.prog Rows.numPutDecRow.laid W) : W.cell? ⟨3, 7, none⟩ = some (.int .u8 3) := (tab64 h).cell g64 7 (by decide)
theorem heap_of {W : World} (h : laidMetH Tryd.prog Rows.numPutDecRow.laid W) : 3 < W.heap.size := by
  have hc := cell64 h
  by_cases hb : 3 < W.heap.size
  · exact hb
  · exfalso
    have hn : W.heap[3]? = none := Array.getElem?_eq_none (by omega)
    simp [World.cell?, hn] at hc
theorem tabs_of {W : World} (h : laidMetH Tryd.prog Rows.numPutDecRow.laid W) (h3 : 3 < W.heap.size) : Tabs W := ⟨tab10 h, cell64 h, h3⟩
end Go.Proofs.YtfjmjgnifbgneabDoor
