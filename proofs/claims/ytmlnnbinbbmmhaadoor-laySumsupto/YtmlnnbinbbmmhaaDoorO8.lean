
-- strconv's tables as the rows list them.
import Derived.Test.YtmlnnbinbbmmhaaDoorRPut
import Derived.Lib.LaidTab
namespace Go.Proofs.YtmlnnbinbbmmhaaDoor
open Go.ChangeShapes Go.WideShapes Go.ChangeAt Go.RowKit
theorem g64 : Tryd.prog.globalNamed "math/bits.deBruijn64tab" = some 6 := by kernel_rfl
theorem g64t : (Tryd.prog.globals[6]?).map (·.type) = some 175 := by kernel_rfl
theorem g10t : (Tryd.prog.globals[2]?).map (·.type) = some 159 := by kernel_rfl
theorem cB64 : Tryd.prog.cellsOf 175 = 64 := by kernel_rfl
theorem cP10 : Tryd.prog.cellsOf 159 = 20 := by kernel_rfl
theorem cU8 : Tryd.prog.cellsOf 5 = 1 := by kernel_rfl
theorem cU64 : Tryd.prog.cellsOf 148 = 1 := by kernel_rfl
def list64 : List Int := [0, 1, 56, 2, 57, 49, 28, 3, 61, 58, 42, 50, 38, 29, 17, 4, 62, 47, 59, 36, 45, 43, 51, 22, 53, 39, 33, 30, 24, 18, 12, 5, 63, 55, 48, 27, 60, 41, 37, 16, 46, 35, 44, 21, 52, 32, 23, 11, 54, 26, 40, 15, 34, 20, 31, 10, 25, 14, 19, 9, 13, 8, 7, 6]
theorem list10 : Lib.pow10Tab = [1, 10, 100, 1000, 10000, 100000, 1000000, 10000000, 100000000, 1000000000, 10000000000, 100000000000, 1000000000000, 10000000000000, 100000000000000, 1000000000000000, 10000000000000000, 100000000000000000, 1000000000000000000, 10000000000000000000] := by decide
theorem tabs_of_heads {W : World} {r1 r2 : List (String × DataW Unit)} (h64 : laidMet Tryd.prog (("math/bits.deBruijn64tab", Rows.laid_math_bits_deBruijn64tab) :: r1) W) (h10 : laidMet Tryd.prog (("internal/strconv.uint64pow10", Rows.laid_internal_strconv_uint64pow10) :: r2) W) : Tabs W := by
  have t64 : Lib.TabIs Tryd.prog W "math/bits.deBruijn64tab" .u8 list64 := Lib.tabIs_of_head (rest := r1) g64 g64t Tryd.underlying175 Tryd.underlying5 cU8 cB64 h64
  have t10 : Lib.TabIs Tryd.prog W "internal/strconv.uint64pow10" .u64 Lib.pow10Tab := by
    rw [list10]
    exact Lib.tabIs_of_head (rest := r2) gPow g10t Tryd.underlying159 Tryd.underlying148 cU64 cP10 h10
  have c64 : W.cell? ⟨6, 7, none⟩ = some (.int .u8 3) := t64.cell g64 7 (by decide)
  exact ⟨t10, c64, block_lt_of_cell c64⟩
end Go.Proofs.YtmlnnbinbbmmhaaDoor
