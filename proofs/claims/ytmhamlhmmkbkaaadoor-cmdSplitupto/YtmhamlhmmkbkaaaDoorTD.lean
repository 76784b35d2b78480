
-- What the library's tables hold; Decode, whole.
import Derived.Test.YtmhamlhmmkbkaaaDoorRows
import Derived.Test.YtmhamlhmmkbkaaaDoorDD
import Derived.Test.YtmhamlhmmkbkaaaDoorShelfU
import Derived.Lib.LaidU8
namespace Go.Proofs.YtmhamlhmmkbkaaaDoor
open Go.ChangeShapes Go.WideShapes Go.ChangeAt Go.RowKit Go.Shelf
set_option linter.unusedVariables false
set_option maxRecDepth 100000
theorem u8x15 : U8Extra Tryd.prog Tryd.lays260_ren where
  n3 := by kernel_rfl
  n4 := by kernel_rfl
  y3 := by kernel_rfl
  y4 := by kernel_rfl
  c5 := by kernel_rfl
  c119 := by kernel_rfl
  c138 := by kernel_rfl
theorem first15 : (Rows.laid_unicode_utf8_first : DataW Unit) = Lib.firstData := by kernel_rfl
theorem accept15 : (Rows.laid_unicode_utf8_acceptRanges : DataW Unit) = Lib.acceptData := by kernel_rfl
theorem tabU_of {W : World} {l : List (String × DataW Unit)} (h : laidMet Tryd.prog l W) (h1 : ("unicode/utf8.first", Rows.laid_unicode_utf8_first) ∈ l) (h2 : ("unicode/utf8.acceptRanges", Rows.laid_unicode_utf8_acceptRanges) ∈ l) : TabU W := by
  have r1 := Lib.laidMet.reads h h1
  have r2 := Lib.laidMet.reads h h2
  rw [first15] at r1
  rw [accept15] at r2
  exact utf8Tabs_of_reads Tryd.lays260 u8x15 r1 r2
theorem drOk15 : DrOk := fun s w hT => Tryd.utf8_DecodeRuneInString s w hT
theorem Decode_ok : DecodeOkT 8 := Decode_okT drOk15
end Go.Proofs.YtmhamlhmmkbkaaaDoor
