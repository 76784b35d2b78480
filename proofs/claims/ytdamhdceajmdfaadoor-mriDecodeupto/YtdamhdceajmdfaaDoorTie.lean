/-
  DERIVED. GIVEN WITH THE SEED: THE PROGRAM's TIES (one call each: nine closed facts by the kernel) AND EACH ROW's TIE, after the 31st guide's Derived/Test/Toyas{Tie, Card}.lean. No idea stands in it: it is a product of the set-up. Laid BY PROGRAM, IN A SANDBOX (cutbox-door.mjs). By AI agents, Wed Nov 11 2026. No macro, syntax, notation, axiom, sorry.
-/
import Derived.Test.YtdamhdceajmdfaaDoorRows
import Derived.LaidByTextLater
import Derived.SevenTiedAt
import Derived.LaidSub
import Derived.LaidOnce
namespace Go.Proofs.YtdamhdceajmdfaaDoor
open Go
set_option maxRecDepth 100000
theorem seatTie1 : Tryd.prog.laidByTextLater [("shelf/shelfref19.words", Rows.laid_shelf_shelfref19_words), ("shelf/mri.verbs", Rows.laid_shelf_mri_verbs), ("shelf/shelflaw19.verbs", Rows.laid_shelf_shelflaw19_verbs)] [.data, .data, .data] true :=
  Program.laidByTextLater_by_one 37 8 43 (by kernel_rfl) (by kernel_rfl) (by kernel_rfl) (by kernel_rfl) (by kernel_rfl) (by kernel_rfl) (fun _ _ => by kernel_rfl)
theorem noOwnUnsafe : Tryd.pinned.checked.prog.headLifts.contains "ownunsafe" = false := by kernel_rfl
theorem tie : Tryd.prog.laidByTextLater [("shelf/shelfref19.words", Rows.laid_shelf_shelfref19_words), ("shelf/mri.verbs", Rows.laid_shelf_mri_verbs)] [.data, .data] true :=
  Program.laidByTextLater.sub seatTie1 ["shelf/shelfref19.words", "shelf/mri.verbs"] (by kernel_rfl) (by kernel_rfl)
theorem mriText_row_tie : Rows.mriTextRow.laidByTextAt .later Tryd.pinned [.data, .data] true :=
  OpenClaim.laidByTextAt_later rfl rfl tie noOwnUnsafe
theorem mriDecode_row_tie : Rows.mriDecodeRow.laidByTextAt .later Tryd.pinned [.data, .data] true :=
  OpenClaim.laidByTextAt_later rfl rfl tie noOwnUnsafe
theorem tie2 : Tryd.prog.laidByTextLater [("shelf/mri.verbs", Rows.laid_shelf_mri_verbs)] [.data] true :=
  Program.laidByTextLater.sub seatTie1 ["shelf/mri.verbs"] (by kernel_rfl) (by kernel_rfl)
theorem mriBack_row_tie : Rows.mriBackRow.laidByTextAt .later Tryd.pinned [.data] true :=
  OpenClaim.laidByTextAt_later rfl rfl tie2 noOwnUnsafe
theorem tie3 : Tryd.prog.laidByTextLater [("shelf/mri.verbs", Rows.laid_shelf_mri_verbs), ("shelf/shelflaw19.verbs", Rows.laid_shelf_shelflaw19_verbs)] [.data, .data] true :=
  Program.laidByTextLater.sub seatTie1 ["shelf/mri.verbs", "shelf/shelflaw19.verbs"] (by kernel_rfl) (by kernel_rfl)
theorem mriSpelled_row_tie : Rows.mriSpelledRow.laidByTextAt .later Tryd.pinned [.data, .data] true :=
  OpenClaim.laidByTextAt_later rfl rfl tie3 noOwnUnsafe
theorem mriLists_row_tie : Rows.mriListsRow.laidByTextAt .later Tryd.pinned [.data, .data] true :=
  OpenClaim.laidByTextAt_later rfl rfl tie3 noOwnUnsafe
theorem mriTextUpto_row_tie : Rows.mriTextUptoRow.laidByTextAt .later Tryd.pinned [.data, .data] true :=
  OpenClaim.laidByTextAt_later rfl rfl tie noOwnUnsafe
theorem mriBackUpto_row_tie : Rows.mriBackUptoRow.laidByTextAt .later Tryd.pinned [.data] true :=
  OpenClaim.laidByTextAt_later rfl rfl tie2 noOwnUnsafe
theorem mriSpelledUpto_row_tie : Rows.mriSpelledUptoRow.laidByTextAt .later Tryd.pinned [.data, .data] true :=
  OpenClaim.laidByTextAt_later rfl rfl tie3 noOwnUnsafe
theorem mriDecodeUpto_row_tie : Rows.mriDecodeUptoRow.laidByTextAt .later Tryd.pinned [.data, .data] true :=
  OpenClaim.laidByTextAt_later rfl rfl tie noOwnUnsafe
theorem mriListsUpto_row_tie : Rows.mriListsUptoRow.laidByTextAt .later Tryd.pinned [.data, .data] true :=
  OpenClaim.laidByTextAt_later rfl rfl tie3 noOwnUnsafe
end Go.Proofs.YtdamhdceajmdfaaDoor
