-- The program keeps its contracts.
import Derived.Test.YtodjgbmfmpbkjabV15
import Derived.Test.YtodjgbmfmpbkjabV21
namespace Go.Proofs.Ytodjgbmfmpbkjab
open Go.RowKit
set_option linter.unusedVariables false
theorem pcx : PC PSx where
  same := fun h hk => psx_same h hk
  mono := fun h hG => psx_mono h hG
  new_no := fun c w hc => new_no_p c w hc
  new_c := fun c w hc => new_p c w hc
  create := fun F p st name m0 m1 m2 m3 w h hw => create_p F p st name m0 m1 m2 m3 w h hw
  append := fun F p st n data w h hw hd => append_p F p st n data w h hw hd
  sync := fun F p st n w h hw => sync_p F p st n w h hw
  syncDir := fun F p st w h hw => syncDir_p F p st w h hw
  rename := fun F p st old to w h hw => rename_p F p st old to w h hw
  remove := fun F p st name w h hw => remove_p F p st name w h hw
  crash := fun F p st n cv cuts w h hw hr hF hl => crash_p F p st n cv cuts w h hw hr hF hl
  find := fun F p st name w h hw => find_p F p st name w h hw
  read := fun F p st n w h hw => read_p F p st n w h hw
  loose := fun F p st n w h hw => loose_p F p st n w h hw
  names := fun F p st w h hw => names_p F p st w h hw
  used := fun F p st w h hw => (used_p F p st w h hw).mono fun e w' h' => ⟨h'.1, psx_below h h'.2⟩
  pending := fun F p st w h hw => pending_p F p st w h hw
end Go.Proofs.Ytodjgbmfmpbkjab
