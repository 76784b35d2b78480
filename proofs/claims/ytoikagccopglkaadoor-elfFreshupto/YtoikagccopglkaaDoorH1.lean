
-- elf: the header where it is cut.
import Derived.Test.YtoikagccopglkaaDoorH0
import Derived.Deep.RegionWith
namespace Go.Proofs.YtoikagccopglkaaDoor
open Go.ChangeShapes Go.WideShapes Go.ChangeAt Go.RowKit
set_option linter.unusedVariables false
set_option maxRecDepth 100000
set_option maxHeartbeats 1000000 in
theorem header_cut (b : ByteArray) (k L : Nat) (fc : Array Value) (w : World) (hF : w.heap[k]? = some (.cells fc 62 (0, 0))) (f31 : fc[31]? = some (.string b)) (f1 : fc[1]? = some (.int .u64 L)) (hL : L ≤ 64) (hs : b.size < L) (hm : b.size ≤ maxLen) :
    Calls Tryd.prog 19 #[.pointer (some ⟨k, 0, none⟩)] w fun r w' => r = .panicked (gives 54) ∧ Below w.heap.size w w' := by
  have hk : k < w.heap.size := (Array.getElem?_eq_some_iff.1 hF).1
  have hb0 : Below w.heap.size w (w.alloc (.cells #[.int .i64 0, .int .i64 0, .int .i64 0, .int .i64 0, .int .u64 0, .int .i64 0, .int .i64 0, .int .i64 0] 42)) := Below.alloc (Below.refl _ _) (Nat.le_refl _) _
  have cell (i : Nat) (v : Value) (h : fc[i]? = some v) (w' : World) (hb : Below w.heap.size w w') : w'.cell? ⟨k, i, none⟩ = some v := by
    rw [cell_of_row _ _ _ _ _ _ ((hb.block k hk).trans hF)]; exact h
  have c31 := cell 31 _ f31 _ hb0
  have c1 := cell 1 _ f1 _ hb0
  have HP : Hid (∀ wx, Below w.heap.size w wx → Calls Tryd.prog 22 #[.string b, .int .u64 0, .int .u64 L] wx fun r w' => (r = .panicked (gives 54) ∧ Below w.heap.size w w') ∨ (Hid False ∧ r = .returned (.string b) ∧ Below w.heap.size w w')) := fun wx hb => (piece_no b 0 L wx (by omega) (by omega) (by omega) hm).mono fun r w' ⟨h1, h2⟩ => Or.inl ⟨h1, by rw [h2]; exact hb⟩
  clear cell f31 f1 hL hs hm hF
  go_enter Tryd.func19, Tryd.ntmps19
  go_wp2_with fail
  go_region_with (first | (go_at_call 22; refine (HP.out _ (by first | exact hb0 | exact hb0.drew | exact below_drewN hb0 _)).mono ?_; rintro e w' (⟨rfl, hS'⟩ | ⟨hF, rfl, hS'⟩); · exact ⟨rfl, rfl, hS'⟩))
  all_goals exact hF.out.elim
end Go.Proofs.YtoikagccopglkaaDoor
