
-- elf: the table where entry 0 is cut.
import Derived.Test.YtoikagccopglkaaDoorA1
namespace Go.Proofs.YtoikagccopglkaaDoor
open Go.ChangeShapes Go.WideShapes Go.ChangeAt Go.RowKit
set_option linter.unusedVariables false
set_option maxRecDepth 100000
set_option maxHeartbeats 8000000 in
theorem count_cut (b : ByteArray) (k L a K : Nat) (o h0 h1 h2 h3 h5 h7 : Int) (so : Nat) (fc : Array Value) (w : World) (hF : w.heap[k]? = some (.cells fc 62 (0, 0))) (f14 : fc[14]? = some (.int .u64 L)) (f31 : fc[31]? = some (.string b)) (f23 : fc[23]? = some (.int .i64 a)) (f24 : fc[24]? = some (.int .i64 K)) (f32 : fc[32]? = some (.int .i64 o)) (hL : L ≤ 64) (hm : b.size ≤ maxLen) (hso : so < 18446744073709551616) (hout : ¬ (so ≤ b.size ∧ L ≤ b.size - so)) :
    Calls Tryd.prog 21 #[.pointer (some ⟨k, 0, none⟩), .agg #[.int .i64 h0, .int .i64 h1, .int .i64 h2, .int .i64 h3, .int .u64 (so : Int), .int .i64 h5, .int .i64 0, .int .i64 h7]] w fun r w' => r = .panicked (gives 54) ∧ Below w.heap.size w w' := by
  have hk : k < w.heap.size := (Array.getElem?_eq_some_iff.1 hF).1
  have file (w' : World) (hb : Below (w.heap.size + 1) (w.alloc (.cells #[.int .i64 h0, .int .i64 h1, .int .i64 h2, .int .i64 h3, .int .u64 (so : Int), .int .i64 h5, .int .i64 0, .int .i64 h7] 42)) w') : w'.heap[k]? = some (.cells fc 62 (0, 0)) := (hb.block k (by omega)).trans ((Below.heap_alloc w _ k hk).trans hF)
  have hd (w' : World) (hb : Below (w.heap.size + 1) (w.alloc (.cells #[.int .i64 h0, .int .i64 h1, .int .i64 h2, .int .i64 h3, .int .u64 (so : Int), .int .i64 h5, .int .i64 0, .int .i64 h7] 42)) w') : w'.heap[w.heap.size]? = some (.cells #[.int .i64 h0, .int .i64 h1, .int .i64 h2, .int .i64 h3, .int .u64 (so : Int), .int .i64 h5, .int .i64 0, .int .i64 h7] 42 (0, 0)) := (hb.block _ (by omega)).trans (heap_alloc_new w _)
  have d14 : ∀ w' : World, Below (w.heap.size + 1) (w.alloc (.cells #[.int .i64 h0, .int .i64 h1, .int .i64 h2, .int .i64 h3, .int .u64 (so : Int), .int .i64 h5, .int .i64 0, .int .i64 h7] 42)) w' → w'.cell? ⟨k, 14, none⟩ = some (.int .u64 L) := fun w' hb => (cell_of_row _ _ _ _ _ _ (file w' hb)).trans f14
  have d31 : ∀ w' : World, Below (w.heap.size + 1) (w.alloc (.cells #[.int .i64 h0, .int .i64 h1, .int .i64 h2, .int .i64 h3, .int .u64 (so : Int), .int .i64 h5, .int .i64 0, .int .i64 h7] 42)) w' → w'.cell? ⟨k, 31, none⟩ = some (.string b) := fun w' hb => (cell_of_row _ _ _ _ _ _ (file w' hb)).trans f31
  have d23 : ∀ w' : World, Below (w.heap.size + 1) (w.alloc (.cells #[.int .i64 h0, .int .i64 h1, .int .i64 h2, .int .i64 h3, .int .u64 (so : Int), .int .i64 h5, .int .i64 0, .int .i64 h7] 42)) w' → w'.cell? ⟨k, 23, none⟩ = some (.int .i64 a) := fun w' hb => (cell_of_row _ _ _ _ _ _ (file w' hb)).trans f23
  have d24 : ∀ w' : World, Below (w.heap.size + 1) (w.alloc (.cells #[.int .i64 h0, .int .i64 h1, .int .i64 h2, .int .i64 h3, .int .u64 (so : Int), .int .i64 h5, .int .i64 0, .int .i64 h7] 42)) w' → w'.cell? ⟨k, 24, none⟩ = some (.int .i64 K) := fun w' hb => (cell_of_row _ _ _ _ _ _ (file w' hb)).trans f24
  have g4 : ∀ w' : World, Below (w.heap.size + 1) (w.alloc (.cells #[.int .i64 h0, .int .i64 h1, .int .i64 h2, .int .i64 h3, .int .u64 (so : Int), .int .i64 h5, .int .i64 0, .int .i64 h7] 42)) w' → w'.cell? ⟨w.heap.size, 4, none⟩ = some (.int .u64 (so : Int)) := fun w' hb => cell_of_row _ _ 4 _ _ _ (hd w' hb)
  have hSw : Below (w.heap.size + 1) (w.alloc (.cells #[.int .i64 h0, .int .i64 h1, .int .i64 h2, .int .i64 h3, .int .u64 (so : Int), .int .i64 h5, .int .i64 0, .int .i64 h7] 42)) (w.alloc (.cells #[.int .i64 h0, .int .i64 h1, .int .i64 h2, .int .i64 h3, .int .u64 (so : Int), .int .i64 h5, .int .i64 0, .int .i64 h7] 42)) := Below.refl _ _
  have hB0 : Below w.heap.size w (w.alloc (.cells #[.int .i64 h0, .int .i64 h1, .int .i64 h2, .int .i64 h3, .int .u64 (so : Int), .int .i64 h5, .int .i64 0, .int .i64 h7] 42)) := Below.alloc (Below.refl _ _) (Nat.le_refl _) _
  have c14 := d14 _ hSw
  have c31 := d31 _ hSw
  have c23 := d23 _ hSw
  have c24 := d24 _ hSw
  have HP : Hid (∀ wx, Below w.heap.size w wx → Calls Tryd.prog 22 #[.string b, .int .u64 so, .int .u64 L] wx fun r w' => (r = .panicked (gives 54) ∧ Below w.heap.size w w') ∨ (Hid False ∧ r = .returned (.string b) ∧ Below w.heap.size w w' ∧ w'.cell? ⟨k, 23, none⟩ = some (.int .i64 a) ∧ w'.cell? ⟨k, 24, none⟩ = some (.int .i64 K))) := fun wx hb =>
    (piece_no b so L wx hso (by omega) hout hm).mono fun r w' ⟨h1, h2⟩ => Or.inl ⟨h1, by rw [h2]; exact hb⟩
  have HN : Hid (∀ wx, Hid False → Calls Tryd.prog 29 #[.pointer (some ⟨k, 0, none⟩), .string b, .agg #[.int .i64 a, .int .i64 K]] wx fun r w' => r = .returned (.int .u64 0) ∧ Below w.heap.size w w') := fun wx hf => hf.out.elim
  clear hF f14 f31 f23 f24 f32 hm hout file hd hL d14 d31 d23 d24 g4 hSw
  go_enter Tryd.func21, Tryd.ntmps21
  go_wp2_with fail
  go_region_with (first
    | (go_at_call 22; refine (HP.out _ (by first | exact hB0 | exact hB0.drew | exact below_drewN hB0 _)).mono ?_; rintro e w' (⟨rfl, hS'⟩ | ⟨hF, rfl, hS', q23, q24⟩); · exact ⟨rfl, rfl, hS'⟩)
    | (go_at_call 29; refine (HN.out _ hF).mono ?_; rintro e w' ⟨rfl, hS'⟩))
  all_goals exact hF.out.elim
end Go.Proofs.YtoikagccopglkaaDoor
