
-- elf: how many entries the table has: contracts.
import Derived.Test.YtoikagccopglkaaDoorA1
namespace Go.Proofs.YtoikagccopglkaaDoor
open Go.ChangeShapes Go.WideShapes Go.ChangeAt Go.RowKit
set_option linter.unusedVariables false
set_option maxRecDepth 100000
theorem count_num (p : Value) (h0 h1 h2 h3 h5 h7 : Int) (so n : Nat) (w : World) (hn : n ≠ 0) (hn2 : n < 65536) :
    Calls Tryd.prog 21 #[p, .agg #[.int .i64 h0, .int .i64 h1, .int .i64 h2, .int .i64 h3, .int .u64 (so : Int), .int .i64 h5, .int .i64 n, .int .i64 h7]] w fun r w' => r = .returned (.int .u64 n) ∧ Below w.heap.size w w' := by
  have hne : ((n : Int) != 0) = true := bne_iff_ne.2 (by omega)
  go_enter Tryd.func21, Tryd.ntmps21
  go_wp2
  go_ret
  refine ⟨?_, Below.alloc (Below.refl _ _) (Nat.le_refl _) _⟩
  first | rfl | (refine congrArg Ending.returned (congrArg (Value.int .u64) ?_); first | rfl | (simp only [IntKind.wrap_u64]; omega))
set_option maxHeartbeats 1000000 in
theorem count_zero (b : ByteArray) (k L a K : Nat) (o h0 h1 h2 h3 h5 h7 : Int) (so : Nat) (fc : Array Value) (w : World) (hF : w.heap[k]? = some (.cells fc 62 (0, 0))) (f14 : fc[14]? = some (.int .u64 L)) (f31 : fc[31]? = some (.string b)) (f23 : fc[23]? = some (.int .i64 a)) (f24 : fc[24]? = some (.int .i64 K)) (f32 : fc[32]? = some (.int .i64 o)) (hL : L ≤ 64) (hm : b.size ≤ maxLen) (hso : so < 18446744073709551616) (ho : o = 0 ∨ o = 1) (hin : so ≤ b.size ∧ L ≤ b.size - so) (hK : K = 4 ∨ K = 8) (haK : a + K ≤ L) :
    Calls Tryd.prog 21 #[.pointer (some ⟨k, 0, none⟩), .agg #[.int .i64 h0, .int .i64 h1, .int .i64 h2, .int .i64 h3, .int .u64 (so : Int), .int .i64 h5, .int .i64 0, .int .i64 h7]] w fun r w' => r = .returned (.int .u64 (num b (so + a) K o)) ∧ Below w.heap.size w w' := by
  have hk : k < w.heap.size := (Array.getElem?_eq_some_iff.1 hF).1
  have file (w' : World) (hb : Below (w.heap.size + 1) (w.alloc (.cells #[.int .i64 h0, .int .i64 h1, .int .i64 h2, .int .i64 h3, .int .u64 (so : Int), .int .i64 h5, .int .i64 0, .int .i64 h7] 42)) w') : w'.heap[k]? = some (.cells fc 62 (0, 0)) := (hb.block k (by omega)).trans ((Below.heap_alloc w _ k hk).trans hF)
  have hd (w' : World) (hb : Below (w.heap.size + 1) (w.alloc (.cells #[.int .i64 h0, .int .i64 h1, .int .i64 h2, .int .i64 h3, .int .u64 (so : Int), .int .i64 h5, .int .i64 0, .int .i64 h7] 42)) w') : w'.heap[w.heap.size]? = some (.cells #[.int .i64 h0, .int .i64 h1, .int .i64 h2, .int .i64 h3, .int .u64 (so : Int), .int .i64 h5, .int .i64 0, .int .i64 h7] 42 (0, 0)) := (hb.block _ (by omega)).trans (heap_alloc_new w _)
  have d14 : ∀ w' : World, Below (w.heap.size + 1) (w.alloc (.cells #[.int .i64 h0, .int .i64 h1, .int .i64 h2, .int .i64 h3, .int .u64 (so : Int), .int .i64 h5, .int .i64 0, .int .i64 h7] 42)) w' → w'.cell? ⟨k, 14, none⟩ = some (.int .u64 L) := fun w' hb => (cell_of_row _ _ _ _ _ _ (file w' hb)).trans f14
  have d31 : ∀ w' : World, Below (w.heap.size + 1) (w.alloc (.cells #[.int .i64 h0, .int .i64 h1, .int .i64 h2, .int .i64 h3, .int .u64 (so : Int), .int .i64 h5, .int .i64 0, .int .i64 h7] 42)) w' → w'.cell? ⟨k, 31, none⟩ = some (.string b) := fun w' hb => (cell_of_row _ _ _ _ _ _ (file w' hb)).trans f31
  have d23 : ∀ w' : World, Below (w.heap.size + 1) (w.alloc (.cells #[.int .i64 h0, .int .i64 h1, .int .i64 h2, .int .i64 h3, .int .u64 (so : Int), .int .i64 h5, .int .i64 0, .int .i64 h7] 42)) w' → w'.cell? ⟨k, 23, none⟩ = some (.int .i64 a) := fun w' hb => (cell_of_row _ _ _ _ _ _ (file w' hb)).trans f23
  have d24 : ∀ w' : World, Below (w.heap.size + 1) (w.alloc (.cells #[.int .i64 h0, .int .i64 h1, .int .i64 h2, .int .i64 h3, .int .u64 (so : Int), .int .i64 h5, .int .i64 0, .int .i64 h7] 42)) w' → w'.cell? ⟨k, 24, none⟩ = some (.int .i64 K) := fun w' hb => (cell_of_row _ _ _ _ _ _ (file w' hb)).trans f24
  have g4 : ∀ w' : World, Below (w.heap.size + 1) (w.alloc (.cells #[.int .i64 h0, .int .i64 h1, .int .i64 h2, .int .i64 h3, .int .u64 (so : Int), .int .i64 h5, .int .i64 0, .int .i64 h7] 42)) w' → w'.cell? ⟨w.heap.size, 4, none⟩ = some (.int .u64 (so : Int)) := fun w' hb => cell_of_row _ _ 4 _ _ _ (hd w' hb)
  have hSw : Below (w.heap.size + 1) (w.alloc (.cells #[.int .i64 h0, .int .i64 h1, .int .i64 h2, .int .i64 h3, .int .u64 (so : Int), .int .i64 h5, .int .i64 0, .int .i64 h7] 42)) (w.alloc (.cells #[.int .i64 h0, .int .i64 h1, .int .i64 h2, .int .i64 h3, .int .u64 (so : Int), .int .i64 h5, .int .i64 0, .int .i64 h7] 42)) := Below.refl _ _
  have hB0 : Below w.heap.size w (w.alloc (.cells #[.int .i64 h0, .int .i64 h1, .int .i64 h2, .int .i64 h3, .int .u64 (so : Int), .int .i64 h5, .int .i64 0, .int .i64 h7] 42)) := Below.alloc (Below.refl _ _) (Nat.le_refl _) _
  have HP : Hid (∀ wx, Below (w.heap.size + 1) (w.alloc (.cells #[.int .i64 h0, .int .i64 h1, .int .i64 h2, .int .i64 h3, .int .u64 (so : Int), .int .i64 h5, .int .i64 0, .int .i64 h7] 42)) wx → Calls Tryd.prog 22 #[.string b, .int .u64 so, .int .u64 L] wx fun r w' => r = .returned (.string (b.extract so (so + L))) ∧ Below (w.heap.size + 1) (w.alloc (.cells #[.int .i64 h0, .int .i64 h1, .int .i64 h2, .int .i64 h3, .int .u64 (so : Int), .int .i64 h5, .int .i64 0, .int .i64 h7] 42)) w') := fun wx hb =>
    (piece_ok b so L wx hin.1 hin.2 hm).mono fun r w' ⟨h1, h2⟩ => ⟨h1, by rw [h2]; exact hb⟩
  have hsz : (b.extract so (so + L)).size = L := by rw [ByteArray.size_extract]; omega
  have HN : Hid (∀ wx, Below (w.heap.size + 1) (w.alloc (.cells #[.int .i64 h0, .int .i64 h1, .int .i64 h2, .int .i64 h3, .int .u64 (so : Int), .int .i64 h5, .int .i64 0, .int .i64 h7] 42)) wx → Calls Tryd.prog 29 #[.pointer (some ⟨k, 0, none⟩), .string (b.extract so (so + L)), .agg #[.int .i64 a, .int .i64 K]] wx fun r w' => r = .returned (.int .u64 (num b (so + a) K o)) ∧ Below (w.heap.size + 1) (w.alloc (.cells #[.int .i64 h0, .int .i64 h1, .int .i64 h2, .int .i64 h3, .int .u64 (so : Int), .int .i64 h5, .int .i64 0, .int .i64 h7] 42)) w') := fun wx hb =>
    (number_c (b.extract so (so + L)) k a K o wx ho (by omega) (by omega) (by rw [hsz]; unfold maxLen; omega) ((cell_of_row _ _ _ _ _ _ (file wx hb)).trans f32)).mono fun r w' ⟨h1, h2⟩ => ⟨by rw [h1, num_ext b so (so + L) a K o (by omega)], hb.trans (h2.mono (by have := hb.size; rw [size_alloc] at this; exact this))⟩
  clear hF f14 f31 f23 f24 f32 hm ho hin hK haK hsz file hd hL
  generalize b.extract so (so + L) = pc at HP HN
  go_enter Tryd.func21, Tryd.ntmps21
  go_wp2_with fail
  go_region_held3 (fun w' => Below (w.heap.size + 1) (w.alloc (.cells #[.int .i64 h0, .int .i64 h1, .int .i64 h2, .int .i64 h3, .int .u64 (so : Int), .int .i64 h5, .int .i64 0, .int .i64 h7] 42)) w') (first | (with_reducible assumption) | (with_reducible exact Below.drew (by with_reducible assumption))) (first
    | (go_at_call 22; refine (HP.out _ (by first | assumption | exact hSw.drew)).mono ?_; rintro e w' ⟨rfl, hB'⟩)
    | (go_at_call 29; refine (HN.out _ (by first | assumption | exact hSw.drew)).mono ?_; rintro e w' ⟨rfl, hB'⟩))
  all_goals
    go_wp2
    go_ret
    exact ⟨rfl, hB0.trans (hB'.mono (Nat.le_succ _))⟩
end Go.Proofs.YtoikagccopglkaaDoor
