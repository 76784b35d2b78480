
-- elf: the table where there is none, or where the file is refused: contracts.
import Derived.Test.YtoikagccopglkaaDoorA4
import Derived.Test.YtoikagccopglkaaDoorG2
import Derived.Test.YtoikagccopglkaaDoorA2
namespace Go.Proofs.YtoikagccopglkaaDoor
open Go.ChangeShapes Go.WideShapes Go.ChangeAt Go.RowKit
set_option linter.unusedVariables false
set_option maxRecDepth 100000
theorem row_two {w w1 w2 : World} {Z : Array Value} {t : TypeId} {A B : Obj} (hb1 : Below (w.alloc (.cells Z t)).heap.size (w.alloc (.cells Z t)) w1) (hb2 : Below w1.heap.size w1 w2) : ((w2.alloc A).alloc B).heap[w.heap.size]? = some (.cells Z t (0, 0)) := by
  have hs1 := hb1.size
  rw [size_alloc] at hs1
  have hs2 := hb2.size
  exact (Below.heap_alloc _ _ _ (by rw [size_alloc]; omega)).trans ((Below.heap_alloc w2 _ _ (by omega)).trans ((hb2.block _ (by omega)).trans ((hb1.block _ (by rw [size_alloc]; omega)).trans (heap_alloc_new w _))))
set_option maxHeartbeats 1000000 in
theorem find_zero (b : ByteArray) (w : World) (hM : Magic w) (h0 h1 h2 h3 h5 h6 h7 : Int) (fc : Array Value)
    (hI : ∀ w : World, Magic w → Calls Tryd.prog 18 #[.string b] w fun r w' => ∃ k, r = .returned (.pointer (some ⟨k, 0, none⟩)) ∧ Below w.heap.size w w' ∧ w'.heap[k]? = some (.cells fc 62 (0, 0)))
    (hH : ∀ (w : World) (k : Nat), w.heap[k]? = some (.cells fc 62 (0, 0)) → Calls Tryd.prog 19 #[.pointer (some ⟨k, 0, none⟩)] w fun r w' => r = .returned (.agg #[.int .i64 h0, .int .i64 h1, .int .i64 h2, .int .i64 h3, .int .u64 0, .int .i64 h5, .int .i64 h6, .int .i64 h7]) ∧ Below w.heap.size w w') :
    Calls Tryd.prog 12 #[.string b] w fun r w' => ∃ k, r = .returned (.agg #[.pointer (some ⟨k, 0, none⟩), .string ⟨#[]⟩, .int .i64 0, .int .i64 h7]) ∧ w'.heap[k]? = some (.cells fc 62 (0, 0)) ∧ Below w.heap.size w w' := by
  have HI := Hid.mk' hI
  have HH := Hid.mk' hH
  have hM1 : Magic (w.alloc (.cells #[.pointer none, .string ⟨#[]⟩, .int .i64 0, .int .i64 0] 36)) := hM.kept (Below.alloc (Below.refl _ _) (Nat.le_refl _) _)
  clear hI hH
  go_enter Tryd.func12, Tryd.ntmps12
  go_wp2_with (first
    | (go_at_call 18; refine (HI.out _ hM1).mono ?_; rintro r w1 ⟨k, rfl, hb1, hF⟩)
    | (go_at_call 19; refine (HH.out _ _ hF).mono ?_; rintro r w2 ⟨rfl, hb2⟩; have v0 : ((w2.alloc (.cells #[.int .i64 h0, .int .i64 h1, .int .i64 h2, .int .i64 h3, .int .u64 0, .int .i64 h5, .int .i64 h6, .int .i64 h7] 42)).alloc (.cells #[.pointer (some ⟨k, 0, none⟩), .string ⟨#[]⟩, .int .i64 0, .int .i64 h7] 36)).heap[w.heap.size]? = some (.cells #[.pointer none, .string ⟨#[]⟩, .int .i64 0, .int .i64 0] 36 (0, 0)) := row_two hb1 hb2)
    | (refine wpList_store_row rfl _ _ _ rfl w.heap.size #[.pointer (some ⟨k, 0, none⟩), .string ⟨#[]⟩, .int .i64 0, .int .i64 h7] rfl rfl _ _ v0 rfl (by kernel_rfl) (by kernel_rfl) ?_))
  have hk : k < w1.heap.size := (Array.getElem?_eq_some_iff.1 hF).1
  have hk2 : k < w2.heap.size := Nat.lt_of_lt_of_le hk hb2.size
  have hF2 : w2.heap[k]? = some (.cells fc 62 (0, 0)) := (hb2.block k hk).trans hF
  have hFW : ((w2.alloc (.cells #[.int .i64 h0, .int .i64 h1, .int .i64 h2, .int .i64 h3, .int .u64 0, .int .i64 h5, .int .i64 h6, .int .i64 h7] 42)).alloc (.cells #[.pointer (some ⟨k, 0, none⟩), .string ⟨#[]⟩, .int .i64 0, .int .i64 h7] 36)).heap[k]? = some (.cells fc 62 (0, 0)) := (Below.heap_alloc _ _ k (by rw [size_alloc]; omega)).trans ((Below.heap_alloc w2 _ k hk2).trans hF2)
  have hs1 := hb1.size
  rw [size_alloc] at hs1
  have hkw : k ≠ w.heap.size := by
    intro e
    rw [e, (hb1.block w.heap.size (by rw [size_alloc]; omega)).trans (heap_alloc_new w _)] at hF
    cases hF
  have hb' : Below w.heap.size w w2 := ((Below.alloc (Below.refl w.heap.size w) (Nat.le_refl _) _).trans (hb1.mono (by rw [size_alloc]; exact Nat.le_succ _))).trans (hb2.mono (by omega))
  have vB : Below w.heap.size w ((w2.alloc (.cells #[.int .i64 h0, .int .i64 h1, .int .i64 h2, .int .i64 h3, .int .u64 0, .int .i64 h5, .int .i64 h6, .int .i64 h7] 42)).alloc (.cells #[.pointer (some ⟨k, 0, none⟩), .string ⟨#[]⟩, .int .i64 0, .int .i64 h7] 36)) := Below.alloc (Below.alloc hb' hb'.size _) (by rw [size_alloc]; have := hb'.size; omega) _
  exact bodyPost_ret (results_cell_row rfl _ _ w.heap.size _ _ _ _ rfl (setRow_heap _ _ _ _ _ _ v0) Tryd.underlying36 rfl (by kernel_rfl)) rfl ⟨k, rfl, (setRow_other _ _ _ _ (by omega)).trans hFW, below_setRow vB (Nat.le_refl _) _⟩
theorem find_refused (b : ByteArray) (e : Int) (w : World) (hM : Magic w)
    (hI : ∀ w : World, Magic w → Calls Tryd.prog 18 #[.string b] w fun r w' => r = .panicked (gives e) ∧ Below w.heap.size w w') :
    Calls Tryd.prog 12 #[.string b] w fun r w' => r = .panicked (gives e) ∧ Below w.heap.size w w' := by
  have HI := Hid.mk' hI
  have hM1 : Magic (w.alloc (.cells #[.pointer none, .string ⟨#[]⟩, .int .i64 0, .int .i64 0] 36)) := hM.kept (Below.alloc (Below.refl _ _) (Nat.le_refl _) _)
  clear hI
  go_enter Tryd.func12, Tryd.ntmps12
  go_wp2_with (first
    | (go_at_call 18; refine (HI.out _ hM1).mono ?_; rintro r w1 ⟨rfl, hb1⟩))
  exact ⟨rfl, rfl, (Below.alloc (Below.refl w.heap.size w) (Nat.le_refl _) _).trans (hb1.mono (by rw [size_alloc]; exact Nat.le_succ _))⟩
theorem find_headless (b : ByteArray) (e : Int) (w : World) (hM : Magic w) (fc : Array Value)
    (hI : ∀ w : World, Magic w → Calls Tryd.prog 18 #[.string b] w fun r w' => ∃ k, r = .returned (.pointer (some ⟨k, 0, none⟩)) ∧ Below w.heap.size w w' ∧ w'.heap[k]? = some (.cells fc 62 (0, 0)))
    (hH : ∀ (w : World) (k : Nat), w.heap[k]? = some (.cells fc 62 (0, 0)) → Calls Tryd.prog 19 #[.pointer (some ⟨k, 0, none⟩)] w fun r w' => r = .panicked (gives e) ∧ Below w.heap.size w w') :
    Calls Tryd.prog 12 #[.string b] w fun r w' => r = .panicked (gives e) ∧ Below w.heap.size w w' := by
  have HI := Hid.mk' hI
  have HH := Hid.mk' hH
  have hM1 : Magic (w.alloc (.cells #[.pointer none, .string ⟨#[]⟩, .int .i64 0, .int .i64 0] 36)) := hM.kept (Below.alloc (Below.refl _ _) (Nat.le_refl _) _)
  clear hI hH
  go_enter Tryd.func12, Tryd.ntmps12
  go_wp2_with (first
    | (go_at_call 18; refine (HI.out _ hM1).mono ?_; rintro r w1 ⟨k, rfl, hb1, hF⟩)
    | (go_at_call 19; refine (HH.out _ _ hF).mono ?_; rintro r w2 ⟨rfl, hb2⟩))
  have hs1 := hb1.size
  rw [size_alloc] at hs1
  exact ⟨rfl, rfl, ((Below.alloc (Below.refl w.heap.size w) (Nat.le_refl _) _).trans (hb1.mono (by rw [size_alloc]; exact Nat.le_succ _))).trans (hb2.mono (by omega))⟩
end Go.Proofs.YtoikagccopglkaaDoor
