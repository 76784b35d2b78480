
-- elf: the table whose entries have another size: contract.
import Derived.Test.YtoikagccopglkaaDoorA4
import Derived.Test.YtoikagccopglkaaDoorG2
import Derived.Deep.RegionWith
import Derived.Test.YtoikagccopglkaaDoorA2
namespace Go.Proofs.YtoikagccopglkaaDoor
open Go.ChangeShapes Go.WideShapes Go.ChangeAt Go.RowKit
set_option linter.unusedVariables false
set_option maxRecDepth 100000
set_option maxHeartbeats 1000000 in
theorem find_55 (b : ByteArray) (w : World) (hM : Magic w) (hm : b.size ≤ maxLen) (h0 h1 h2 h3 h6 h7 : Int) (so L q : Nat) (fc : Array Value) (f14 : fc[14]? = some (.int .u64 L)) (hso : so ≠ 0) (hL : 0 < L ∧ L ≤ 64) (hq : q < 65536) (hqL : q ≠ L)
    (hI : ∀ w : World, Magic w → Calls Tryd.prog 18 #[.string b] w fun r w' => ∃ k, r = .returned (.pointer (some ⟨k, 0, none⟩)) ∧ Below w.heap.size w w' ∧ w'.heap[k]? = some (.cells fc 62 (0, 0)))
    (hH : ∀ (w : World) (k : Nat), w.heap[k]? = some (.cells fc 62 (0, 0)) → Calls Tryd.prog 19 #[.pointer (some ⟨k, 0, none⟩)] w fun r w' => r = .returned (.agg #[.int .i64 h0, .int .i64 h1, .int .i64 h2, .int .i64 h3, .int .u64 (so : Int), .int .i64 (q : Int), .int .i64 h6, .int .i64 h7]) ∧ Below w.heap.size w w') :
    Calls Tryd.prog 12 #[.string b] w fun r w' => r = .panicked (gives 55) ∧ Below w.heap.size w w' := by
  have HI := Hid.mk' hI
  have HH := Hid.mk' hH
  have hs0 : ((so : Int) == 0) = false := beq_eq_false_iff_ne.2 (by omega)
  have hM1 : Magic (w.alloc (.cells #[.pointer none, .string ⟨#[]⟩, .int .i64 0, .int .i64 0] 36)) := hM.kept (Below.alloc (Below.refl _ _) (Nat.le_refl _) _)
  clear hI hH
  go_enter Tryd.func12, Tryd.ntmps12
  go_wp2_with (first
    | (go_at_call 18; refine (HI.out _ hM1).mono ?_; rintro r w1 ⟨k, rfl, hb1, hF⟩)
    | (go_at_call 19; refine (HH.out _ _ hF).mono ?_; rintro r w2 ⟨rfl, hb2⟩))
  have hk : k < w1.heap.size := (Array.getElem?_eq_some_iff.1 hF).1
  have hk2 : k < w2.heap.size := Nat.lt_of_lt_of_le hk hb2.size
  have hF2 : w2.heap[k]? = some (.cells fc 62 (0, 0)) := (hb2.block k hk).trans hF
  have hFW : ((w2.alloc (.cells #[.int .i64 h0, .int .i64 h1, .int .i64 h2, .int .i64 h3, .int .u64 (so : Int), .int .i64 (q : Int), .int .i64 h6, .int .i64 h7] 42)).alloc (.cells #[.pointer (some ⟨k, 0, none⟩), .string ⟨#[]⟩, .int .i64 0, .int .i64 h7] 36)).heap[k]? = some (.cells fc 62 (0, 0)) := (Below.heap_alloc _ _ k (by rw [size_alloc]; omega)).trans ((Below.heap_alloc w2 _ k hk2).trans hF2)
  have hRh : ((w2.alloc (.cells #[.int .i64 h0, .int .i64 h1, .int .i64 h2, .int .i64 h3, .int .u64 (so : Int), .int .i64 (q : Int), .int .i64 h6, .int .i64 h7] 42)).alloc (.cells #[.pointer (some ⟨k, 0, none⟩), .string ⟨#[]⟩, .int .i64 0, .int .i64 h7] 36)).heap[w2.heap.size]? = some (.cells #[.int .i64 h0, .int .i64 h1, .int .i64 h2, .int .i64 h3, .int .u64 (so : Int), .int .i64 (q : Int), .int .i64 h6, .int .i64 h7] 42 (0, 0)) := heap_alloc2_old w2 _ _
  have hRt : ((w2.alloc (.cells #[.int .i64 h0, .int .i64 h1, .int .i64 h2, .int .i64 h3, .int .u64 (so : Int), .int .i64 (q : Int), .int .i64 h6, .int .i64 h7] 42)).alloc (.cells #[.pointer (some ⟨k, 0, none⟩), .string ⟨#[]⟩, .int .i64 0, .int .i64 h7] 36)).heap[w2.heap.size + 1]? = some (.cells #[.pointer (some ⟨k, 0, none⟩), .string ⟨#[]⟩, .int .i64 0, .int .i64 h7] 36 (0, 0)) := heap_alloc2_new w2 _ _
  have c5 : ((w2.alloc (.cells #[.int .i64 h0, .int .i64 h1, .int .i64 h2, .int .i64 h3, .int .u64 (so : Int), .int .i64 (q : Int), .int .i64 h6, .int .i64 h7] 42)).alloc (.cells #[.pointer (some ⟨k, 0, none⟩), .string ⟨#[]⟩, .int .i64 0, .int .i64 h7] 36)).cell? ⟨w2.heap.size, 5, none⟩ = some (.int .i64 (q : Int)) := cell_of_row _ _ 5 _ _ _ hRh
  have c14 : ((w2.alloc (.cells #[.int .i64 h0, .int .i64 h1, .int .i64 h2, .int .i64 h3, .int .u64 (so : Int), .int .i64 (q : Int), .int .i64 h6, .int .i64 h7] 42)).alloc (.cells #[.pointer (some ⟨k, 0, none⟩), .string ⟨#[]⟩, .int .i64 0, .int .i64 h7] 36)).cell? ⟨k, 14, none⟩ = some (.int .u64 L) := (cell_of_row _ _ _ _ _ _ hFW).trans f14
  have hwq : IntKind.u64.wrap (q : Int) = (q : Int) := by rw [IntKind.wrap_u64]; omega
  have hqL2 : ((q : Int) == (L : Int)) = false := beq_eq_false_iff_ne.2 (by omega)
  have hB2 : Below w.heap.size w ((w2.alloc (.cells #[.int .i64 h0, .int .i64 h1, .int .i64 h2, .int .i64 h3, .int .u64 (so : Int), .int .i64 (q : Int), .int .i64 h6, .int .i64 h7] 42)).alloc (.cells #[.pointer (some ⟨k, 0, none⟩), .string ⟨#[]⟩, .int .i64 0, .int .i64 h7] 36)) := by
    have hb := Below.alloc (Below.refl w.heap.size w) (Nat.le_refl _) (.cells #[.pointer none, .string ⟨#[]⟩, .int .i64 0, .int .i64 0] 36)
    have hs1 := hb1.size
    rw [size_alloc] at hs1
    have hb' : Below w.heap.size w w2 := (hb.trans (hb1.mono (by rw [size_alloc]; exact Nat.le_succ _))).trans (hb2.mono (by omega))
    exact Below.alloc (Below.alloc hb' hb'.size _) (by rw [size_alloc]; have := hb'.size; omega) _
  have hR0 : ((w2.alloc (.cells #[.int .i64 h0, .int .i64 h1, .int .i64 h2, .int .i64 h3, .int .u64 (so : Int), .int .i64 (q : Int), .int .i64 h6, .int .i64 h7] 42)).alloc (.cells #[.pointer (some ⟨k, 0, none⟩), .string ⟨#[]⟩, .int .i64 0, .int .i64 h7] 36)).heap[w.heap.size]? = some (.cells #[.pointer none, .string ⟨#[]⟩, .int .i64 0, .int .i64 0] 36 (0, 0)) := by
    have hs1 := hb1.size
    rw [size_alloc] at hs1
    have hs2 := hb2.size
    refine (Below.heap_alloc _ _ _ (by rw [size_alloc]; omega)).trans ((Below.heap_alloc w2 _ _ (by omega)).trans ((hb2.block _ (by omega)).trans ((hb1.block _ (by rw [size_alloc]; omega)).trans (heap_alloc_new w _))))
  have hSZ : ((w2.alloc (.cells #[.int .i64 h0, .int .i64 h1, .int .i64 h2, .int .i64 h3, .int .u64 (so : Int), .int .i64 (q : Int), .int .i64 h6, .int .i64 h7] 42)).alloc (.cells #[.pointer (some ⟨k, 0, none⟩), .string ⟨#[]⟩, .int .i64 0, .int .i64 h7] 36)).heap.size = w2.heap.size + 2 := by rw [size_alloc, size_alloc]
  have hkw : k ≠ w.heap.size := by
    intro e
    rw [e, (hb1.block w.heap.size (by rw [size_alloc]; omega)).trans (heap_alloc_new w _)] at hF
    cases hF
  have hwlt : w.heap.size < w2.heap.size := by
    have hs1 := hb1.size
    rw [size_alloc] at hs1
    have hs2 := hb2.size
    omega
  clear hF hb1 hb2 hM hM1 HI HH hk hF2
  generalize ((w2.alloc (.cells #[.int .i64 h0, .int .i64 h1, .int .i64 h2, .int .i64 h3, .int .u64 (so : Int), .int .i64 (q : Int), .int .i64 h6, .int .i64 h7] 42)).alloc (.cells #[.pointer (some ⟨k, 0, none⟩), .string ⟨#[]⟩, .int .i64 0, .int .i64 h7] 36)) = W at hFW hRh hRt c5 c14 hB2 hR0 hSZ ⊢
  have HR : Hid (∀ wx (t : Bool), t = false → Below w.heap.size w wx → Calls Tryd.prog 20 #[.bool t, .int .i64 55] wx fun r w' => (r = .panicked (gives 55) ∧ Below w.heap.size w w') ∨ (Hid False ∧ r = .returned (.tuple #[]) ∧ w' = wx)) := fun wx t ht hb => (require_no t 55 wx ht).mono fun r w' ⟨h1, h2⟩ => Or.inl ⟨h1, by rw [h2]; exact hb⟩
  go_region_with (go_at_call 20; refine (HR.out _ _ (by first | exact hqL2 | rfl) (by first | exact hB2 | exact hB2.drew | exact below_drewN hB2 _)).mono ?_; rintro r w4 (⟨rfl, hS'⟩ | ⟨hF, rfl, hw4⟩); · exact ⟨rfl, rfl, hS'⟩
                  subst w4)
  all_goals exact hF.out.elim
end Go.Proofs.YtoikagccopglkaaDoor
