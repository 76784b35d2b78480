
-- elf: the table where it is refused: contracts.
import Derived.Test.YtoikagccopglkaaDoorA4
import Derived.Test.YtoikagccopglkaaDoorG2
import Derived.Deep.RegionWith
import Derived.Test.YtoikagccopglkaaDoorA2
namespace Go.Proofs.YtoikagccopglkaaDoor
open Go.ChangeShapes Go.WideShapes Go.ChangeAt Go.RowKit
set_option linter.unusedVariables false
set_option maxRecDepth 100000
set_option maxHeartbeats 1000000 in
theorem find_count (b : ByteArray) (w : World) (hM : Magic w) (hm : b.size ≤ maxLen) (h0 h1 h2 h3 h6 h7 : Int) (so L n : Nat) (fc : Array Value) (f14 : fc[14]? = some (.int .u64 L)) (hso : so ≠ 0) (hL : 0 < L ∧ L ≤ 64)
    (hI : ∀ w : World, Magic w → Calls Tryd.prog 18 #[.string b] w fun r w' => ∃ k, r = .returned (.pointer (some ⟨k, 0, none⟩)) ∧ Below w.heap.size w w' ∧ w'.heap[k]? = some (.cells fc 62 (0, 0)))
    (hH : ∀ (w : World) (k : Nat), w.heap[k]? = some (.cells fc 62 (0, 0)) → Calls Tryd.prog 19 #[.pointer (some ⟨k, 0, none⟩)] w fun r w' => r = .returned (.agg #[.int .i64 h0, .int .i64 h1, .int .i64 h2, .int .i64 h3, .int .u64 (so : Int), .int .i64 (L : Int), .int .i64 h6, .int .i64 h7]) ∧ Below w.heap.size w w')
    (hC : ∀ (w : World) (k : Nat), w.heap[k]? = some (.cells fc 62 (0, 0)) → Calls Tryd.prog 21 #[.pointer (some ⟨k, 0, none⟩), .agg #[.int .i64 h0, .int .i64 h1, .int .i64 h2, .int .i64 h3, .int .u64 (so : Int), .int .i64 (L : Int), .int .i64 h6, .int .i64 h7]] w fun r w' => r = .panicked (gives 54) ∧ Below w.heap.size w w') :
    Calls Tryd.prog 12 #[.string b] w fun r w' => r = .panicked (gives 54) ∧ Below w.heap.size w w' := by
  have HI := Hid.mk' hI
  have HH := Hid.mk' hH
  have HC := Hid.mk' hC
  have hs0 : ((so : Int) == 0) = false := beq_eq_false_iff_ne.2 (by omega)
  have hM1 : Magic (w.alloc (.cells #[.pointer none, .string ⟨#[]⟩, .int .i64 0, .int .i64 0] 36)) := hM.kept (Below.alloc (Below.refl _ _) (Nat.le_refl _) _)
  clear hI hH hC
  go_enter Tryd.func12, Tryd.ntmps12
  go_wp2_with (first
    | (go_at_call 18; refine (HI.out _ hM1).mono ?_; rintro r w1 ⟨k, rfl, hb1, hF⟩)
    | (go_at_call 19; refine (HH.out _ _ hF).mono ?_; rintro r w2 ⟨rfl, hb2⟩))
  have hk : k < w1.heap.size := (Array.getElem?_eq_some_iff.1 hF).1
  have hk2 : k < w2.heap.size := Nat.lt_of_lt_of_le hk hb2.size
  have hF2 : w2.heap[k]? = some (.cells fc 62 (0, 0)) := (hb2.block k hk).trans hF
  have hFW : ((w2.alloc (.cells #[.int .i64 h0, .int .i64 h1, .int .i64 h2, .int .i64 h3, .int .u64 (so : Int), .int .i64 (L : Int), .int .i64 h6, .int .i64 h7] 42)).alloc (.cells #[.pointer (some ⟨k, 0, none⟩), .string ⟨#[]⟩, .int .i64 0, .int .i64 h7] 36)).heap[k]? = some (.cells fc 62 (0, 0)) := (Below.heap_alloc _ _ k (by rw [size_alloc]; omega)).trans ((Below.heap_alloc w2 _ k hk2).trans hF2)
  have hRh : ((w2.alloc (.cells #[.int .i64 h0, .int .i64 h1, .int .i64 h2, .int .i64 h3, .int .u64 (so : Int), .int .i64 (L : Int), .int .i64 h6, .int .i64 h7] 42)).alloc (.cells #[.pointer (some ⟨k, 0, none⟩), .string ⟨#[]⟩, .int .i64 0, .int .i64 h7] 36)).heap[w2.heap.size]? = some (.cells #[.int .i64 h0, .int .i64 h1, .int .i64 h2, .int .i64 h3, .int .u64 (so : Int), .int .i64 (L : Int), .int .i64 h6, .int .i64 h7] 42 (0, 0)) := heap_alloc2_old w2 _ _
  have hRt : ((w2.alloc (.cells #[.int .i64 h0, .int .i64 h1, .int .i64 h2, .int .i64 h3, .int .u64 (so : Int), .int .i64 (L : Int), .int .i64 h6, .int .i64 h7] 42)).alloc (.cells #[.pointer (some ⟨k, 0, none⟩), .string ⟨#[]⟩, .int .i64 0, .int .i64 h7] 36)).heap[w2.heap.size + 1]? = some (.cells #[.pointer (some ⟨k, 0, none⟩), .string ⟨#[]⟩, .int .i64 0, .int .i64 h7] 36 (0, 0)) := heap_alloc2_new w2 _ _
  have c5 : ((w2.alloc (.cells #[.int .i64 h0, .int .i64 h1, .int .i64 h2, .int .i64 h3, .int .u64 (so : Int), .int .i64 (L : Int), .int .i64 h6, .int .i64 h7] 42)).alloc (.cells #[.pointer (some ⟨k, 0, none⟩), .string ⟨#[]⟩, .int .i64 0, .int .i64 h7] 36)).cell? ⟨w2.heap.size, 5, none⟩ = some (.int .i64 (L : Int)) := cell_of_row _ _ 5 _ _ _ hRh
  have c14 : ((w2.alloc (.cells #[.int .i64 h0, .int .i64 h1, .int .i64 h2, .int .i64 h3, .int .u64 (so : Int), .int .i64 (L : Int), .int .i64 h6, .int .i64 h7] 42)).alloc (.cells #[.pointer (some ⟨k, 0, none⟩), .string ⟨#[]⟩, .int .i64 0, .int .i64 h7] 36)).cell? ⟨k, 14, none⟩ = some (.int .u64 L) := (cell_of_row _ _ _ _ _ _ hFW).trans f14
  have hwL : IntKind.u64.wrap (L : Int) = (L : Int) := by rw [IntKind.wrap_u64]; omega
  have hLL : ((L : Int) == (L : Int)) = true := beq_self_eq_true _
  have hB2 : Below w.heap.size w ((w2.alloc (.cells #[.int .i64 h0, .int .i64 h1, .int .i64 h2, .int .i64 h3, .int .u64 (so : Int), .int .i64 (L : Int), .int .i64 h6, .int .i64 h7] 42)).alloc (.cells #[.pointer (some ⟨k, 0, none⟩), .string ⟨#[]⟩, .int .i64 0, .int .i64 h7] 36)) := by
    have hb := Below.alloc (Below.refl w.heap.size w) (Nat.le_refl _) (.cells #[.pointer none, .string ⟨#[]⟩, .int .i64 0, .int .i64 0] 36)
    have hs1 := hb1.size
    rw [size_alloc] at hs1
    have hb' : Below w.heap.size w w2 := (hb.trans (hb1.mono (by rw [size_alloc]; exact Nat.le_succ _))).trans (hb2.mono (by omega))
    exact Below.alloc (Below.alloc hb' hb'.size _) (by rw [size_alloc]; have := hb'.size; omega) _
  have hR0 : ((w2.alloc (.cells #[.int .i64 h0, .int .i64 h1, .int .i64 h2, .int .i64 h3, .int .u64 (so : Int), .int .i64 (L : Int), .int .i64 h6, .int .i64 h7] 42)).alloc (.cells #[.pointer (some ⟨k, 0, none⟩), .string ⟨#[]⟩, .int .i64 0, .int .i64 h7] 36)).heap[w.heap.size]? = some (.cells #[.pointer none, .string ⟨#[]⟩, .int .i64 0, .int .i64 0] 36 (0, 0)) := by
    have hs1 := hb1.size
    rw [size_alloc] at hs1
    have hs2 := hb2.size
    refine (Below.heap_alloc _ _ _ (by rw [size_alloc]; omega)).trans ((Below.heap_alloc w2 _ _ (by omega)).trans ((hb2.block _ (by omega)).trans ((hb1.block _ (by rw [size_alloc]; omega)).trans (heap_alloc_new w _))))
  have hSZ : ((w2.alloc (.cells #[.int .i64 h0, .int .i64 h1, .int .i64 h2, .int .i64 h3, .int .u64 (so : Int), .int .i64 (L : Int), .int .i64 h6, .int .i64 h7] 42)).alloc (.cells #[.pointer (some ⟨k, 0, none⟩), .string ⟨#[]⟩, .int .i64 0, .int .i64 h7] 36)).heap.size = w2.heap.size + 2 := by rw [size_alloc, size_alloc]
  have hkw : k ≠ w.heap.size := by
    intro e
    rw [e, (hb1.block w.heap.size (by rw [size_alloc]; omega)).trans (heap_alloc_new w _)] at hF
    cases hF
  have hwlt : w.heap.size < w2.heap.size := by
    have hs1 := hb1.size
    rw [size_alloc] at hs1
    have hs2 := hb2.size
    omega
  clear hF hb1 hb2 hM hM1 HI HH hk hF2
  generalize ((w2.alloc (.cells #[.int .i64 h0, .int .i64 h1, .int .i64 h2, .int .i64 h3, .int .u64 (so : Int), .int .i64 (L : Int), .int .i64 h6, .int .i64 h7] 42)).alloc (.cells #[.pointer (some ⟨k, 0, none⟩), .string ⟨#[]⟩, .int .i64 0, .int .i64 h7] 36)) = W at hFW hRh hRt c5 c14 hB2 hR0 hSZ ⊢
  go_quiet ((go_at_call 20; exact Calls.quiet_of_same (require_ok _ _ _ (by first | exact hLL | rfl))))
  clear c5
  have hBq : Below w.heap.size w (W.drewN nq) := below_drewN hB2 _
  have hSq : (W.drewN nq).heap.size = w2.heap.size + 2 := hSZ
  have qF : (W.drewN nq).heap[k]? = some (.cells fc 62 (0, 0)) := hFW
  have qh : (W.drewN nq).heap[w2.heap.size]? = some (.cells #[.int .i64 h0, .int .i64 h1, .int .i64 h2, .int .i64 h3, .int .u64 (so : Int), .int .i64 (L : Int), .int .i64 h6, .int .i64 h7] 42 (0, 0)) := hRh
  have qt : (W.drewN nq).heap[w2.heap.size + 1]? = some (.cells #[.pointer (some ⟨k, 0, none⟩), .string ⟨#[]⟩, .int .i64 0, .int .i64 h7] 36 (0, 0)) := hRt
  have q0 : (W.drewN nq).heap[w.heap.size]? = some (.cells #[.pointer none, .string ⟨#[]⟩, .int .i64 0, .int .i64 0] 36 (0, 0)) := hR0
  clear hFW hRh hRt c14 hB2 hR0 hSZ
  generalize W.drewN nq = W' at hBq hSq qF qh qt q0 ⊢
  clear W
  go_wp2_with (first
    | (refine wpList_load_row rfl _ _ rfl w2.heap.size rfl _ _ _ _ qh Tryd.underlying42 rfl (by kernel_rfl) ?_)
    | (go_at_call 21; refine (HC.out _ _ qF).mono ?_; rintro r w3 ⟨rfl, hb3⟩))
  exact ⟨rfl, rfl, hBq.trans (hb3.mono (by omega))⟩
set_option maxHeartbeats 1000000 in
theorem find_many (b : ByteArray) (w : World) (hM : Magic w) (hm : b.size ≤ maxLen) (h0 h1 h2 h3 h6 h7 : Int) (so L n : Nat) (fc : Array Value) (f14 : fc[14]? = some (.int .u64 L)) (hso : so ≠ 0) (hL : 0 < L ∧ L ≤ 64) (hn : b.size / L < n) (hn64 : n < 18446744073709551616)
    (hI : ∀ w : World, Magic w → Calls Tryd.prog 18 #[.string b] w fun r w' => ∃ k, r = .returned (.pointer (some ⟨k, 0, none⟩)) ∧ Below w.heap.size w w' ∧ w'.heap[k]? = some (.cells fc 62 (0, 0)))
    (hH : ∀ (w : World) (k : Nat), w.heap[k]? = some (.cells fc 62 (0, 0)) → Calls Tryd.prog 19 #[.pointer (some ⟨k, 0, none⟩)] w fun r w' => r = .returned (.agg #[.int .i64 h0, .int .i64 h1, .int .i64 h2, .int .i64 h3, .int .u64 (so : Int), .int .i64 (L : Int), .int .i64 h6, .int .i64 h7]) ∧ Below w.heap.size w w')
    (hC : ∀ (w : World) (k : Nat), w.heap[k]? = some (.cells fc 62 (0, 0)) → Calls Tryd.prog 21 #[.pointer (some ⟨k, 0, none⟩), .agg #[.int .i64 h0, .int .i64 h1, .int .i64 h2, .int .i64 h3, .int .u64 (so : Int), .int .i64 (L : Int), .int .i64 h6, .int .i64 h7]] w fun r w' => r = .returned (.int .u64 n) ∧ Below w.heap.size w w') :
    Calls Tryd.prog 12 #[.string b] w fun r w' => r = .panicked (gives 54) ∧ Below w.heap.size w w' := by
  have HI := Hid.mk' hI
  have HH := Hid.mk' hH
  have HC := Hid.mk' hC
  have hs0 : ((so : Int) == 0) = false := beq_eq_false_iff_ne.2 (by omega)
  have hM1 : Magic (w.alloc (.cells #[.pointer none, .string ⟨#[]⟩, .int .i64 0, .int .i64 0] 36)) := hM.kept (Below.alloc (Below.refl _ _) (Nat.le_refl _) _)
  clear hI hH hC
  go_enter Tryd.func12, Tryd.ntmps12
  go_wp2_with (first
    | (go_at_call 18; refine (HI.out _ hM1).mono ?_; rintro r w1 ⟨k, rfl, hb1, hF⟩)
    | (go_at_call 19; refine (HH.out _ _ hF).mono ?_; rintro r w2 ⟨rfl, hb2⟩))
  have hk : k < w1.heap.size := (Array.getElem?_eq_some_iff.1 hF).1
  have hk2 : k < w2.heap.size := Nat.lt_of_lt_of_le hk hb2.size
  have hF2 : w2.heap[k]? = some (.cells fc 62 (0, 0)) := (hb2.block k hk).trans hF
  have hFW : ((w2.alloc (.cells #[.int .i64 h0, .int .i64 h1, .int .i64 h2, .int .i64 h3, .int .u64 (so : Int), .int .i64 (L : Int), .int .i64 h6, .int .i64 h7] 42)).alloc (.cells #[.pointer (some ⟨k, 0, none⟩), .string ⟨#[]⟩, .int .i64 0, .int .i64 h7] 36)).heap[k]? = some (.cells fc 62 (0, 0)) := (Below.heap_alloc _ _ k (by rw [size_alloc]; omega)).trans ((Below.heap_alloc w2 _ k hk2).trans hF2)
  have hRh : ((w2.alloc (.cells #[.int .i64 h0, .int .i64 h1, .int .i64 h2, .int .i64 h3, .int .u64 (so : Int), .int .i64 (L : Int), .int .i64 h6, .int .i64 h7] 42)).alloc (.cells #[.pointer (some ⟨k, 0, none⟩), .string ⟨#[]⟩, .int .i64 0, .int .i64 h7] 36)).heap[w2.heap.size]? = some (.cells #[.int .i64 h0, .int .i64 h1, .int .i64 h2, .int .i64 h3, .int .u64 (so : Int), .int .i64 (L : Int), .int .i64 h6, .int .i64 h7] 42 (0, 0)) := heap_alloc2_old w2 _ _
  have hRt : ((w2.alloc (.cells #[.int .i64 h0, .int .i64 h1, .int .i64 h2, .int .i64 h3, .int .u64 (so : Int), .int .i64 (L : Int), .int .i64 h6, .int .i64 h7] 42)).alloc (.cells #[.pointer (some ⟨k, 0, none⟩), .string ⟨#[]⟩, .int .i64 0, .int .i64 h7] 36)).heap[w2.heap.size + 1]? = some (.cells #[.pointer (some ⟨k, 0, none⟩), .string ⟨#[]⟩, .int .i64 0, .int .i64 h7] 36 (0, 0)) := heap_alloc2_new w2 _ _
  have c5 : ((w2.alloc (.cells #[.int .i64 h0, .int .i64 h1, .int .i64 h2, .int .i64 h3, .int .u64 (so : Int), .int .i64 (L : Int), .int .i64 h6, .int .i64 h7] 42)).alloc (.cells #[.pointer (some ⟨k, 0, none⟩), .string ⟨#[]⟩, .int .i64 0, .int .i64 h7] 36)).cell? ⟨w2.heap.size, 5, none⟩ = some (.int .i64 (L : Int)) := cell_of_row _ _ 5 _ _ _ hRh
  have c14 : ((w2.alloc (.cells #[.int .i64 h0, .int .i64 h1, .int .i64 h2, .int .i64 h3, .int .u64 (so : Int), .int .i64 (L : Int), .int .i64 h6, .int .i64 h7] 42)).alloc (.cells #[.pointer (some ⟨k, 0, none⟩), .string ⟨#[]⟩, .int .i64 0, .int .i64 h7] 36)).cell? ⟨k, 14, none⟩ = some (.int .u64 L) := (cell_of_row _ _ _ _ _ _ hFW).trans f14
  have hwL : IntKind.u64.wrap (L : Int) = (L : Int) := by rw [IntKind.wrap_u64]; omega
  have hLL : ((L : Int) == (L : Int)) = true := beq_self_eq_true _
  have hB2 : Below w.heap.size w ((w2.alloc (.cells #[.int .i64 h0, .int .i64 h1, .int .i64 h2, .int .i64 h3, .int .u64 (so : Int), .int .i64 (L : Int), .int .i64 h6, .int .i64 h7] 42)).alloc (.cells #[.pointer (some ⟨k, 0, none⟩), .string ⟨#[]⟩, .int .i64 0, .int .i64 h7] 36)) := by
    have hb := Below.alloc (Below.refl w.heap.size w) (Nat.le_refl _) (.cells #[.pointer none, .string ⟨#[]⟩, .int .i64 0, .int .i64 0] 36)
    have hs1 := hb1.size
    rw [size_alloc] at hs1
    have hb' : Below w.heap.size w w2 := (hb.trans (hb1.mono (by rw [size_alloc]; exact Nat.le_succ _))).trans (hb2.mono (by omega))
    exact Below.alloc (Below.alloc hb' hb'.size _) (by rw [size_alloc]; have := hb'.size; omega) _
  have hR0 : ((w2.alloc (.cells #[.int .i64 h0, .int .i64 h1, .int .i64 h2, .int .i64 h3, .int .u64 (so : Int), .int .i64 (L : Int), .int .i64 h6, .int .i64 h7] 42)).alloc (.cells #[.pointer (some ⟨k, 0, none⟩), .string ⟨#[]⟩, .int .i64 0, .int .i64 h7] 36)).heap[w.heap.size]? = some (.cells #[.pointer none, .string ⟨#[]⟩, .int .i64 0, .int .i64 0] 36 (0, 0)) := by
    have hs1 := hb1.size
    rw [size_alloc] at hs1
    have hs2 := hb2.size
    refine (Below.heap_alloc _ _ _ (by rw [size_alloc]; omega)).trans ((Below.heap_alloc w2 _ _ (by omega)).trans ((hb2.block _ (by omega)).trans ((hb1.block _ (by rw [size_alloc]; omega)).trans (heap_alloc_new w _))))
  have hSZ : ((w2.alloc (.cells #[.int .i64 h0, .int .i64 h1, .int .i64 h2, .int .i64 h3, .int .u64 (so : Int), .int .i64 (L : Int), .int .i64 h6, .int .i64 h7] 42)).alloc (.cells #[.pointer (some ⟨k, 0, none⟩), .string ⟨#[]⟩, .int .i64 0, .int .i64 h7] 36)).heap.size = w2.heap.size + 2 := by rw [size_alloc, size_alloc]
  have hkw : k ≠ w.heap.size := by
    intro e
    rw [e, (hb1.block w.heap.size (by rw [size_alloc]; omega)).trans (heap_alloc_new w _)] at hF
    cases hF
  have hwlt : w.heap.size < w2.heap.size := by
    have hs1 := hb1.size
    rw [size_alloc] at hs1
    have hs2 := hb2.size
    omega
  clear hF hb1 hb2 hM hM1 HI HH hk hF2
  generalize ((w2.alloc (.cells #[.int .i64 h0, .int .i64 h1, .int .i64 h2, .int .i64 h3, .int .u64 (so : Int), .int .i64 (L : Int), .int .i64 h6, .int .i64 h7] 42)).alloc (.cells #[.pointer (some ⟨k, 0, none⟩), .string ⟨#[]⟩, .int .i64 0, .int .i64 h7] 36)) = W at hFW hRh hRt c5 c14 hB2 hR0 hSZ ⊢
  go_quiet ((go_at_call 20; exact Calls.quiet_of_same (require_ok _ _ _ (by first | exact hLL | rfl))))
  clear c5
  have hBq : Below w.heap.size w (W.drewN nq) := below_drewN hB2 _
  have hSq : (W.drewN nq).heap.size = w2.heap.size + 2 := hSZ
  have qF : (W.drewN nq).heap[k]? = some (.cells fc 62 (0, 0)) := hFW
  have qh : (W.drewN nq).heap[w2.heap.size]? = some (.cells #[.int .i64 h0, .int .i64 h1, .int .i64 h2, .int .i64 h3, .int .u64 (so : Int), .int .i64 (L : Int), .int .i64 h6, .int .i64 h7] 42 (0, 0)) := hRh
  have qt : (W.drewN nq).heap[w2.heap.size + 1]? = some (.cells #[.pointer (some ⟨k, 0, none⟩), .string ⟨#[]⟩, .int .i64 0, .int .i64 h7] 36 (0, 0)) := hRt
  have q0 : (W.drewN nq).heap[w.heap.size]? = some (.cells #[.pointer none, .string ⟨#[]⟩, .int .i64 0, .int .i64 0] 36 (0, 0)) := hR0
  clear hFW hRh hRt c14 hB2 hR0 hSZ
  generalize W.drewN nq = W' at hBq hSq qF qh qt q0 ⊢
  clear W
  have KEEP : Hid (∀ w3 : World, Below W'.heap.size W' w3 → w3.heap[k]? = some (.cells fc 62 (0, 0)) ∧ w3.heap[w2.heap.size]? = some (.cells #[.int .i64 h0, .int .i64 h1, .int .i64 h2, .int .i64 h3, .int .u64 (so : Int), .int .i64 (L : Int), .int .i64 h6, .int .i64 h7] 42 (0, 0)) ∧ w3.heap[w2.heap.size + 1]? = some (.cells #[.pointer (some ⟨k, 0, none⟩), .string ⟨#[]⟩, .int .i64 0, .int .i64 h7] 36 (0, 0)) ∧ w3.heap[w.heap.size]? = some (.cells #[.pointer none, .string ⟨#[]⟩, .int .i64 0, .int .i64 0] 36 (0, 0)) ∧ Below w.heap.size w w3 ∧ w3.cell? ⟨k, 14, none⟩ = some (.int .u64 L) ∧ w3.cell? ⟨w2.heap.size, 4, none⟩ = some (.int .u64 (so : Int))) := by
    intro w3 hb
    rw [hSq] at hb
    have r1 := (hb.block k (by omega)).trans qF
    have r2 := (hb.block w2.heap.size (by omega)).trans qh
    refine ⟨r1, r2, (hb.block _ (by omega)).trans qt, (hb.block _ (by omega)).trans q0, hBq.trans (hb.mono (by omega)), (cell_of_row _ _ _ _ _ _ r1).trans f14, cell_of_row _ _ 4 _ _ _ r2⟩
  have hLne : ¬ (L : Int) = 0 := by omega
  have hm2 : (b.size : Int) ≤ 9223372036854775807 := by unfold maxLen at hm; omega
  have hwb : IntKind.u64.wrap (b.size : Int) = (b.size : Int) := by rw [IntKind.wrap_u64]; omega
  have HCM : Hid (decide ((n : Int) ≤ IntKind.u64.wrap ((b.size : Int) / (L : Int))) = false) := by
    show decide _ = false
    have h1 : ((b.size : Int) / (L : Int)) = ((b.size / L : Nat) : Int) := (Int.natCast_ediv b.size L).symm
    have h2 : b.size / L ≤ b.size := Nat.div_le_self _ _
    have h3 : IntKind.u64.wrap ((b.size / L : Nat) : Int) = ((b.size / L : Nat) : Int) := by
      generalize b.size / L = q at h2
      rw [IntKind.wrap_u64]
      omega
    rw [h1, h3]
    exact decide_eq_false (by generalize b.size / L = q at hn; omega)
  go_wp2_with (first
    | (refine wpList_load_row rfl _ _ rfl w2.heap.size rfl _ _ _ _ qh Tryd.underlying42 rfl (by kernel_rfl) ?_)
    | (go_at_call 21; refine (HC.out _ _ qF).mono ?_; rintro r w3 ⟨rfl, hb3⟩; obtain ⟨pF, ph, pt, p0, hB3, c14, g4⟩ := KEEP.out w3 hb3)
    | (go_at_call 20; refine (require_no _ _ _ HCM.out).mono ?_; rintro r w4 ⟨rfl, hw⟩; subst w4))
  exact ⟨rfl, rfl, hB3⟩
set_option maxHeartbeats 1000000 in
theorem find_piece (b : ByteArray) (w : World) (hM : Magic w) (hm : b.size ≤ maxLen) (h0 h1 h2 h3 h6 h7 : Int) (so L n : Nat) (fc : Array Value) (f14 : fc[14]? = some (.int .u64 L)) (hso : so ≠ 0) (hL : 0 < L ∧ L ≤ 64) (hn : n ≤ b.size / L) (hso64 : so < 18446744073709551616) (hout : ¬ (so ≤ b.size ∧ n * L ≤ b.size - so))
    (hI : ∀ w : World, Magic w → Calls Tryd.prog 18 #[.string b] w fun r w' => ∃ k, r = .returned (.pointer (some ⟨k, 0, none⟩)) ∧ Below w.heap.size w w' ∧ w'.heap[k]? = some (.cells fc 62 (0, 0)))
    (hH : ∀ (w : World) (k : Nat), w.heap[k]? = some (.cells fc 62 (0, 0)) → Calls Tryd.prog 19 #[.pointer (some ⟨k, 0, none⟩)] w fun r w' => r = .returned (.agg #[.int .i64 h0, .int .i64 h1, .int .i64 h2, .int .i64 h3, .int .u64 (so : Int), .int .i64 (L : Int), .int .i64 h6, .int .i64 h7]) ∧ Below w.heap.size w w')
    (hC : ∀ (w : World) (k : Nat), w.heap[k]? = some (.cells fc 62 (0, 0)) → Calls Tryd.prog 21 #[.pointer (some ⟨k, 0, none⟩), .agg #[.int .i64 h0, .int .i64 h1, .int .i64 h2, .int .i64 h3, .int .u64 (so : Int), .int .i64 (L : Int), .int .i64 h6, .int .i64 h7]] w fun r w' => r = .returned (.int .u64 n) ∧ Below w.heap.size w w') :
    Calls Tryd.prog 12 #[.string b] w fun r w' => r = .panicked (gives 54) ∧ Below w.heap.size w w' := by
  have HI := Hid.mk' hI
  have HH := Hid.mk' hH
  have HC := Hid.mk' hC
  have hs0 : ((so : Int) == 0) = false := beq_eq_false_iff_ne.2 (by omega)
  have hM1 : Magic (w.alloc (.cells #[.pointer none, .string ⟨#[]⟩, .int .i64 0, .int .i64 0] 36)) := hM.kept (Below.alloc (Below.refl _ _) (Nat.le_refl _) _)
  clear hI hH hC
  go_enter Tryd.func12, Tryd.ntmps12
  go_wp2_with (first
    | (go_at_call 18; refine (HI.out _ hM1).mono ?_; rintro r w1 ⟨k, rfl, hb1, hF⟩)
    | (go_at_call 19; refine (HH.out _ _ hF).mono ?_; rintro r w2 ⟨rfl, hb2⟩))
  have hk : k < w1.heap.size := (Array.getElem?_eq_some_iff.1 hF).1
  have hk2 : k < w2.heap.size := Nat.lt_of_lt_of_le hk hb2.size
  have hF2 : w2.heap[k]? = some (.cells fc 62 (0, 0)) := (hb2.block k hk).trans hF
  have hFW : ((w2.alloc (.cells #[.int .i64 h0, .int .i64 h1, .int .i64 h2, .int .i64 h3, .int .u64 (so : Int), .int .i64 (L : Int), .int .i64 h6, .int .i64 h7] 42)).alloc (.cells #[.pointer (some ⟨k, 0, none⟩), .string ⟨#[]⟩, .int .i64 0, .int .i64 h7] 36)).heap[k]? = some (.cells fc 62 (0, 0)) := (Below.heap_alloc _ _ k (by rw [size_alloc]; omega)).trans ((Below.heap_alloc w2 _ k hk2).trans hF2)
  have hRh : ((w2.alloc (.cells #[.int .i64 h0, .int .i64 h1, .int .i64 h2, .int .i64 h3, .int .u64 (so : Int), .int .i64 (L : Int), .int .i64 h6, .int .i64 h7] 42)).alloc (.cells #[.pointer (some ⟨k, 0, none⟩), .string ⟨#[]⟩, .int .i64 0, .int .i64 h7] 36)).heap[w2.heap.size]? = some (.cells #[.int .i64 h0, .int .i64 h1, .int .i64 h2, .int .i64 h3, .int .u64 (so : Int), .int .i64 (L : Int), .int .i64 h6, .int .i64 h7] 42 (0, 0)) := heap_alloc2_old w2 _ _
  have hRt : ((w2.alloc (.cells #[.int .i64 h0, .int .i64 h1, .int .i64 h2, .int .i64 h3, .int .u64 (so : Int), .int .i64 (L : Int), .int .i64 h6, .int .i64 h7] 42)).alloc (.cells #[.pointer (some ⟨k, 0, none⟩), .string ⟨#[]⟩, .int .i64 0, .int .i64 h7] 36)).heap[w2.heap.size + 1]? = some (.cells #[.pointer (some ⟨k, 0, none⟩), .string ⟨#[]⟩, .int .i64 0, .int .i64 h7] 36 (0, 0)) := heap_alloc2_new w2 _ _
  have c5 : ((w2.alloc (.cells #[.int .i64 h0, .int .i64 h1, .int .i64 h2, .int .i64 h3, .int .u64 (so : Int), .int .i64 (L : Int), .int .i64 h6, .int .i64 h7] 42)).alloc (.cells #[.pointer (some ⟨k, 0, none⟩), .string ⟨#[]⟩, .int .i64 0, .int .i64 h7] 36)).cell? ⟨w2.heap.size, 5, none⟩ = some (.int .i64 (L : Int)) := cell_of_row _ _ 5 _ _ _ hRh
  have c14 : ((w2.alloc (.cells #[.int .i64 h0, .int .i64 h1, .int .i64 h2, .int .i64 h3, .int .u64 (so : Int), .int .i64 (L : Int), .int .i64 h6, .int .i64 h7] 42)).alloc (.cells #[.pointer (some ⟨k, 0, none⟩), .string ⟨#[]⟩, .int .i64 0, .int .i64 h7] 36)).cell? ⟨k, 14, none⟩ = some (.int .u64 L) := (cell_of_row _ _ _ _ _ _ hFW).trans f14
  have hwL : IntKind.u64.wrap (L : Int) = (L : Int) := by rw [IntKind.wrap_u64]; omega
  have hLL : ((L : Int) == (L : Int)) = true := beq_self_eq_true _
  have hB2 : Below w.heap.size w ((w2.alloc (.cells #[.int .i64 h0, .int .i64 h1, .int .i64 h2, .int .i64 h3, .int .u64 (so : Int), .int .i64 (L : Int), .int .i64 h6, .int .i64 h7] 42)).alloc (.cells #[.pointer (some ⟨k, 0, none⟩), .string ⟨#[]⟩, .int .i64 0, .int .i64 h7] 36)) := by
    have hb := Below.alloc (Below.refl w.heap.size w) (Nat.le_refl _) (.cells #[.pointer none, .string ⟨#[]⟩, .int .i64 0, .int .i64 0] 36)
    have hs1 := hb1.size
    rw [size_alloc] at hs1
    have hb' : Below w.heap.size w w2 := (hb.trans (hb1.mono (by rw [size_alloc]; exact Nat.le_succ _))).trans (hb2.mono (by omega))
    exact Below.alloc (Below.alloc hb' hb'.size _) (by rw [size_alloc]; have := hb'.size; omega) _
  have hR0 : ((w2.alloc (.cells #[.int .i64 h0, .int .i64 h1, .int .i64 h2, .int .i64 h3, .int .u64 (so : Int), .int .i64 (L : Int), .int .i64 h6, .int .i64 h7] 42)).alloc (.cells #[.pointer (some ⟨k, 0, none⟩), .string ⟨#[]⟩, .int .i64 0, .int .i64 h7] 36)).heap[w.heap.size]? = some (.cells #[.pointer none, .string ⟨#[]⟩, .int .i64 0, .int .i64 0] 36 (0, 0)) := by
    have hs1 := hb1.size
    rw [size_alloc] at hs1
    have hs2 := hb2.size
    refine (Below.heap_alloc _ _ _ (by rw [size_alloc]; omega)).trans ((Below.heap_alloc w2 _ _ (by omega)).trans ((hb2.block _ (by omega)).trans ((hb1.block _ (by rw [size_alloc]; omega)).trans (heap_alloc_new w _))))
  have hSZ : ((w2.alloc (.cells #[.int .i64 h0, .int .i64 h1, .int .i64 h2, .int .i64 h3, .int .u64 (so : Int), .int .i64 (L : Int), .int .i64 h6, .int .i64 h7] 42)).alloc (.cells #[.pointer (some ⟨k, 0, none⟩), .string ⟨#[]⟩, .int .i64 0, .int .i64 h7] 36)).heap.size = w2.heap.size + 2 := by rw [size_alloc, size_alloc]
  have hkw : k ≠ w.heap.size := by
    intro e
    rw [e, (hb1.block w.heap.size (by rw [size_alloc]; omega)).trans (heap_alloc_new w _)] at hF
    cases hF
  have hwlt : w.heap.size < w2.heap.size := by
    have hs1 := hb1.size
    rw [size_alloc] at hs1
    have hs2 := hb2.size
    omega
  clear hF hb1 hb2 hM hM1 HI HH hk hF2
  generalize ((w2.alloc (.cells #[.int .i64 h0, .int .i64 h1, .int .i64 h2, .int .i64 h3, .int .u64 (so : Int), .int .i64 (L : Int), .int .i64 h6, .int .i64 h7] 42)).alloc (.cells #[.pointer (some ⟨k, 0, none⟩), .string ⟨#[]⟩, .int .i64 0, .int .i64 h7] 36)) = W at hFW hRh hRt c5 c14 hB2 hR0 hSZ ⊢
  go_quiet ((go_at_call 20; exact Calls.quiet_of_same (require_ok _ _ _ (by first | exact hLL | rfl))))
  clear c5
  have hBq : Below w.heap.size w (W.drewN nq) := below_drewN hB2 _
  have hSq : (W.drewN nq).heap.size = w2.heap.size + 2 := hSZ
  have qF : (W.drewN nq).heap[k]? = some (.cells fc 62 (0, 0)) := hFW
  have qh : (W.drewN nq).heap[w2.heap.size]? = some (.cells #[.int .i64 h0, .int .i64 h1, .int .i64 h2, .int .i64 h3, .int .u64 (so : Int), .int .i64 (L : Int), .int .i64 h6, .int .i64 h7] 42 (0, 0)) := hRh
  have qt : (W.drewN nq).heap[w2.heap.size + 1]? = some (.cells #[.pointer (some ⟨k, 0, none⟩), .string ⟨#[]⟩, .int .i64 0, .int .i64 h7] 36 (0, 0)) := hRt
  have q0 : (W.drewN nq).heap[w.heap.size]? = some (.cells #[.pointer none, .string ⟨#[]⟩, .int .i64 0, .int .i64 0] 36 (0, 0)) := hR0
  clear hFW hRh hRt c14 hB2 hR0 hSZ
  generalize W.drewN nq = W' at hBq hSq qF qh qt q0 ⊢
  clear W
  have KEEP : Hid (∀ w3 : World, Below W'.heap.size W' w3 → w3.heap[k]? = some (.cells fc 62 (0, 0)) ∧ w3.heap[w2.heap.size]? = some (.cells #[.int .i64 h0, .int .i64 h1, .int .i64 h2, .int .i64 h3, .int .u64 (so : Int), .int .i64 (L : Int), .int .i64 h6, .int .i64 h7] 42 (0, 0)) ∧ w3.heap[w2.heap.size + 1]? = some (.cells #[.pointer (some ⟨k, 0, none⟩), .string ⟨#[]⟩, .int .i64 0, .int .i64 h7] 36 (0, 0)) ∧ w3.heap[w.heap.size]? = some (.cells #[.pointer none, .string ⟨#[]⟩, .int .i64 0, .int .i64 0] 36 (0, 0)) ∧ Below w.heap.size w w3 ∧ w3.cell? ⟨k, 14, none⟩ = some (.int .u64 L) ∧ w3.cell? ⟨w2.heap.size, 4, none⟩ = some (.int .u64 (so : Int))) := by
    intro w3 hb
    rw [hSq] at hb
    have r1 := (hb.block k (by omega)).trans qF
    have r2 := (hb.block w2.heap.size (by omega)).trans qh
    refine ⟨r1, r2, (hb.block _ (by omega)).trans qt, (hb.block _ (by omega)).trans q0, hBq.trans (hb.mono (by omega)), (cell_of_row _ _ _ _ _ _ r1).trans f14, cell_of_row _ _ 4 _ _ _ r2⟩
  have hLne : ¬ (L : Int) = 0 := by omega
  have HNL : n * L < 18446744073709551616 := by
    have h1 : n * L ≤ b.size := Nat.le_trans (Nat.mul_le_mul_right _ hn) (Nat.div_mul_le_self _ _)
    unfold maxLen at hm; omega
  have hnl : ((n * L : Nat) : Int) = (n : Int) * (L : Int) := Int.natCast_mul n L
  have hwn : IntKind.i64.wrap (n : Int) = (n : Int) := by rw [IntKind.wrap_i64]; have := Nat.div_le_self b.size L; unfold maxLen at hm; omega
  have hwn2 : wrap64 (n : Int) = (n : Int) := by have h := hwn; rw [IntKind.wrap_i64] at h; unfold wrap64; exact h
  have hmw : IntKind.u64.wrap ((n : Int) * (L : Int)) = (n : Int) * (L : Int) := by rw [IntKind.wrap_u64]; unfold maxLen at hm; omega
  have HP : Hid (∀ wx, Below w.heap.size w wx → Calls Tryd.prog 22 #[.string b, .int .u64 (so : Int), .int .u64 ((n : Int) * (L : Int))] wx fun r w' => (r = .panicked (gives 54) ∧ Below w.heap.size w w') ∨ (Hid False ∧ r = .returned (.string b) ∧ w' = wx)) := fun wx hb => by
    have h := piece_no b so (n * L) wx hso64 HNL hout hm
    rw [hnl] at h
    exact h.mono fun r w' ⟨h1, h2⟩ => Or.inl ⟨h1, by rw [h2]; exact hb⟩
  have hm2 : (b.size : Int) ≤ 9223372036854775807 := by unfold maxLen at hm; omega
  have hwb : IntKind.u64.wrap (b.size : Int) = (b.size : Int) := by rw [IntKind.wrap_u64]; omega
  have HCM : Hid (decide ((n : Int) ≤ IntKind.u64.wrap ((b.size : Int) / (L : Int))) = true) := by
    show decide _ = true
    have h1 : ((b.size : Int) / (L : Int)) = ((b.size / L : Nat) : Int) := (Int.natCast_ediv b.size L).symm
    have h2 : b.size / L ≤ b.size := Nat.div_le_self _ _
    have h3 : IntKind.u64.wrap ((b.size / L : Nat) : Int) = ((b.size / L : Nat) : Int) := by
      generalize b.size / L = q at h2
      rw [IntKind.wrap_u64]
      omega
    rw [h1, h3]
    exact decide_eq_true (Int.ofNat_le.2 hn)
  go_wp2_with (first
    | (refine wpList_load_row rfl _ _ rfl w2.heap.size rfl _ _ _ _ qh Tryd.underlying42 rfl (by kernel_rfl) ?_)
    | (go_at_call 21; refine (HC.out _ _ qF).mono ?_; rintro r w3 ⟨rfl, hb3⟩; obtain ⟨pF, ph, pt, p0, hB3, c14, g4⟩ := KEEP.out w3 hb3)
    | (go_at_call 20; refine (require_ok _ _ _ HCM.out).mono ?_; rintro r w4 ⟨rfl, hw⟩; subst w4))
  have t1 : w3.cell? ⟨w2.heap.size + 1, 1, none⟩ = some (.string ⟨#[]⟩) := cell_of_row _ _ 1 _ _ _ pt
  have y1 : w3.frozen? ⟨w2.heap.size + 1, 1, none⟩ = false := frozen_of_row _ _ 1 _ _ pt
  clear hb3 qF qh qt q0 KEEP HCM
  go_region_with (go_at_call 22; refine (HP.out _ (by first | exact hB3 | exact hB3.drew | exact below_drewN hB3 _)).mono ?_; rintro r w4 (⟨rfl, hS'⟩ | ⟨hF, rfl, hw4⟩); · exact ⟨rfl, rfl, hS'⟩
                  subst w4)
  all_goals exact hF.out.elim
end Go.Proofs.YtoikagccopglkaaDoor
