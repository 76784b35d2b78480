
-- syms: opening a symbol table, class 32: contracts.
import Derived.Test.YtkmehjikllilaaaDoorT2
import Derived.Test.YtkmehjikllilaaaDoorKQ
import Derived.Deep.QuietTactic
namespace Go.Proofs.YtkmehjikllilaaaDoor
open Go.ChangeShapes Go.WideShapes Go.ChangeAt Go.RowKit
set_option linter.unusedVariables false
set_option maxRecDepth 100000
theorem open_55a_32 (b t0 n0 : ByteArray) (k : Nat) (o : Int) (v : Value) (x0 x1 x2 x3 x4 x5 x6 x7 : Nat) (w : World) (hF : w.heap[k]? = some (.cells (tabCells col32 o t0 n0) 72 (0, 0))) (hx : x7 ≠ 16) :
    Calls Tryd.prog 23 #[.pointer (some ⟨k, 0, none⟩), .string b, v, .agg #[.int .i64 (x0 : Int), .int .i64 (x1 : Int), .int .u64 (x2 : Int), .int .i64 (x3 : Int), .int .i64 (x4 : Int), .int .u64 (x5 : Int), .int .u64 (x6 : Int), .int .u64 (x7 : Int)]] w fun r w' => r = .returned (.int .i64 55) ∧ Kq k w w' := by
  have hk : k < w.heap.size := (Array.getElem?_eq_some_iff.1 hF).1
  have c0 : (w.alloc (.cells #[.int .i64 (x0 : Int), .int .i64 (x1 : Int), .int .u64 (x2 : Int), .int .i64 (x3 : Int), .int .i64 (x4 : Int), .int .u64 (x5 : Int), .int .u64 (x6 : Int), .int .u64 (x7 : Int)] 60)).cell? ⟨k, 0, none⟩ = some (.int .u64 16) := by rw [World.cell?_alloc_past _ _ _ hk, cell_of_row _ _ _ _ _ _ hF]; rfl
  have hne : ((x7 : Int) != 16) = true := bne_iff_ne.2 (by omega)
  clear hF hk
  go_enter Tryd.func23, Tryd.ntmps23
  go_wp2_with fail
  go_quiet (fail)
  go_wp2
  go_ret
  exact ⟨rfl, Kq.of (below_drewN (Below.alloc (Below.refl _ _) (Nat.le_refl _) _) _)⟩
theorem open_55b_32 (b t0 n0 : ByteArray) (k : Nat) (o : Int) (v : Value) (x0 x1 x2 x3 x4 x5 x6 : Nat) (w : World) (hF : w.heap[k]? = some (.cells (tabCells col32 o t0 n0) 72 (0, 0))) (hx6 : x6 < 18446744073709551616) (hx : x6 % 16 ≠ 0) :
    Calls Tryd.prog 23 #[.pointer (some ⟨k, 0, none⟩), .string b, v, .agg #[.int .i64 (x0 : Int), .int .i64 (x1 : Int), .int .u64 (x2 : Int), .int .i64 (x3 : Int), .int .i64 (x4 : Int), .int .u64 (x5 : Int), .int .u64 (x6 : Int), .int .u64 16]] w fun r w' => r = .returned (.int .i64 55) ∧ Kq k w w' := by
  have hk : k < w.heap.size := (Array.getElem?_eq_some_iff.1 hF).1
  have c0 : (w.alloc (.cells #[.int .i64 (x0 : Int), .int .i64 (x1 : Int), .int .u64 (x2 : Int), .int .i64 (x3 : Int), .int .i64 (x4 : Int), .int .u64 (x5 : Int), .int .u64 (x6 : Int), .int .u64 16] 60)).cell? ⟨k, 0, none⟩ = some (.int .u64 16) := by rw [World.cell?_alloc_past _ _ _ hk, cell_of_row _ _ _ _ _ _ hF]; rfl
  have h60 : (0 : Int) ≤ (x6 : Int) := Int.natCast_nonneg _
  have h61 : (x6 : Int) ≤ 18446744073709551615 := Int.ofNat_le.2 (Nat.le_of_lt_succ hx6)
  have hne : ((x6 : Int) % 16 != 0) = true := bne_iff_ne.2 (by omega)
  clear hF hk hx hx6
  go_enter Tryd.func23, Tryd.ntmps23
  go_wp2_with fail
  go_quiet (fail)
  go_wp2
  go_ret
  exact ⟨rfl, Kq.of (below_drewN (Below.alloc (Below.refl _ _) (Nat.le_refl _) _) _)⟩
set_option maxHeartbeats 1000000 in
theorem open_54a_32 (b t0 n0 : ByteArray) (k : Nat) (o : Int) (v : Value) (x0 x1 x2 x3 x4 x5 x6 : Nat) (w : World) (hF : w.heap[k]? = some (.cells (tabCells col32 o t0 n0) 72 (0, 0))) (hx6 : x6 < 18446744073709551616) (hx : x6 % 16 = 0)
    (hC : ∀ w : World, Calls Tryd.prog 43 #[.string b, .agg #[.int .i64 (x0 : Int), .int .i64 (x1 : Int), .int .u64 (x2 : Int), .int .i64 (x3 : Int), .int .i64 (x4 : Int), .int .u64 (x5 : Int), .int .u64 (x6 : Int), .int .u64 16]] w fun r w' => r = .returned (.tuple #[.string .empty, .int .i64 54]) ∧ Below w.heap.size w w') :
    Calls Tryd.prog 23 #[.pointer (some ⟨k, 0, none⟩), .string b, v, .agg #[.int .i64 (x0 : Int), .int .i64 (x1 : Int), .int .u64 (x2 : Int), .int .i64 (x3 : Int), .int .i64 (x4 : Int), .int .u64 (x5 : Int), .int .u64 (x6 : Int), .int .u64 16]] w fun r w' => r = .returned (.int .i64 54) ∧ Kq k w w' := by
  have hk : k < w.heap.size := (Array.getElem?_eq_some_iff.1 hF).1
  have c0 : (w.alloc (.cells #[.int .i64 (x0 : Int), .int .i64 (x1 : Int), .int .u64 (x2 : Int), .int .i64 (x3 : Int), .int .i64 (x4 : Int), .int .u64 (x5 : Int), .int .u64 (x6 : Int), .int .u64 16] 60)).cell? ⟨k, 0, none⟩ = some (.int .u64 16) := by rw [World.cell?_alloc_past _ _ _ hk, cell_of_row _ _ _ _ _ _ hF]; rfl
  have HC := Hid.mk' hC
  clear hC
  have h60 : (0 : Int) ≤ (x6 : Int) := Int.natCast_nonneg _
  have h61 : (x6 : Int) ≤ 18446744073709551615 := Int.ofNat_le.2 (Nat.le_of_lt_succ hx6)
  have hne : ((x6 : Int) % 16 != 0) = false := bne_eq_false_iff_eq.2 (by omega)
  have hbx : (w.alloc (.cells #[.int .i64 (x0 : Int), .int .i64 (x1 : Int), .int .u64 (x2 : Int), .int .i64 (x3 : Int), .int .i64 (x4 : Int), .int .u64 (x5 : Int), .int .u64 (x6 : Int), .int .u64 16] 60)).heap[w.heap.size]? = some (.cells #[.int .i64 (x0 : Int), .int .i64 (x1 : Int), .int .u64 (x2 : Int), .int .i64 (x3 : Int), .int .i64 (x4 : Int), .int .u64 (x5 : Int), .int .u64 (x6 : Int), .int .u64 16] 60 (0, 0)) := heap_alloc_new w _
  have hB0 : Below w.heap.size w (w.alloc (.cells #[.int .i64 (x0 : Int), .int .i64 (x1 : Int), .int .u64 (x2 : Int), .int .i64 (x3 : Int), .int .i64 (x4 : Int), .int .u64 (x5 : Int), .int .u64 (x6 : Int), .int .u64 16] 60)) := Below.alloc (Below.refl _ _) (Nat.le_refl _) _
  have hFb : (w.alloc (.cells #[.int .i64 (x0 : Int), .int .i64 (x1 : Int), .int .u64 (x2 : Int), .int .i64 (x3 : Int), .int .i64 (x4 : Int), .int .u64 (x5 : Int), .int .u64 (x6 : Int), .int .u64 16] 60)).heap[k]? = some (.cells (tabCells col32 o t0 n0) 72 (0, 0)) := (Below.heap_alloc w _ k hk).trans hF
  have hzb : (w.alloc (.cells #[.int .i64 (x0 : Int), .int .i64 (x1 : Int), .int .u64 (x2 : Int), .int .i64 (x3 : Int), .int .i64 (x4 : Int), .int .u64 (x5 : Int), .int .u64 (x6 : Int), .int .u64 16] 60)).heap.size = w.heap.size + 1 := size_alloc _ _
  clear hF hx hx6
  have HK := Hid.mk' (And.intro hbx (And.intro hB0 (And.intro hFb (And.intro hzb hk))))
  clear hbx hB0 hFb hzb hk
  go_enter Tryd.func23, Tryd.ntmps23
  go_wp2_with fail
  go_quiet (fail)
  obtain ⟨hbx, hB0, hFb, hzb, hk⟩ := HK.out
  clear HK c0 hne h60 h61
  have hB1 : Below w.heap.size w ((w.alloc (.cells #[.int .i64 (x0 : Int), .int .i64 (x1 : Int), .int .u64 (x2 : Int), .int .i64 (x3 : Int), .int .i64 (x4 : Int), .int .u64 (x5 : Int), .int .u64 (x6 : Int), .int .u64 16] 60)).drewN nq) := below_drewN hB0 _
  have hF1 : ((w.alloc (.cells #[.int .i64 (x0 : Int), .int .i64 (x1 : Int), .int .u64 (x2 : Int), .int .i64 (x3 : Int), .int .i64 (x4 : Int), .int .u64 (x5 : Int), .int .u64 (x6 : Int), .int .u64 16] 60)).drewN nq).heap[k]? = some (.cells (tabCells col32 o t0 n0) 72 (0, 0)) := hFb
  have hb1 : ((w.alloc (.cells #[.int .i64 (x0 : Int), .int .i64 (x1 : Int), .int .u64 (x2 : Int), .int .i64 (x3 : Int), .int .i64 (x4 : Int), .int .u64 (x5 : Int), .int .u64 (x6 : Int), .int .u64 16] 60)).drewN nq).heap[w.heap.size]? = some (.cells #[.int .i64 (x0 : Int), .int .i64 (x1 : Int), .int .u64 (x2 : Int), .int .i64 (x3 : Int), .int .i64 (x4 : Int), .int .u64 (x5 : Int), .int .u64 (x6 : Int), .int .u64 16] 60 (0, 0)) := hbx
  have hz1 : ((w.alloc (.cells #[.int .i64 (x0 : Int), .int .i64 (x1 : Int), .int .u64 (x2 : Int), .int .i64 (x3 : Int), .int .i64 (x4 : Int), .int .u64 (x5 : Int), .int .u64 (x6 : Int), .int .u64 16] 60)).drewN nq).heap.size = w.heap.size + 1 := hzb
  clear hB0 hFb hbx hzb
  generalize ((w.alloc (.cells #[.int .i64 (x0 : Int), .int .i64 (x1 : Int), .int .u64 (x2 : Int), .int .i64 (x3 : Int), .int .i64 (x4 : Int), .int .u64 (x5 : Int), .int .u64 (x6 : Int), .int .u64 16] 60)).drewN nq) = W at hB1 hF1 hb1 hz1 ⊢
  have HFZ : Hid (∀ w1, Below W.heap.size W w1 → w1.cell? ⟨k, 14, none⟩ = some (.string t0) ∧ w1.frozen? ⟨k, 14, none⟩ = false) := fun w1 hb => by
    have h := (hb.block k (by omega)).trans hF1
    exact ⟨(cell_of_row _ _ 14 _ _ _ h).trans rfl, frozen_of_row _ _ 14 _ _ h⟩
  go_wp2_with (first
    | (refine wpList_load_row rfl _ _ rfl w.heap.size rfl _ _ _ _ hb1 Tryd.underlying60 rfl (by kernel_rfl) ?_)
    | (go_at_call 43; refine (HC.out _).mono ?_; rintro r w1 ⟨rfl, hbc⟩; obtain ⟨c14, z14⟩ := HFZ.out w1 hbc))
  go_ret
  exact ⟨rfl, ((Kq.of hB1).trans (Kq.of (hbc.mono (Nat.le_refl _)))).set _ _⟩
set_option maxHeartbeats 1000000 in
theorem open_60a_32 (b t0 n0 t : ByteArray) (k : Nat) (o : Int) (n cp : Nat) (ao : Option Addr) (x0 x1 x2 x3 x4 x5 x6 : Nat) (w : World) (hF : w.heap[k]? = some (.cells (tabCells col32 o t0 n0) 72 (0, 0))) (hx6 : x6 < 18446744073709551616) (hx : x6 % 16 = 0) (hli : n ≤ x3)
    (hC : ∀ w : World, Calls Tryd.prog 43 #[.string b, .agg #[.int .i64 (x0 : Int), .int .i64 (x1 : Int), .int .u64 (x2 : Int), .int .i64 (x3 : Int), .int .i64 (x4 : Int), .int .u64 (x5 : Int), .int .u64 (x6 : Int), .int .u64 16]] w fun r w' => r = .returned (.tuple #[.string t, .int .i64 0]) ∧ Below w.heap.size w w') :
    Calls Tryd.prog 23 #[.pointer (some ⟨k, 0, none⟩), .string b, .slice ao n cp, .agg #[.int .i64 (x0 : Int), .int .i64 (x1 : Int), .int .u64 (x2 : Int), .int .i64 (x3 : Int), .int .i64 (x4 : Int), .int .u64 (x5 : Int), .int .u64 (x6 : Int), .int .u64 16]] w fun r w' => r = .returned (.int .i64 60) ∧ Kq k w w' := by
  have hk : k < w.heap.size := (Array.getElem?_eq_some_iff.1 hF).1
  have c0 : (w.alloc (.cells #[.int .i64 (x0 : Int), .int .i64 (x1 : Int), .int .u64 (x2 : Int), .int .i64 (x3 : Int), .int .i64 (x4 : Int), .int .u64 (x5 : Int), .int .u64 (x6 : Int), .int .u64 16] 60)).cell? ⟨k, 0, none⟩ = some (.int .u64 16) := by rw [World.cell?_alloc_past _ _ _ hk, cell_of_row _ _ _ _ _ _ hF]; rfl
  have HC := Hid.mk' hC
  have hge : (n : Int) ≤ (x3 : Int) := Int.ofNat_le.2 hli
  clear hC
  have h60 : (0 : Int) ≤ (x6 : Int) := Int.natCast_nonneg _
  have h61 : (x6 : Int) ≤ 18446744073709551615 := Int.ofNat_le.2 (Nat.le_of_lt_succ hx6)
  have hne : ((x6 : Int) % 16 != 0) = false := bne_eq_false_iff_eq.2 (by omega)
  have hbx : (w.alloc (.cells #[.int .i64 (x0 : Int), .int .i64 (x1 : Int), .int .u64 (x2 : Int), .int .i64 (x3 : Int), .int .i64 (x4 : Int), .int .u64 (x5 : Int), .int .u64 (x6 : Int), .int .u64 16] 60)).heap[w.heap.size]? = some (.cells #[.int .i64 (x0 : Int), .int .i64 (x1 : Int), .int .u64 (x2 : Int), .int .i64 (x3 : Int), .int .i64 (x4 : Int), .int .u64 (x5 : Int), .int .u64 (x6 : Int), .int .u64 16] 60 (0, 0)) := heap_alloc_new w _
  have hB0 : Below w.heap.size w (w.alloc (.cells #[.int .i64 (x0 : Int), .int .i64 (x1 : Int), .int .u64 (x2 : Int), .int .i64 (x3 : Int), .int .i64 (x4 : Int), .int .u64 (x5 : Int), .int .u64 (x6 : Int), .int .u64 16] 60)) := Below.alloc (Below.refl _ _) (Nat.le_refl _) _
  have hFb : (w.alloc (.cells #[.int .i64 (x0 : Int), .int .i64 (x1 : Int), .int .u64 (x2 : Int), .int .i64 (x3 : Int), .int .i64 (x4 : Int), .int .u64 (x5 : Int), .int .u64 (x6 : Int), .int .u64 16] 60)).heap[k]? = some (.cells (tabCells col32 o t0 n0) 72 (0, 0)) := (Below.heap_alloc w _ k hk).trans hF
  have hzb : (w.alloc (.cells #[.int .i64 (x0 : Int), .int .i64 (x1 : Int), .int .u64 (x2 : Int), .int .i64 (x3 : Int), .int .i64 (x4 : Int), .int .u64 (x5 : Int), .int .u64 (x6 : Int), .int .u64 16] 60)).heap.size = w.heap.size + 1 := size_alloc _ _
  clear hF hx hx6
  have HK := Hid.mk' (And.intro hbx (And.intro hB0 (And.intro hFb (And.intro hzb hk))))
  clear hbx hB0 hFb hzb hk
  go_enter Tryd.func23, Tryd.ntmps23
  go_wp2_with fail
  go_quiet (fail)
  obtain ⟨hbx, hB0, hFb, hzb, hk⟩ := HK.out
  clear HK c0 hne h60 h61
  have hB1 : Below w.heap.size w ((w.alloc (.cells #[.int .i64 (x0 : Int), .int .i64 (x1 : Int), .int .u64 (x2 : Int), .int .i64 (x3 : Int), .int .i64 (x4 : Int), .int .u64 (x5 : Int), .int .u64 (x6 : Int), .int .u64 16] 60)).drewN nq) := below_drewN hB0 _
  have hF1 : ((w.alloc (.cells #[.int .i64 (x0 : Int), .int .i64 (x1 : Int), .int .u64 (x2 : Int), .int .i64 (x3 : Int), .int .i64 (x4 : Int), .int .u64 (x5 : Int), .int .u64 (x6 : Int), .int .u64 16] 60)).drewN nq).heap[k]? = some (.cells (tabCells col32 o t0 n0) 72 (0, 0)) := hFb
  have hb1 : ((w.alloc (.cells #[.int .i64 (x0 : Int), .int .i64 (x1 : Int), .int .u64 (x2 : Int), .int .i64 (x3 : Int), .int .i64 (x4 : Int), .int .u64 (x5 : Int), .int .u64 (x6 : Int), .int .u64 16] 60)).drewN nq).heap[w.heap.size]? = some (.cells #[.int .i64 (x0 : Int), .int .i64 (x1 : Int), .int .u64 (x2 : Int), .int .i64 (x3 : Int), .int .i64 (x4 : Int), .int .u64 (x5 : Int), .int .u64 (x6 : Int), .int .u64 16] 60 (0, 0)) := hbx
  have hz1 : ((w.alloc (.cells #[.int .i64 (x0 : Int), .int .i64 (x1 : Int), .int .u64 (x2 : Int), .int .i64 (x3 : Int), .int .i64 (x4 : Int), .int .u64 (x5 : Int), .int .u64 (x6 : Int), .int .u64 16] 60)).drewN nq).heap.size = w.heap.size + 1 := hzb
  clear hB0 hFb hbx hzb
  generalize ((w.alloc (.cells #[.int .i64 (x0 : Int), .int .i64 (x1 : Int), .int .u64 (x2 : Int), .int .i64 (x3 : Int), .int .i64 (x4 : Int), .int .u64 (x5 : Int), .int .u64 (x6 : Int), .int .u64 16] 60)).drewN nq) = W at hB1 hF1 hb1 hz1 ⊢
  have HFZ : Hid (∀ w1, Below W.heap.size W w1 → w1.cell? ⟨k, 14, none⟩ = some (.string t0) ∧ w1.frozen? ⟨k, 14, none⟩ = false) := fun w1 hb => by
    have h := (hb.block k (by omega)).trans hF1
    exact ⟨(cell_of_row _ _ 14 _ _ _ h).trans rfl, frozen_of_row _ _ 14 _ _ h⟩
  go_wp2_with (first
    | (refine wpList_load_row rfl _ _ rfl w.heap.size rfl _ _ _ _ hb1 Tryd.underlying60 rfl (by kernel_rfl) ?_)
    | (go_at_call 43; refine (HC.out _).mono ?_; rintro r w1 ⟨rfl, hbc⟩; obtain ⟨c14, z14⟩ := HFZ.out w1 hbc; have hF2 : (w1.setCell ⟨k, 14, none⟩ (.string t)).heap[k]? = some (.cells (tabCells col32 o t n0) 72 (0, 0)) := (set_row (.string t) ((hbc.block k (by omega)).trans hF1)).trans rfl; have hb2 : (w1.setCell ⟨k, 14, none⟩ (.string t)).heap[w.heap.size]? = some (.cells #[.int .i64 (x0 : Int), .int .i64 (x1 : Int), .int .u64 (x2 : Int), .int .i64 (x3 : Int), .int .i64 (x4 : Int), .int .u64 (x5 : Int), .int .u64 (x6 : Int), .int .u64 16] 60 (0, 0)) := (Below.heap_setCell w1 _ _ _ (by show w.heap.size ≠ k; omega)).trans ((hbc.block _ (by omega)).trans hb1); have hq2 : Kq k w (w1.setCell ⟨k, 14, none⟩ (.string t)) := ((Kq.of hB1).trans (Kq.of (hbc.mono (Nat.le_refl _)))).set _ _; have hx3 : (w1.setCell ⟨k, 14, none⟩ (.string t)).cell? ⟨w.heap.size, 3, none⟩ = some (.int .i64 (x3 : Int)) := cell_of_row _ _ 3 _ _ _ hb2))
  go_ret
  exact ⟨rfl, hq2⟩
set_option maxHeartbeats 1000000 in
theorem open_60b_32 (b t0 n0 t : ByteArray) (k : Nat) (o : Int) (n cp g : Nat) (cur : Array Value) (y0 y1 y2 y3 y4 y5 y6 y7 : Nat) (x0 x1 x2 x3 x4 x5 x6 : Nat) (w : World) (hF : w.heap[k]? = some (.cells (tabCells col32 o t0 n0) 72 (0, 0))) (hx6 : x6 < 18446744073709551616) (hx : x6 % 16 = 0) (hli : x3 < n) (hn : n ≤ 26214) (hg : w.heap[g]? = some (.cells cur 60 (0, 0))) (hgk : g ≠ k) (hy : ∀ m, m < 8 → cur[x3 * 8 + m]? = (#[.int .i64 (y0 : Int), .int .i64 (y1 : Int), .int .u64 (y2 : Int), .int .i64 (y3 : Int), .int .i64 (y4 : Int), .int .u64 (y5 : Int), .int .u64 (y6 : Int), .int .u64 (y7 : Int)] : Array Value)[m]?) (h3 : y1 ≠ 3)
    (hC : ∀ w : World, Calls Tryd.prog 43 #[.string b, .agg #[.int .i64 (x0 : Int), .int .i64 (x1 : Int), .int .u64 (x2 : Int), .int .i64 (x3 : Int), .int .i64 (x4 : Int), .int .u64 (x5 : Int), .int .u64 (x6 : Int), .int .u64 16]] w fun r w' => r = .returned (.tuple #[.string t, .int .i64 0]) ∧ Below w.heap.size w w') :
    Calls Tryd.prog 23 #[.pointer (some ⟨k, 0, none⟩), .string b, .slice (some ⟨g, 0, none⟩) n cp, .agg #[.int .i64 (x0 : Int), .int .i64 (x1 : Int), .int .u64 (x2 : Int), .int .i64 (x3 : Int), .int .i64 (x4 : Int), .int .u64 (x5 : Int), .int .u64 (x6 : Int), .int .u64 16]] w fun r w' => r = .returned (.int .i64 60) ∧ Kq k w w' := by
  have hk : k < w.heap.size := (Array.getElem?_eq_some_iff.1 hF).1
  have c0 : (w.alloc (.cells #[.int .i64 (x0 : Int), .int .i64 (x1 : Int), .int .u64 (x2 : Int), .int .i64 (x3 : Int), .int .i64 (x4 : Int), .int .u64 (x5 : Int), .int .u64 (x6 : Int), .int .u64 16] 60)).cell? ⟨k, 0, none⟩ = some (.int .u64 16) := by rw [World.cell?_alloc_past _ _ _ hk, cell_of_row _ _ _ _ _ _ hF]; rfl
  have HC := Hid.mk' hC
  have hge : ¬ (n : Int) ≤ (x3 : Int) := Int.not_le.2 (Int.ofNat_lt.2 hli)
  have hlt : (x3 : Int) < (n : Int) := Int.ofNat_lt.2 hli
  have hl0 : (0 : Int) ≤ (x3 : Int) := Int.natCast_nonneg _
  have h3n : ((y1 : Int) != 3) = true := bne_iff_ne.2 (by omega)
  clear hC h3
  have h60 : (0 : Int) ≤ (x6 : Int) := Int.natCast_nonneg _
  have h61 : (x6 : Int) ≤ 18446744073709551615 := Int.ofNat_le.2 (Nat.le_of_lt_succ hx6)
  have hne : ((x6 : Int) % 16 != 0) = false := bne_eq_false_iff_eq.2 (by omega)
  have hbx : (w.alloc (.cells #[.int .i64 (x0 : Int), .int .i64 (x1 : Int), .int .u64 (x2 : Int), .int .i64 (x3 : Int), .int .i64 (x4 : Int), .int .u64 (x5 : Int), .int .u64 (x6 : Int), .int .u64 16] 60)).heap[w.heap.size]? = some (.cells #[.int .i64 (x0 : Int), .int .i64 (x1 : Int), .int .u64 (x2 : Int), .int .i64 (x3 : Int), .int .i64 (x4 : Int), .int .u64 (x5 : Int), .int .u64 (x6 : Int), .int .u64 16] 60 (0, 0)) := heap_alloc_new w _
  have hB0 : Below w.heap.size w (w.alloc (.cells #[.int .i64 (x0 : Int), .int .i64 (x1 : Int), .int .u64 (x2 : Int), .int .i64 (x3 : Int), .int .i64 (x4 : Int), .int .u64 (x5 : Int), .int .u64 (x6 : Int), .int .u64 16] 60)) := Below.alloc (Below.refl _ _) (Nat.le_refl _) _
  have hFb : (w.alloc (.cells #[.int .i64 (x0 : Int), .int .i64 (x1 : Int), .int .u64 (x2 : Int), .int .i64 (x3 : Int), .int .i64 (x4 : Int), .int .u64 (x5 : Int), .int .u64 (x6 : Int), .int .u64 16] 60)).heap[k]? = some (.cells (tabCells col32 o t0 n0) 72 (0, 0)) := (Below.heap_alloc w _ k hk).trans hF
  have hzb : (w.alloc (.cells #[.int .i64 (x0 : Int), .int .i64 (x1 : Int), .int .u64 (x2 : Int), .int .i64 (x3 : Int), .int .i64 (x4 : Int), .int .u64 (x5 : Int), .int .u64 (x6 : Int), .int .u64 16] 60)).heap.size = w.heap.size + 1 := size_alloc _ _
  clear hF hx hx6
  have HK := Hid.mk' (And.intro hbx (And.intro hB0 (And.intro hFb (And.intro hzb hk))))
  clear hbx hB0 hFb hzb hk
  go_enter Tryd.func23, Tryd.ntmps23
  go_wp2_with fail
  go_quiet (fail)
  obtain ⟨hbx, hB0, hFb, hzb, hk⟩ := HK.out
  clear HK c0 hne h60 h61
  have hB1 : Below w.heap.size w ((w.alloc (.cells #[.int .i64 (x0 : Int), .int .i64 (x1 : Int), .int .u64 (x2 : Int), .int .i64 (x3 : Int), .int .i64 (x4 : Int), .int .u64 (x5 : Int), .int .u64 (x6 : Int), .int .u64 16] 60)).drewN nq) := below_drewN hB0 _
  have hF1 : ((w.alloc (.cells #[.int .i64 (x0 : Int), .int .i64 (x1 : Int), .int .u64 (x2 : Int), .int .i64 (x3 : Int), .int .i64 (x4 : Int), .int .u64 (x5 : Int), .int .u64 (x6 : Int), .int .u64 16] 60)).drewN nq).heap[k]? = some (.cells (tabCells col32 o t0 n0) 72 (0, 0)) := hFb
  have hb1 : ((w.alloc (.cells #[.int .i64 (x0 : Int), .int .i64 (x1 : Int), .int .u64 (x2 : Int), .int .i64 (x3 : Int), .int .i64 (x4 : Int), .int .u64 (x5 : Int), .int .u64 (x6 : Int), .int .u64 16] 60)).drewN nq).heap[w.heap.size]? = some (.cells #[.int .i64 (x0 : Int), .int .i64 (x1 : Int), .int .u64 (x2 : Int), .int .i64 (x3 : Int), .int .i64 (x4 : Int), .int .u64 (x5 : Int), .int .u64 (x6 : Int), .int .u64 16] 60 (0, 0)) := hbx
  have hz1 : ((w.alloc (.cells #[.int .i64 (x0 : Int), .int .i64 (x1 : Int), .int .u64 (x2 : Int), .int .i64 (x3 : Int), .int .i64 (x4 : Int), .int .u64 (x5 : Int), .int .u64 (x6 : Int), .int .u64 16] 60)).drewN nq).heap.size = w.heap.size + 1 := hzb
  clear hB0 hFb hbx hzb
  generalize ((w.alloc (.cells #[.int .i64 (x0 : Int), .int .i64 (x1 : Int), .int .u64 (x2 : Int), .int .i64 (x3 : Int), .int .i64 (x4 : Int), .int .u64 (x5 : Int), .int .u64 (x6 : Int), .int .u64 16] 60)).drewN nq) = W at hB1 hF1 hb1 hz1 ⊢
  have HFZ : Hid (∀ w1, Below W.heap.size W w1 → w1.cell? ⟨k, 14, none⟩ = some (.string t0) ∧ w1.frozen? ⟨k, 14, none⟩ = false) := fun w1 hb => by
    have h := (hb.block k (by omega)).trans hF1
    exact ⟨(cell_of_row _ _ 14 _ _ _ h).trans rfl, frozen_of_row _ _ 14 _ _ h⟩
  go_wp2_with (first
    | (refine wpList_load_row rfl _ _ rfl w.heap.size rfl _ _ _ _ hb1 Tryd.underlying60 rfl (by kernel_rfl) ?_)
    | (go_at_call 43; refine (HC.out _).mono ?_; rintro r w1 ⟨rfl, hbc⟩; obtain ⟨c14, z14⟩ := HFZ.out w1 hbc; have hF2 : (w1.setCell ⟨k, 14, none⟩ (.string t)).heap[k]? = some (.cells (tabCells col32 o t n0) 72 (0, 0)) := (set_row (.string t) ((hbc.block k (by omega)).trans hF1)).trans rfl; have hb2 : (w1.setCell ⟨k, 14, none⟩ (.string t)).heap[w.heap.size]? = some (.cells #[.int .i64 (x0 : Int), .int .i64 (x1 : Int), .int .u64 (x2 : Int), .int .i64 (x3 : Int), .int .i64 (x4 : Int), .int .u64 (x5 : Int), .int .u64 (x6 : Int), .int .u64 16] 60 (0, 0)) := (Below.heap_setCell w1 _ _ _ (by show w.heap.size ≠ k; omega)).trans ((hbc.block _ (by omega)).trans hb1); have hq2 : Kq k w (w1.setCell ⟨k, 14, none⟩ (.string t)) := ((Kq.of hB1).trans (Kq.of (hbc.mono (Nat.le_refl _)))).set _ _; have hx3 : (w1.setCell ⟨k, 14, none⟩ (.string t)).cell? ⟨w.heap.size, 3, none⟩ = some (.int .i64 (x3 : Int)) := cell_of_row _ _ 3 _ _ _ hb2; have hg2 : (w1.setCell ⟨k, 14, none⟩ (.string t)).heap[g]? = some (.cells cur 60 (0, 0)) := (hq2.block g hgk (Array.getElem?_eq_some_iff.1 hg).1).trans hg; have a0 : (w1.setCell ⟨k, 14, none⟩ (.string t)).cell? ⟨g, x3 * 8, none⟩ = some (.int .i64 (y0 : Int)) := (cell_of_row _ _ _ _ _ _ hg2).trans (hy 0 (by omega)); have a1 : (w1.setCell ⟨k, 14, none⟩ (.string t)).cell? ⟨g, x3 * 8 + 1, none⟩ = some (.int .i64 (y1 : Int)) := (cell_of_row _ _ _ _ _ _ hg2).trans (hy 1 (by omega)); have a2 : (w1.setCell ⟨k, 14, none⟩ (.string t)).cell? ⟨g, x3 * 8 + 2, none⟩ = some (.int .u64 (y2 : Int)) := (cell_of_row _ _ _ _ _ _ hg2).trans (hy 2 (by omega)); have a3 : (w1.setCell ⟨k, 14, none⟩ (.string t)).cell? ⟨g, x3 * 8 + 3, none⟩ = some (.int .i64 (y3 : Int)) := (cell_of_row _ _ _ _ _ _ hg2).trans (hy 3 (by omega)); have a4 : (w1.setCell ⟨k, 14, none⟩ (.string t)).cell? ⟨g, x3 * 8 + 4, none⟩ = some (.int .i64 (y4 : Int)) := (cell_of_row _ _ _ _ _ _ hg2).trans (hy 4 (by omega)); have a5 : (w1.setCell ⟨k, 14, none⟩ (.string t)).cell? ⟨g, x3 * 8 + 5, none⟩ = some (.int .u64 (y5 : Int)) := (cell_of_row _ _ _ _ _ _ hg2).trans (hy 5 (by omega)); have a6 : (w1.setCell ⟨k, 14, none⟩ (.string t)).cell? ⟨g, x3 * 8 + 6, none⟩ = some (.int .u64 (y6 : Int)) := (cell_of_row _ _ _ _ _ _ hg2).trans (hy 6 (by omega)); have a7 : (w1.setCell ⟨k, 14, none⟩ (.string t)).cell? ⟨g, x3 * 8 + 7, none⟩ = some (.int .u64 (y7 : Int)) := (cell_of_row _ _ _ _ _ _ hg2).trans (hy 7 (by omega))))
  go_ret
  exact ⟨rfl, hq2⟩
set_option maxHeartbeats 1000000 in
theorem open_54b_32 (b t0 n0 t : ByteArray) (k : Nat) (o : Int) (n cp g : Nat) (cur : Array Value) (y0 y2 y3 y4 y5 y6 y7 : Nat) (x0 x1 x2 x3 x4 x5 x6 : Nat) (w : World) (hF : w.heap[k]? = some (.cells (tabCells col32 o t0 n0) 72 (0, 0))) (hx6 : x6 < 18446744073709551616) (hx : x6 % 16 = 0) (hli : x3 < n) (hn : n ≤ 26214) (hg : w.heap[g]? = some (.cells cur 60 (0, 0))) (hgk : g ≠ k) (hy : ∀ m, m < 8 → cur[x3 * 8 + m]? = (#[.int .i64 (y0 : Int), .int .i64 3, .int .u64 (y2 : Int), .int .i64 (y3 : Int), .int .i64 (y4 : Int), .int .u64 (y5 : Int), .int .u64 (y6 : Int), .int .u64 (y7 : Int)] : Array Value)[m]?)
    (hC : ∀ w : World, Calls Tryd.prog 43 #[.string b, .agg #[.int .i64 (x0 : Int), .int .i64 (x1 : Int), .int .u64 (x2 : Int), .int .i64 (x3 : Int), .int .i64 (x4 : Int), .int .u64 (x5 : Int), .int .u64 (x6 : Int), .int .u64 16]] w fun r w' => r = .returned (.tuple #[.string t, .int .i64 0]) ∧ Below w.heap.size w w')
    (hD : ∀ w : World, Calls Tryd.prog 43 #[.string b, .agg #[.int .i64 (y0 : Int), .int .i64 3, .int .u64 (y2 : Int), .int .i64 (y3 : Int), .int .i64 (y4 : Int), .int .u64 (y5 : Int), .int .u64 (y6 : Int), .int .u64 (y7 : Int)]] w fun r w' => r = .returned (.tuple #[.string .empty, .int .i64 54]) ∧ Below w.heap.size w w') :
    Calls Tryd.prog 23 #[.pointer (some ⟨k, 0, none⟩), .string b, .slice (some ⟨g, 0, none⟩) n cp, .agg #[.int .i64 (x0 : Int), .int .i64 (x1 : Int), .int .u64 (x2 : Int), .int .i64 (x3 : Int), .int .i64 (x4 : Int), .int .u64 (x5 : Int), .int .u64 (x6 : Int), .int .u64 16]] w fun r w' => r = .returned (.int .i64 54) ∧ Kq k w w' := by
  have hk : k < w.heap.size := (Array.getElem?_eq_some_iff.1 hF).1
  have c0 : (w.alloc (.cells #[.int .i64 (x0 : Int), .int .i64 (x1 : Int), .int .u64 (x2 : Int), .int .i64 (x3 : Int), .int .i64 (x4 : Int), .int .u64 (x5 : Int), .int .u64 (x6 : Int), .int .u64 16] 60)).cell? ⟨k, 0, none⟩ = some (.int .u64 16) := by rw [World.cell?_alloc_past _ _ _ hk, cell_of_row _ _ _ _ _ _ hF]; rfl
  have HC := Hid.mk' hC
  have HD := Hid.mk' hD
  have hge : ¬ (n : Int) ≤ (x3 : Int) := Int.not_le.2 (Int.ofNat_lt.2 hli)
  have hlt : (x3 : Int) < (n : Int) := Int.ofNat_lt.2 hli
  have hl0 : (0 : Int) ≤ (x3 : Int) := Int.natCast_nonneg _
  clear hC hD
  have h60 : (0 : Int) ≤ (x6 : Int) := Int.natCast_nonneg _
  have h61 : (x6 : Int) ≤ 18446744073709551615 := Int.ofNat_le.2 (Nat.le_of_lt_succ hx6)
  have hne : ((x6 : Int) % 16 != 0) = false := bne_eq_false_iff_eq.2 (by omega)
  have hbx : (w.alloc (.cells #[.int .i64 (x0 : Int), .int .i64 (x1 : Int), .int .u64 (x2 : Int), .int .i64 (x3 : Int), .int .i64 (x4 : Int), .int .u64 (x5 : Int), .int .u64 (x6 : Int), .int .u64 16] 60)).heap[w.heap.size]? = some (.cells #[.int .i64 (x0 : Int), .int .i64 (x1 : Int), .int .u64 (x2 : Int), .int .i64 (x3 : Int), .int .i64 (x4 : Int), .int .u64 (x5 : Int), .int .u64 (x6 : Int), .int .u64 16] 60 (0, 0)) := heap_alloc_new w _
  have hB0 : Below w.heap.size w (w.alloc (.cells #[.int .i64 (x0 : Int), .int .i64 (x1 : Int), .int .u64 (x2 : Int), .int .i64 (x3 : Int), .int .i64 (x4 : Int), .int .u64 (x5 : Int), .int .u64 (x6 : Int), .int .u64 16] 60)) := Below.alloc (Below.refl _ _) (Nat.le_refl _) _
  have hFb : (w.alloc (.cells #[.int .i64 (x0 : Int), .int .i64 (x1 : Int), .int .u64 (x2 : Int), .int .i64 (x3 : Int), .int .i64 (x4 : Int), .int .u64 (x5 : Int), .int .u64 (x6 : Int), .int .u64 16] 60)).heap[k]? = some (.cells (tabCells col32 o t0 n0) 72 (0, 0)) := (Below.heap_alloc w _ k hk).trans hF
  have hzb : (w.alloc (.cells #[.int .i64 (x0 : Int), .int .i64 (x1 : Int), .int .u64 (x2 : Int), .int .i64 (x3 : Int), .int .i64 (x4 : Int), .int .u64 (x5 : Int), .int .u64 (x6 : Int), .int .u64 16] 60)).heap.size = w.heap.size + 1 := size_alloc _ _
  clear hF hx hx6
  have HK := Hid.mk' (And.intro hbx (And.intro hB0 (And.intro hFb (And.intro hzb hk))))
  clear hbx hB0 hFb hzb hk
  go_enter Tryd.func23, Tryd.ntmps23
  go_wp2_with fail
  go_quiet (fail)
  obtain ⟨hbx, hB0, hFb, hzb, hk⟩ := HK.out
  clear HK c0 hne h60 h61
  have hB1 : Below w.heap.size w ((w.alloc (.cells #[.int .i64 (x0 : Int), .int .i64 (x1 : Int), .int .u64 (x2 : Int), .int .i64 (x3 : Int), .int .i64 (x4 : Int), .int .u64 (x5 : Int), .int .u64 (x6 : Int), .int .u64 16] 60)).drewN nq) := below_drewN hB0 _
  have hF1 : ((w.alloc (.cells #[.int .i64 (x0 : Int), .int .i64 (x1 : Int), .int .u64 (x2 : Int), .int .i64 (x3 : Int), .int .i64 (x4 : Int), .int .u64 (x5 : Int), .int .u64 (x6 : Int), .int .u64 16] 60)).drewN nq).heap[k]? = some (.cells (tabCells col32 o t0 n0) 72 (0, 0)) := hFb
  have hb1 : ((w.alloc (.cells #[.int .i64 (x0 : Int), .int .i64 (x1 : Int), .int .u64 (x2 : Int), .int .i64 (x3 : Int), .int .i64 (x4 : Int), .int .u64 (x5 : Int), .int .u64 (x6 : Int), .int .u64 16] 60)).drewN nq).heap[w.heap.size]? = some (.cells #[.int .i64 (x0 : Int), .int .i64 (x1 : Int), .int .u64 (x2 : Int), .int .i64 (x3 : Int), .int .i64 (x4 : Int), .int .u64 (x5 : Int), .int .u64 (x6 : Int), .int .u64 16] 60 (0, 0)) := hbx
  have hz1 : ((w.alloc (.cells #[.int .i64 (x0 : Int), .int .i64 (x1 : Int), .int .u64 (x2 : Int), .int .i64 (x3 : Int), .int .i64 (x4 : Int), .int .u64 (x5 : Int), .int .u64 (x6 : Int), .int .u64 16] 60)).drewN nq).heap.size = w.heap.size + 1 := hzb
  clear hB0 hFb hbx hzb
  generalize ((w.alloc (.cells #[.int .i64 (x0 : Int), .int .i64 (x1 : Int), .int .u64 (x2 : Int), .int .i64 (x3 : Int), .int .i64 (x4 : Int), .int .u64 (x5 : Int), .int .u64 (x6 : Int), .int .u64 16] 60)).drewN nq) = W at hB1 hF1 hb1 hz1 ⊢
  have HFZ : Hid (∀ w1, Below W.heap.size W w1 → w1.cell? ⟨k, 14, none⟩ = some (.string t0) ∧ w1.frozen? ⟨k, 14, none⟩ = false) := fun w1 hb => by
    have h := (hb.block k (by omega)).trans hF1
    exact ⟨(cell_of_row _ _ 14 _ _ _ h).trans rfl, frozen_of_row _ _ 14 _ _ h⟩
  go_wp2_with (first
    | (refine wpList_load_row rfl _ _ rfl w.heap.size rfl _ _ _ _ hb1 Tryd.underlying60 rfl (by kernel_rfl) ?_))
  go_at_call 43
  refine (HC.out _).mono ?_
  rintro r w1 ⟨rfl, hbc⟩
  obtain ⟨c14, z14⟩ := HFZ.out w1 hbc
  have hF2 : (w1.setCell ⟨k, 14, none⟩ (.string t)).heap[k]? = some (.cells (tabCells col32 o t n0) 72 (0, 0)) := (set_row (.string t) ((hbc.block k (by omega)).trans hF1)).trans rfl
  have hb2 : (w1.setCell ⟨k, 14, none⟩ (.string t)).heap[w.heap.size]? = some (.cells #[.int .i64 (x0 : Int), .int .i64 (x1 : Int), .int .u64 (x2 : Int), .int .i64 (x3 : Int), .int .i64 (x4 : Int), .int .u64 (x5 : Int), .int .u64 (x6 : Int), .int .u64 16] 60 (0, 0)) := (Below.heap_setCell w1 _ _ _ (by show w.heap.size ≠ k; omega)).trans ((hbc.block _ (by omega)).trans hb1)
  have hq2 : Kq k w (w1.setCell ⟨k, 14, none⟩ (.string t)) := ((Kq.of hB1).trans (Kq.of (hbc.mono (Nat.le_refl _)))).set _ _
  have hx3 : (w1.setCell ⟨k, 14, none⟩ (.string t)).cell? ⟨w.heap.size, 3, none⟩ = some (.int .i64 (x3 : Int)) := cell_of_row _ _ 3 _ _ _ hb2
  have hg2 : (w1.setCell ⟨k, 14, none⟩ (.string t)).heap[g]? = some (.cells cur 60 (0, 0)) := (hq2.block g hgk (Array.getElem?_eq_some_iff.1 hg).1).trans hg
  have a0 : (w1.setCell ⟨k, 14, none⟩ (.string t)).cell? ⟨g, x3 * 8, none⟩ = some (.int .i64 (y0 : Int)) := (cell_of_row _ _ _ _ _ _ hg2).trans (hy 0 (by omega))
  have a1 : (w1.setCell ⟨k, 14, none⟩ (.string t)).cell? ⟨g, x3 * 8 + 1, none⟩ = some (.int .i64 3) := (cell_of_row _ _ _ _ _ _ hg2).trans (hy 1 (by omega))
  have a2 : (w1.setCell ⟨k, 14, none⟩ (.string t)).cell? ⟨g, x3 * 8 + 2, none⟩ = some (.int .u64 (y2 : Int)) := (cell_of_row _ _ _ _ _ _ hg2).trans (hy 2 (by omega))
  have a3 : (w1.setCell ⟨k, 14, none⟩ (.string t)).cell? ⟨g, x3 * 8 + 3, none⟩ = some (.int .i64 (y3 : Int)) := (cell_of_row _ _ _ _ _ _ hg2).trans (hy 3 (by omega))
  have a4 : (w1.setCell ⟨k, 14, none⟩ (.string t)).cell? ⟨g, x3 * 8 + 4, none⟩ = some (.int .i64 (y4 : Int)) := (cell_of_row _ _ _ _ _ _ hg2).trans (hy 4 (by omega))
  have a5 : (w1.setCell ⟨k, 14, none⟩ (.string t)).cell? ⟨g, x3 * 8 + 5, none⟩ = some (.int .u64 (y5 : Int)) := (cell_of_row _ _ _ _ _ _ hg2).trans (hy 5 (by omega))
  have a6 : (w1.setCell ⟨k, 14, none⟩ (.string t)).cell? ⟨g, x3 * 8 + 6, none⟩ = some (.int .u64 (y6 : Int)) := (cell_of_row _ _ _ _ _ _ hg2).trans (hy 6 (by omega))
  have a7 : (w1.setCell ⟨k, 14, none⟩ (.string t)).cell? ⟨g, x3 * 8 + 7, none⟩ = some (.int .u64 (y7 : Int)) := (cell_of_row _ _ _ _ _ _ hg2).trans (hy 7 (by omega))
  have hra : (w1.setCell ⟨k, 14, none⟩ (.string t)).rangeAt g (x3 * 8) [.int .i64 (y0 : Int), .int .i64 3, .int .u64 (y2 : Int), .int .i64 (y3 : Int), .int .i64 (y4 : Int), .int .u64 (y5 : Int), .int .u64 (y6 : Int), .int .u64 (y7 : Int)] := fun j u hj => (cell_of_row _ _ _ _ _ _ hg2).trans ((hy j (List.getElem?_eq_some_iff.1 hj).1).trans (List.getElem?_toArray.trans hj))
  clear hF1 hz1 hbc HC HFZ hB1 hb1 hra
  go_wp2_with (first
    | (go_at_call 43; refine (HD.out _).mono ?_; rintro r w4 ⟨rfl, hbd⟩; have hF4 := (hbd.block k (Array.getElem?_eq_some_iff.1 hF2).1).trans hF2; have c15 : w4.cell? ⟨k, 15, none⟩ = some (.string n0) := (cell_of_row _ _ 15 _ _ _ hF4).trans rfl; have z15 : w4.frozen? ⟨k, 15, none⟩ = false := frozen_of_row _ _ 15 _ _ hF4))
  go_ret
  exact ⟨rfl, (hq2.trans (Kq.of hbd)).set _ _⟩
set_option maxHeartbeats 1000000 in
theorem open_ok_32 (b t0 n0 t names : ByteArray) (k : Nat) (o : Int) (n cp g : Nat) (cur : Array Value) (y0 y2 y3 y4 y5 y6 y7 : Nat) (x0 x1 x2 x3 x4 x5 x6 : Nat) (w : World) (hF : w.heap[k]? = some (.cells (tabCells col32 o t0 n0) 72 (0, 0))) (hx6 : x6 < 18446744073709551616) (hx : x6 % 16 = 0) (hli : x3 < n) (hn : n ≤ 26214) (hg : w.heap[g]? = some (.cells cur 60 (0, 0))) (hgk : g ≠ k) (hy : ∀ m, m < 8 → cur[x3 * 8 + m]? = (#[.int .i64 (y0 : Int), .int .i64 3, .int .u64 (y2 : Int), .int .i64 (y3 : Int), .int .i64 (y4 : Int), .int .u64 (y5 : Int), .int .u64 (y6 : Int), .int .u64 (y7 : Int)] : Array Value)[m]?)
    (hC : ∀ w : World, Calls Tryd.prog 43 #[.string b, .agg #[.int .i64 (x0 : Int), .int .i64 (x1 : Int), .int .u64 (x2 : Int), .int .i64 (x3 : Int), .int .i64 (x4 : Int), .int .u64 (x5 : Int), .int .u64 (x6 : Int), .int .u64 16]] w fun r w' => r = .returned (.tuple #[.string t, .int .i64 0]) ∧ Below w.heap.size w w')
    (hD : ∀ w : World, Calls Tryd.prog 43 #[.string b, .agg #[.int .i64 (y0 : Int), .int .i64 3, .int .u64 (y2 : Int), .int .i64 (y3 : Int), .int .i64 (y4 : Int), .int .u64 (y5 : Int), .int .u64 (y6 : Int), .int .u64 (y7 : Int)]] w fun r w' => r = .returned (.tuple #[.string names, .int .i64 0]) ∧ Below w.heap.size w w') :
    Calls Tryd.prog 23 #[.pointer (some ⟨k, 0, none⟩), .string b, .slice (some ⟨g, 0, none⟩) n cp, .agg #[.int .i64 (x0 : Int), .int .i64 (x1 : Int), .int .u64 (x2 : Int), .int .i64 (x3 : Int), .int .i64 (x4 : Int), .int .u64 (x5 : Int), .int .u64 (x6 : Int), .int .u64 16]] w fun r w' => r = .returned (.int .i64 0) ∧ Kq k w w' ∧ w'.heap[k]? = some (.cells (tabCells col32 o t names) 72 (0, 0)) := by
  have hk : k < w.heap.size := (Array.getElem?_eq_some_iff.1 hF).1
  have c0 : (w.alloc (.cells #[.int .i64 (x0 : Int), .int .i64 (x1 : Int), .int .u64 (x2 : Int), .int .i64 (x3 : Int), .int .i64 (x4 : Int), .int .u64 (x5 : Int), .int .u64 (x6 : Int), .int .u64 16] 60)).cell? ⟨k, 0, none⟩ = some (.int .u64 16) := by rw [World.cell?_alloc_past _ _ _ hk, cell_of_row _ _ _ _ _ _ hF]; rfl
  have HC := Hid.mk' hC
  have HD := Hid.mk' hD
  have hge : ¬ (n : Int) ≤ (x3 : Int) := Int.not_le.2 (Int.ofNat_lt.2 hli)
  have hlt : (x3 : Int) < (n : Int) := Int.ofNat_lt.2 hli
  have hl0 : (0 : Int) ≤ (x3 : Int) := Int.natCast_nonneg _
  clear hC hD
  have h60 : (0 : Int) ≤ (x6 : Int) := Int.natCast_nonneg _
  have h61 : (x6 : Int) ≤ 18446744073709551615 := Int.ofNat_le.2 (Nat.le_of_lt_succ hx6)
  have hne : ((x6 : Int) % 16 != 0) = false := bne_eq_false_iff_eq.2 (by omega)
  have hbx : (w.alloc (.cells #[.int .i64 (x0 : Int), .int .i64 (x1 : Int), .int .u64 (x2 : Int), .int .i64 (x3 : Int), .int .i64 (x4 : Int), .int .u64 (x5 : Int), .int .u64 (x6 : Int), .int .u64 16] 60)).heap[w.heap.size]? = some (.cells #[.int .i64 (x0 : Int), .int .i64 (x1 : Int), .int .u64 (x2 : Int), .int .i64 (x3 : Int), .int .i64 (x4 : Int), .int .u64 (x5 : Int), .int .u64 (x6 : Int), .int .u64 16] 60 (0, 0)) := heap_alloc_new w _
  have hB0 : Below w.heap.size w (w.alloc (.cells #[.int .i64 (x0 : Int), .int .i64 (x1 : Int), .int .u64 (x2 : Int), .int .i64 (x3 : Int), .int .i64 (x4 : Int), .int .u64 (x5 : Int), .int .u64 (x6 : Int), .int .u64 16] 60)) := Below.alloc (Below.refl _ _) (Nat.le_refl _) _
  have hFb : (w.alloc (.cells #[.int .i64 (x0 : Int), .int .i64 (x1 : Int), .int .u64 (x2 : Int), .int .i64 (x3 : Int), .int .i64 (x4 : Int), .int .u64 (x5 : Int), .int .u64 (x6 : Int), .int .u64 16] 60)).heap[k]? = some (.cells (tabCells col32 o t0 n0) 72 (0, 0)) := (Below.heap_alloc w _ k hk).trans hF
  have hzb : (w.alloc (.cells #[.int .i64 (x0 : Int), .int .i64 (x1 : Int), .int .u64 (x2 : Int), .int .i64 (x3 : Int), .int .i64 (x4 : Int), .int .u64 (x5 : Int), .int .u64 (x6 : Int), .int .u64 16] 60)).heap.size = w.heap.size + 1 := size_alloc _ _
  clear hF hx hx6
  have HK := Hid.mk' (And.intro hbx (And.intro hB0 (And.intro hFb (And.intro hzb hk))))
  clear hbx hB0 hFb hzb hk
  go_enter Tryd.func23, Tryd.ntmps23
  go_wp2_with fail
  go_quiet (fail)
  obtain ⟨hbx, hB0, hFb, hzb, hk⟩ := HK.out
  clear HK c0 hne h60 h61
  have hB1 : Below w.heap.size w ((w.alloc (.cells #[.int .i64 (x0 : Int), .int .i64 (x1 : Int), .int .u64 (x2 : Int), .int .i64 (x3 : Int), .int .i64 (x4 : Int), .int .u64 (x5 : Int), .int .u64 (x6 : Int), .int .u64 16] 60)).drewN nq) := below_drewN hB0 _
  have hF1 : ((w.alloc (.cells #[.int .i64 (x0 : Int), .int .i64 (x1 : Int), .int .u64 (x2 : Int), .int .i64 (x3 : Int), .int .i64 (x4 : Int), .int .u64 (x5 : Int), .int .u64 (x6 : Int), .int .u64 16] 60)).drewN nq).heap[k]? = some (.cells (tabCells col32 o t0 n0) 72 (0, 0)) := hFb
  have hb1 : ((w.alloc (.cells #[.int .i64 (x0 : Int), .int .i64 (x1 : Int), .int .u64 (x2 : Int), .int .i64 (x3 : Int), .int .i64 (x4 : Int), .int .u64 (x5 : Int), .int .u64 (x6 : Int), .int .u64 16] 60)).drewN nq).heap[w.heap.size]? = some (.cells #[.int .i64 (x0 : Int), .int .i64 (x1 : Int), .int .u64 (x2 : Int), .int .i64 (x3 : Int), .int .i64 (x4 : Int), .int .u64 (x5 : Int), .int .u64 (x6 : Int), .int .u64 16] 60 (0, 0)) := hbx
  have hz1 : ((w.alloc (.cells #[.int .i64 (x0 : Int), .int .i64 (x1 : Int), .int .u64 (x2 : Int), .int .i64 (x3 : Int), .int .i64 (x4 : Int), .int .u64 (x5 : Int), .int .u64 (x6 : Int), .int .u64 16] 60)).drewN nq).heap.size = w.heap.size + 1 := hzb
  clear hB0 hFb hbx hzb
  generalize ((w.alloc (.cells #[.int .i64 (x0 : Int), .int .i64 (x1 : Int), .int .u64 (x2 : Int), .int .i64 (x3 : Int), .int .i64 (x4 : Int), .int .u64 (x5 : Int), .int .u64 (x6 : Int), .int .u64 16] 60)).drewN nq) = W at hB1 hF1 hb1 hz1 ⊢
  have HFZ : Hid (∀ w1, Below W.heap.size W w1 → w1.cell? ⟨k, 14, none⟩ = some (.string t0) ∧ w1.frozen? ⟨k, 14, none⟩ = false) := fun w1 hb => by
    have h := (hb.block k (by omega)).trans hF1
    exact ⟨(cell_of_row _ _ 14 _ _ _ h).trans rfl, frozen_of_row _ _ 14 _ _ h⟩
  go_wp2_with (first
    | (refine wpList_load_row rfl _ _ rfl w.heap.size rfl _ _ _ _ hb1 Tryd.underlying60 rfl (by kernel_rfl) ?_))
  go_at_call 43
  refine (HC.out _).mono ?_
  rintro r w1 ⟨rfl, hbc⟩
  obtain ⟨c14, z14⟩ := HFZ.out w1 hbc
  have hF2 : (w1.setCell ⟨k, 14, none⟩ (.string t)).heap[k]? = some (.cells (tabCells col32 o t n0) 72 (0, 0)) := (set_row (.string t) ((hbc.block k (by omega)).trans hF1)).trans rfl
  have hb2 : (w1.setCell ⟨k, 14, none⟩ (.string t)).heap[w.heap.size]? = some (.cells #[.int .i64 (x0 : Int), .int .i64 (x1 : Int), .int .u64 (x2 : Int), .int .i64 (x3 : Int), .int .i64 (x4 : Int), .int .u64 (x5 : Int), .int .u64 (x6 : Int), .int .u64 16] 60 (0, 0)) := (Below.heap_setCell w1 _ _ _ (by show w.heap.size ≠ k; omega)).trans ((hbc.block _ (by omega)).trans hb1)
  have hq2 : Kq k w (w1.setCell ⟨k, 14, none⟩ (.string t)) := ((Kq.of hB1).trans (Kq.of (hbc.mono (Nat.le_refl _)))).set _ _
  have hx3 : (w1.setCell ⟨k, 14, none⟩ (.string t)).cell? ⟨w.heap.size, 3, none⟩ = some (.int .i64 (x3 : Int)) := cell_of_row _ _ 3 _ _ _ hb2
  have hg2 : (w1.setCell ⟨k, 14, none⟩ (.string t)).heap[g]? = some (.cells cur 60 (0, 0)) := (hq2.block g hgk (Array.getElem?_eq_some_iff.1 hg).1).trans hg
  have a0 : (w1.setCell ⟨k, 14, none⟩ (.string t)).cell? ⟨g, x3 * 8, none⟩ = some (.int .i64 (y0 : Int)) := (cell_of_row _ _ _ _ _ _ hg2).trans (hy 0 (by omega))
  have a1 : (w1.setCell ⟨k, 14, none⟩ (.string t)).cell? ⟨g, x3 * 8 + 1, none⟩ = some (.int .i64 3) := (cell_of_row _ _ _ _ _ _ hg2).trans (hy 1 (by omega))
  have a2 : (w1.setCell ⟨k, 14, none⟩ (.string t)).cell? ⟨g, x3 * 8 + 2, none⟩ = some (.int .u64 (y2 : Int)) := (cell_of_row _ _ _ _ _ _ hg2).trans (hy 2 (by omega))
  have a3 : (w1.setCell ⟨k, 14, none⟩ (.string t)).cell? ⟨g, x3 * 8 + 3, none⟩ = some (.int .i64 (y3 : Int)) := (cell_of_row _ _ _ _ _ _ hg2).trans (hy 3 (by omega))
  have a4 : (w1.setCell ⟨k, 14, none⟩ (.string t)).cell? ⟨g, x3 * 8 + 4, none⟩ = some (.int .i64 (y4 : Int)) := (cell_of_row _ _ _ _ _ _ hg2).trans (hy 4 (by omega))
  have a5 : (w1.setCell ⟨k, 14, none⟩ (.string t)).cell? ⟨g, x3 * 8 + 5, none⟩ = some (.int .u64 (y5 : Int)) := (cell_of_row _ _ _ _ _ _ hg2).trans (hy 5 (by omega))
  have a6 : (w1.setCell ⟨k, 14, none⟩ (.string t)).cell? ⟨g, x3 * 8 + 6, none⟩ = some (.int .u64 (y6 : Int)) := (cell_of_row _ _ _ _ _ _ hg2).trans (hy 6 (by omega))
  have a7 : (w1.setCell ⟨k, 14, none⟩ (.string t)).cell? ⟨g, x3 * 8 + 7, none⟩ = some (.int .u64 (y7 : Int)) := (cell_of_row _ _ _ _ _ _ hg2).trans (hy 7 (by omega))
  have hra : (w1.setCell ⟨k, 14, none⟩ (.string t)).rangeAt g (x3 * 8) [.int .i64 (y0 : Int), .int .i64 3, .int .u64 (y2 : Int), .int .i64 (y3 : Int), .int .i64 (y4 : Int), .int .u64 (y5 : Int), .int .u64 (y6 : Int), .int .u64 (y7 : Int)] := fun j u hj => (cell_of_row _ _ _ _ _ _ hg2).trans ((hy j (List.getElem?_eq_some_iff.1 hj).1).trans (List.getElem?_toArray.trans hj))
  clear hF1 hz1 hbc HC HFZ hB1 hb1 hra
  go_wp2_with (first
    | (go_at_call 43; refine (HD.out _).mono ?_; rintro r w4 ⟨rfl, hbd⟩; have hF4 := (hbd.block k (Array.getElem?_eq_some_iff.1 hF2).1).trans hF2; have c15 : w4.cell? ⟨k, 15, none⟩ = some (.string n0) := (cell_of_row _ _ 15 _ _ _ hF4).trans rfl; have z15 : w4.frozen? ⟨k, 15, none⟩ = false := frozen_of_row _ _ 15 _ _ hF4))
  go_ret
  exact ⟨rfl, (hq2.trans (Kq.of hbd)).set _ _, (set_row _ hF4).trans rfl⟩
end Go.Proofs.YtkmehjikllilaaaDoor
