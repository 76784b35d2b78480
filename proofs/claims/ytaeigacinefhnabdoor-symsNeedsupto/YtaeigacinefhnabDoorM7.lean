import Derived.Test.YtaeigacinefhnabDoorM3
import Derived.Test.YtaeigacinefhnabDoorM5
import Derived.Deep.QuietTactic
import Derived.Test.YtaeigacinefhnabDoorM1

-- syms: opening a symbol table, class 32: contracts.
namespace Go.Proofs.YtaeigacinefhnabDoor
open Go.ChangeShapes Go.WideShapes Go.ChangeAt Go.RowKit
set_option linter.unusedVariables false
set_option maxRecDepth 100000
theorem open_55a_32 (b t0 n0 : ByteArray) (k : Nat) (o : Int) (v : Value) (x0 x1 x2 x3 x4 x5 x6 x7 : Nat) (w : World) (hF : w.heap[k]? = some (.cells (tabCells col32 o t0 n0) 75 (0, 0))) (hx : x7 ≠ 16) :
    Calls Tryd.prog 36 #[.pointer (some ⟨k, 0, none⟩), .string b, v, .agg #[.int .i64 (x0 : Int), .int .i64 (x1 : Int), .int .u64 (x2 : Int), .int .i64 (x3 : Int), .int .i64 (x4 : Int), .int .u64 (x5 : Int), .int .u64 (x6 : Int), .int .u64 (x7 : Int)]] w fun r w' => r = .returned (.int .i64 55) ∧ Kq k w w' := by
  have hk : k < w.heap.size := (Array.getElem?_eq_some_iff.1 hF).1
  have c0 : (w.alloc (.cells #[.int .i64 (x0 : Int), .int .i64 (x1 : Int), .int .u64 (x2 : Int), .int .i64 (x3 : Int), .int .i64 (x4 : Int), .int .u64 (x5 : Int), .int .u64 (x6 : Int), .int .u64 (x7 : Int)] 77)).cell? ⟨k, 0, none⟩ = some (.int .u64 16) := by rw [World.cell?_alloc_past _ _ _ hk, cell_of_row _ _ _ _ _ _ hF]; rfl
  have hne : ((x7 : Int) != 16) = true := bne_iff_ne.2 (by omega)
  clear hF hk
  go_enter Tryd.func36, Tryd.ntmps36
  go_wp2_with fail
  go_quiet (fail)
  go_wp2
  go_ret
  exact ⟨rfl, Kq.of (below_drewN (Below.alloc (Below.refl _ _) (Nat.le_refl _) _) _)⟩
theorem open_55b_32 (b t0 n0 : ByteArray) (k : Nat) (o : Int) (v : Value) (x0 x1 x2 x3 x4 x5 x6 : Nat) (w : World) (hF : w.heap[k]? = some (.cells (tabCells col32 o t0 n0) 75 (0, 0))) (hx6 : x6 < 18446744073709551616) (hx : x6 % 16 ≠ 0) :
    Calls Tryd.prog 36 #[.pointer (some ⟨k, 0, none⟩), .string b, v, .agg #[.int .i64 (x0 : Int), .int .i64 (x1 : Int), .int .u64 (x2 : Int), .int .i64 (x3 : Int), .int .i64 (x4 : Int), .int .u64 (x5 : Int), .int .u64 (x6 : Int), .int .u64 16]] w fun r w' => r = .returned (.int .i64 55) ∧ Kq k w w' := by
  have hk : k < w.heap.size := (Array.getElem?_eq_some_iff.1 hF).1
  have c0 : (w.alloc (.cells #[.int .i64 (x0 : Int), .int .i64 (x1 : Int), .int .u64 (x2 : Int), .int .i64 (x3 : Int), .int .i64 (x4 : Int), .int .u64 (x5 : Int), .int .u64 (x6 : Int), .int .u64 16] 77)).cell? ⟨k, 0, none⟩ = some (.int .u64 16) := by rw [World.cell?_alloc_past _ _ _ hk, cell_of_row _ _ _ _ _ _ hF]; rfl
  have h60 : (0 : Int) ≤ (x6 : Int) := Int.natCast_nonneg _
  have h61 : (x6 : Int) ≤ 18446744073709551615 := Int.ofNat_le.2 (Nat.le_of_lt_succ hx6)
  have hne : ((x6 : Int) % 16 != 0) = true := bne_iff_ne.2 (by omega)
  clear hF hk hx hx6
  go_enter Tryd.func36, Tryd.ntmps36
  go_wp2_with fail
  go_quiet (fail)
  go_wp2
  go_ret
  exact ⟨rfl, Kq.of (below_drewN (Below.alloc (Below.refl _ _) (Nat.le_refl _) _) _)⟩
set_option maxHeartbeats 1000000 in
theorem open_54a_32 (b t0 n0 : ByteArray) (k : Nat) (o : Int) (v : Value) (x0 x1 x2 x3 x4 x5 x6 : Nat) (w : World) (hF : w.heap[k]? = some (.cells (tabCells col32 o t0 n0) 75 (0, 0))) (hx6 : x6 < 18446744073709551616) (hx : x6 % 16 = 0)
    (hC : ∀ w : World, Calls Tryd.prog 58 #[.string b, .agg #[.int .i64 (x0 : Int), .int .i64 (x1 : Int), .int .u64 (x2 : Int), .int .i64 (x3 : Int), .int .i64 (x4 : Int), .int .u64 (x5 : Int), .int .u64 (x6 : Int), .int .u64 16]] w fun r w' => r = .returned (.tuple #[.string .empty, .int .i64 54]) ∧ Below w.heap.size w w') :
    Calls Tryd.prog 36 #[.pointer (some ⟨k, 0, none⟩), .string b, v, .agg #[.int .i64 (x0 : Int), .int .i64 (x1 : Int), .int .u64 (x2 : Int), .int .i64 (x3 : Int), .int .i64 (x4 : Int), .int .u64 (x5 : Int), .int .u64 (x6 : Int), .int .u64 16]] w fun r w' => r = .returned (.int .i64 54) ∧ Kq k w w' := by
  have hk : k < w.heap.size := (Array.getElem?_eq_some_iff.1 hF).1
  have c0 : (w.alloc (.cells #[.int .i64 (x0 : Int), .int .i64 (x1 : Int), .int .u64 (x2 : Int), .int .i64 (x3 : Int), .int .i64 (x4 : Int), .int .u64 (x5 : Int), .int .u64 (x6 : Int), .int .u64 16] 77)).cell? ⟨k, 0, none⟩ = some (.int .u64 16) := by rw [World.cell?_alloc_past _ _ _ hk, cell_of_row _ _ _ _ _ _ hF]; rfl
  have HC := Hid.mk' hC
  clear hC
  have h60 : (0 : Int) ≤ (x6 : Int) := Int.natCast_nonneg _
  have h61 : (x6 : Int) ≤ 18446744073709551615 := Int.ofNat_le.2 (Nat.le_of_lt_succ hx6)
  have hne : ((x6 : Int) % 16 != 0) = false := bne_eq_false_iff_eq.2 (by omega)
  have hbx : (w.alloc (.cells #[.int .i64 (x0 : Int), .int .i64 (x1 : Int), .int .u64 (x2 : Int), .int .i64 (x3 : Int), .int .i64 (x4 : Int), .int .u64 (x5 : Int), .int .u64 (x6 : Int), .int .u64 16] 77)).heap[w.heap.size]? = some (.cells #[.int .i64 (x0 : Int), .int .i64 (x1 : Int), .int .u64 (x2 : Int), .int .i64 (x3 : Int), .int .i64 (x4 : Int), .int .u64 (x5 : Int), .int .u64 (x6 : Int), .int .u64 16] 77 (0, 0)) := heap_alloc_new w _
  have hB0 : Below w.heap.size w (w.alloc (.cells #[.int .i64 (x0 : Int), .int .i64 (x1 : Int), .int .u64 (x2 : Int), .int .i64 (x3 : Int), .int .i64 (x4 : Int), .int .u64 (x5 : Int), .int .u64 (x6 : Int), .int .u64 16] 77)) := Below.alloc (Below.refl _ _) (Nat.le_refl _) _
  have hFb : (w.alloc (.cells #[.int .i64 (x0 : Int), .int .i64 (x1 : Int), .int .u64 (x2 : Int), .int .i64 (x3 : Int), .int .i64 (x4 : Int), .int .u64 (x5 : Int), .int .u64 (x6 : Int), .int .u64 16] 77)).heap[k]? = some (.cells (tabCells col32 o t0 n0) 75 (0, 0)) := (Below.heap_alloc w _ k hk).trans hF
  have hzb : (w.alloc (.cells #[.int .i64 (x0 : Int), .int .i64 (x1 : Int), .int .u64 (x2 : Int), .int .i64 (x3 : Int), .int .i64 (x4 : Int), .int .u64 (x5 : Int), .int .u64 (x6 : Int), .int .u64 16] 77)).heap.size = w.heap.size + 1 := size_alloc _ _
  clear hF hx hx6
  have HK := Hid.mk' (And.intro hbx (And.intro hB0 (And.intro hFb (And.intro hzb hk))))
  clear hbx hB0 hFb hzb hk
  go_enter Tryd.func36, Tryd.ntmps36
  go_wp2_with fail
  go_quiet (fail)
  obtain ⟨hbx, hB0, hFb, hzb, hk⟩ := HK.out
  clear HK c0 hne h60 h61
  have hB1 : Below w.heap.size w ((w.alloc (.cells #[.int .i64 (x0 : Int), .int .i64 (x1 : Int), .int .u64 (x2 : Int), .int .i64 (x3 : Int), .int .i64 (x4 : Int), .int .u64 (x5 : Int), .int .u64 (x6 : Int), .int .u64 16] 77)).drewN nq) := below_drewN hB0 _
  have hF1 : ((w.alloc (.cells #[.int .i64 (x0 : Int), .int .i64 (x1 : Int), .int .u64 (x2 : Int), .int .i64 (x3 : Int), .int .i64 (x4 : Int), .int .u64 (x5 : Int), .int .u64 (x6 : Int), .int .u64 16] 77)).drewN nq).heap[k]? = some (.cells (tabCells col32 o t0 n0) 75 (0, 0)) := hFb
  have hb1 : ((w.alloc (.cells #[.int .i64 (x0 : Int), .int .i64 (x1 : Int), .int .u64 (x2 : Int), .int .i64 (x3 : Int), .int .i64 (x4 : Int), .int .u64 (x5 : Int), .int .u64 (x6 : Int), .int .u64 16] 77)).drewN nq).heap[w.heap.size]? = some (.cells #[.int .i64 (x0 : Int), .int .i64 (x1 : Int), .int .u64 (x2 : Int), .int .i64 (x3 : Int), .int .i64 (x4 : Int), .int .u64 (x5 : Int), .int .u64 (x6 : Int), .int .u64 16] 77 (0, 0)) := hbx
  have hz1 : ((w.alloc (.cells #[.int .i64 (x0 : Int), .int .i64 (x1 : Int), .int .u64 (x2 : Int), .int .i64 (x3 : Int), .int .i64 (x4 : Int), .int .u64 (x5 : Int), .int .u64 (x6 : Int), .int .u64 16] 77)).drewN nq).heap.size = w.heap.size + 1 := hzb
  clear hB0 hFb hbx hzb
  generalize ((w.alloc (.cells #[.int .i64 (x0 : Int), .int .i64 (x1 : Int), .int .u64 (x2 : Int), .int .i64 (x3 : Int), .int .i64 (x4 : Int), .int .u64 (x5 : Int), .int .u64 (x6 : Int), .int .u64 16] 77)).drewN nq) = W at hB1 hF1 hb1 hz1 ⊢
  have HFZ : Hid (∀ w1, Below W.heap.size W w1 → w1.cell? ⟨k, 14, none⟩ = some (.string t0) ∧ w1.frozen? ⟨k, 14, none⟩ = false) := fun w1 hb => by
    have h := (hb.block k (by omega)).trans hF1
    exact ⟨(cell_of_row _ _ 14 _ _ _ h).trans rfl, frozen_of_row _ _ 14 _ _ h⟩
  go_wp2_with (first
    | (refine wpList_load_row rfl _ _ rfl w.heap.size rfl _ _ _ _ hb1 Tryd.underlying77 rfl (by kernel_rfl) ?_)
    | (go_at_call 58; refine (HC.out _).mono ?_; rintro r w1 ⟨rfl, hbc⟩; obtain ⟨c14, z14⟩ := HFZ.out w1 hbc))
  go_ret
  exact ⟨rfl, ((Kq.of hB1).trans (Kq.of (hbc.mono (Nat.le_refl _)))).set _ _⟩
set_option maxHeartbeats 1000000 in
theorem open_60a_32 (b t0 n0 t : ByteArray) (k : Nat) (o : Int) (n cp : Nat) (ao : Option Addr) (x0 x1 x2 x3 x4 x5 x6 : Nat) (w : World) (hF : w.heap[k]? = some (.cells (tabCells col32 o t0 n0) 75 (0, 0))) (hx6 : x6 < 18446744073709551616) (hx : x6 % 16 = 0) (hli : n ≤ x3)
    (hC : ∀ w : World, Calls Tryd.prog 58 #[.string b, .agg #[.int .i64 (x0 : Int), .int .i64 (x1 : Int), .int .u64 (x2 : Int), .int .i64 (x3 : Int), .int .i64 (x4 : Int), .int .u64 (x5 : Int), .int .u64 (x6 : Int), .int .u64 16]] w fun r w' => r = .returned (.tuple #[.string t, .int .i64 0]) ∧ Below w.heap.size w w') :
    Calls Tryd.prog 36 #[.pointer (some ⟨k, 0, none⟩), .string b, .slice ao n cp, .agg #[.int .i64 (x0 : Int), .int .i64 (x1 : Int), .int .u64 (x2 : Int), .int .i64 (x3 : Int), .int .i64 (x4 : Int), .int .u64 (x5 : Int), .int .u64 (x6 : Int), .int .u64 16]] w fun r w' => r = .returned (.int .i64 60) ∧ Kq k w w' := by
  have hk : k < w.heap.size := (Array.getElem?_eq_some_iff.1 hF).1
  have c0 : (w.alloc (.cells #[.int .i64 (x0 : Int), .int .i64 (x1 : Int), .int .u64 (x2 : Int), .int .i64 (x3 : Int), .int .i64 (x4 : Int), .int .u64 (x5 : Int), .int .u64 (x6 : Int), .int .u64 16] 77)).cell? ⟨k, 0, none⟩ = some (.int .u64 16) := by rw [World.cell?_alloc_past _ _ _ hk, cell_of_row _ _ _ _ _ _ hF]; rfl
  have HC := Hid.mk' hC
  have hge : (n : Int) ≤ (x3 : Int) := Int.ofNat_le.2 hli
  clear hC
  have h60 : (0 : Int) ≤ (x6 : Int) := Int.natCast_nonneg _
  have h61 : (x6 : Int) ≤ 18446744073709551615 := Int.ofNat_le.2 (Nat.le_of_lt_succ hx6)
  have hne : ((x6 : Int) % 16 != 0) = false := bne_eq_false_iff_eq.2 (by omega)
  have hbx : (w.alloc (.cells #[.int .i64 (x0 : Int), .int .i64 (x1 : Int), .int .u64 (x2 : Int), .int .i64 (x3 : Int), .int .i64 (x4 : Int), .int .u64 (x5 : Int), .int .u64 (x6 : Int), .int .u64 16] 77)).heap[w.heap.size]? = some (.cells #[.int .i64 (x0 : Int), .int .i64 (x1 : Int), .int .u64 (x2 : Int), .int .i64 (x3 : Int), .int .i64 (x4 : Int), .int .u64 (x5 : Int), .int .u64 (x6 : Int), .int .u64 16] 77 (0, 0)) := heap_alloc_new w _
  have hB0 : Below w.heap.size w (w.alloc (.cells #[.int .i64 (x0 : Int), .int .i64 (x1 : Int), .int .u64 (x2 : Int), .int .i64 (x3 : Int), .int .i64 (x4 : Int), .int .u64 (x5 : Int), .int .u64 (x6 : Int), .int .u64 16] 77)) := Below.alloc (Below.refl _ _) (Nat.le_refl _) _
  have hFb : (w.alloc (.cells #[.int .i64 (x0 : Int), .int .i64 (x1 : Int), .int .u64 (x2 : Int), .int .i64 (x3 : Int), .int .i64 (x4 : Int), .int .u64 (x5 : Int), .int .u64 (x6 : Int), .int .u64 16] 77)).heap[k]? = some (.cells (tabCells col32 o t0 n0) 75 (0, 0)) := (Below.heap_alloc w _ k hk).trans hF
  have hzb : (w.alloc (.cells #[.int .i64 (x0 : Int), .int .i64 (x1 : Int), .int .u64 (x2 : Int), .int .i64 (x3 : Int), .int .i64 (x4 : Int), .int .u64 (x5 : Int), .int .u64 (x6 : Int), .int .u64 16] 77)).heap.size = w.heap.size + 1 := size_alloc _ _
  clear hF hx hx6
  have HK := Hid.mk' (And.intro hbx (And.intro hB0 (And.intro hFb (And.intro hzb hk))))
  clear hbx hB0 hFb hzb hk
  go_enter Tryd.func36, Tryd.ntmps36
  go_wp2_with fail
  go_quiet (fail)
  obtain ⟨hbx, hB0, hFb, hzb, hk⟩ := HK.out
  clear HK c0 hne h60 h61
  have hB1 : Below w.heap.size w ((w.alloc (.cells #[.int .i64 (x0 : Int), .int .i64 (x1 : Int), .int .u64 (x2 : Int), .int .i64 (x3 : Int), .int .i64 (x4 : Int), .int .u64 (x5 : Int), .int .u64 (x6 : Int), .int .u64 16] 77)).drewN nq) := below_drewN hB0 _
  have hF1 : ((w.alloc (.cells #[.int .i64 (x0 : Int), .int .i64 (x1 : Int), .int .u64 (x2 : Int), .int .i64 (x3 : Int), .int .i64 (x4 : Int), .int .u64 (x5 : Int), .int .u64 (x6 : Int), .int .u64 16] 77)).drewN nq).heap[k]? = some (.cells (tabCells col32 o t0 n0) 75 (0, 0)) := hFb
  have hb1 : ((w.alloc (.cells #[.int .i64 (x0 : Int), .int .i64 (x1 : Int), .int .u64 (x2 : Int), .int .i64 (x3 : Int), .int .i64 (x4 : Int), .int .u64 (x5 : Int), .int .u64 (x6 : Int), .int .u64 16] 77)).drewN nq).heap[w.heap.size]? = some (.cells #[.int .i64 (x0 : Int), .int .i64 (x1 : Int), .int .u64 (x2 : Int), .int .i64 (x3 : Int), .int .i64 (x4 : Int), .int .u64 (x5 : Int), .int .u64 (x6 : Int), .int .u64 16] 77 (0, 0)) := hbx
  have hz1 : ((w.alloc (.cells #[.int .i64 (x0 : Int), .int .i64 (x1 : Int), .int .u64 (x2 : Int), .int .i64 (x3 : Int), .int .i64 (x4 : Int), .int .u64 (x5 : Int), .int .u64 (x6 : Int), .int .u64 16] 77)).drewN nq).heap.size = w.heap.size + 1 := hzb
  clear hB0 hFb hbx hzb
  generalize ((w.alloc (.cells #[.int .i64 (x0 : Int), .int .i64 (x1 : Int), .int .u64 (x2 : Int), .int .i64 (x3 : Int), .int .i64 (x4 : Int), .int .u64 (x5 : Int), .int .u64 (x6 : Int), .int .u64 16] 77)).drewN nq) = W at hB1 hF1 hb1 hz1 ⊢
  have HFZ : Hid (∀ w1, Below W.heap.size W w1 → w1.cell? ⟨k, 14, none⟩ = some (.string t0) ∧ w1.frozen? ⟨k, 14, none⟩ = false) := fun w1 hb => by
    have h := (hb.block k (by omega)).trans hF1
    exact ⟨(cell_of_row _ _ 14 _ _ _ h).trans rfl, frozen_of_row _ _ 14 _ _ h⟩
  go_wp2_with (first
    | (refine wpList_load_row rfl _ _ rfl w.heap.size rfl _ _ _ _ hb1 Tryd.underlying77 rfl (by kernel_rfl) ?_)
    | (go_at_call 58; refine (HC.out _).mono ?_; rintro r w1 ⟨rfl, hbc⟩; obtain ⟨c14, z14⟩ := HFZ.out w1 hbc; have hF2 : (w1.setCell ⟨k, 14, none⟩ (.string t)).heap[k]? = some (.cells (tabCells col32 o t n0) 75 (0, 0)) := (set_row (.string t) ((hbc.block k (by omega)).trans hF1)).trans rfl; have hb2 : (w1.setCell ⟨k, 14, none⟩ (.string t)).heap[w.heap.size]? = some (.cells #[.int .i64 (x0 : Int), .int .i64 (x1 : Int), .int .u64 (x2 : Int), .int .i64 (x3 : Int), .int .i64 (x4 : Int), .int .u64 (x5 : Int), .int .u64 (x6 : Int), .int .u64 16] 77 (0, 0)) := (Below.heap_setCell w1 _ _ _ (by show w.heap.size ≠ k; omega)).trans ((hbc.block _ (by omega)).trans hb1); have hq2 : Kq k w (w1.setCell ⟨k, 14, none⟩ (.string t)) := ((Kq.of hB1).trans (Kq.of (hbc.mono (Nat.le_refl _)))).set _ _; have hx3 : (w1.setCell ⟨k, 14, none⟩ (.string t)).cell? ⟨w.heap.size, 3, none⟩ = some (.int .i64 (x3 : Int)) := cell_of_row _ _ 3 _ _ _ hb2))
  go_ret
  exact ⟨rfl, hq2⟩
set_option maxHeartbeats 1000000 in
theorem open_60b_32 (b t0 n0 t : ByteArray) (k : Nat) (o : Int) (n cp g : Nat) (cur : Array Value) (y0 y1 y2 y3 y4 y5 y6 y7 : Nat) (x0 x1 x2 x3 x4 x5 x6 : Nat) (w : World) (hF : w.heap[k]? = some (.cells (tabCells col32 o t0 n0) 75 (0, 0))) (hx6 : x6 < 18446744073709551616) (hx : x6 % 16 = 0) (hli : x3 < n) (hn : n ≤ 26214) (hg : w.heap[g]? = some (.cells cur 77 (0, 0))) (hgk : g ≠ k) (hy : ∀ m, m < 8 → cur[x3 * 8 + m]? = (#[.int .i64 (y0 : Int), .int .i64 (y1 : Int), .int .u64 (y2 : Int), .int .i64 (y3 : Int), .int .i64 (y4 : Int), .int .u64 (y5 : Int), .int .u64 (y6 : Int), .int .u64 (y7 : Int)] : Array Value)[m]?) (h3 : y1 ≠ 3)
    (hC : ∀ w : World, Calls Tryd.prog 58 #[.string b, .agg #[.int .i64 (x0 : Int), .int .i64 (x1 : Int), .int .u64 (x2 : Int), .int .i64 (x3 : Int), .int .i64 (x4 : Int), .int .u64 (x5 : Int), .int .u64 (x6 : Int), .int .u64 16]] w fun r w' => r = .returned (.tuple #[.string t, .int .i64 0]) ∧ Below w.heap.size w w') :
    Calls Tryd.prog 36 #[.pointer (some ⟨k, 0, none⟩), .string b, .slice (some ⟨g, 0, none⟩) n cp, .agg #[.int .i64 (x0 : Int), .int .i64 (x1 : Int), .int .u64 (x2 : Int), .int .i64 (x3 : Int), .int .i64 (x4 : Int), .int .u64 (x5 : Int), .int .u64 (x6 : Int), .int .u64 16]] w fun r w' => r = .returned (.int .i64 60) ∧ Kq k w w' := by
  have hk : k < w.heap.size := (Array.getElem?_eq_some_iff.1 hF).1
  have c0 : (w.alloc (.cells #[.int .i64 (x0 : Int), .int .i64 (x1 : Int), .int .u64 (x2 : Int), .int .i64 (x3 : Int), .int .i64 (x4 : Int), .int .u64 (x5 : Int), .int .u64 (x6 : Int), .int .u64 16] 77)).cell? ⟨k, 0, none⟩ = some (.int .u64 16) := by rw [World.cell?_alloc_past _ _ _ hk, cell_of_row _ _ _ _ _ _ hF]; rfl
  have HC := Hid.mk' hC
  have hge : ¬ (n : Int) ≤ (x3 : Int) := Int.not_le.2 (Int.ofNat_lt.2 hli)
  have hlt : (x3 : Int) < (n : Int) := Int.ofNat_lt.2 hli
  have hl0 : (0 : Int) ≤ (x3 : Int) := Int.natCast_nonneg _
  have h3n : ((y1 : Int) != 3) = true := bne_iff_ne.2 (by omega)
  clear hC h3
  have h60 : (0 : Int) ≤ (x6 : Int) := Int.natCast_nonneg _
  have h61 : (x6 : Int) ≤ 18446744073709551615 := Int.ofNat_le.2 (Nat.le_of_lt_succ hx6)
  have hne : ((x6 : Int) % 16 != 0) = false := bne_eq_false_iff_eq.2 (by omega)
  have hbx : (w.alloc (.cells #[.int .i64 (x0 : Int), .int .i64 (x1 : Int), .int .u64 (x2 : Int), .int .i64 (x3 : Int), .int .i64 (x4 : Int), .int .u64 (x5 : Int), .int .u64 (x6 : Int), .int .u64 16] 77)).heap[w.heap.size]? = some (.cells #[.int .i64 (x0 : Int), .int .i64 (x1 : Int), .int .u64 (x2 : Int), .int .i64 (x3 : Int), .int .i64 (x4 : Int), .int .u64 (x5 : Int), .int .u64 (x6 : Int), .int .u64 16] 77 (0, 0)) := heap_alloc_new w _
  have hB0 : Below w.heap.size w (w.alloc (.cells #[.int .i64 (x0 : Int), .int .i64 (x1 : Int), .int .u64 (x2 : Int), .int .i64 (x3 : Int), .int .i64 (x4 : Int), .int .u64 (x5 : Int), .int .u64 (x6 : Int), .int .u64 16] 77)) := Below.alloc (Below.refl _ _) (Nat.le_refl _) _
  have hFb : (w.alloc (.cells #[.int .i64 (x0 : Int), .int .i64 (x1 : Int), .int .u64 (x2 : Int), .int .i64 (x3 : Int), .int .i64 (x4 : Int), .int .u64 (x5 : Int), .int .u64 (x6 : Int), .int .u64 16] 77)).heap[k]? = some (.cells (tabCells col32 o t0 n0) 75 (0, 0)) := (Below.heap_alloc w _ k hk).trans hF
  have hzb : (w.alloc (.cells #[.int .i64 (x0 : Int), .int .i64 (x1 : Int), .int .u64 (x2 : Int), .int .i64 (x3 : Int), .int .i64 (x4 : Int), .int .u64 (x5 : Int), .int .u64 (x6 : Int), .int .u64 16] 77)).heap.size = w.heap.size + 1 := size_alloc _ _
  clear hF hx hx6
  have HK := Hid.mk' (And.intro hbx (And.intro hB0 (And.intro hFb (And.intro hzb hk))))
  clear hbx hB0 hFb hzb hk
  go_enter Tryd.func36, Tryd.ntmps36
  go_wp2_with fail
  go_quiet (fail)
  obtain ⟨hbx, hB0, hFb, hzb, hk⟩ := HK.out
  clear HK c0 hne h60 h61
  have hB1 : Below w.heap.size w ((w.alloc (.cells #[.int .i64 (x0 : Int), .int .i64 (x1 : Int), .int .u64 (x2 : Int), .int .i64 (x3 : Int), .int .i64 (x4 : Int), .int .u64 (x5 : Int), .int .u64 (x6 : Int), .int .u64 16] 77)).drewN nq) := below_drewN hB0 _
  have hF1 : ((w.alloc (.cells #[.int .i64 (x0 : Int), .int .i64 (x1 : Int), .int .u64 (x2 : Int), .int .i64 (x3 : Int), .int .i64 (x4 : Int), .int .u64 (x5 : Int), .int .u64 (x6 : Int), .int .u64 16] 77)).drewN nq).heap[k]? = some (.cells (tabCells col32 o t0 n0) 75 (0, 0)) := hFb
  have hb1 : ((w.alloc (.cells #[.int .i64 (x0 : Int), .int .i64 (x1 : Int), .int .u64 (x2 : Int), .int .i64 (x3 : Int), .int .i64 (x4 : Int), .int .u64 (x5 : Int), .int .u64 (x6 : Int), .int .u64 16] 77)).drewN nq).heap[w.heap.size]? = some (.cells #[.int .i64 (x0 : Int), .int .i64 (x1 : Int), .int .u64 (x2 : Int), .int .i64 (x3 : Int), .int .i64 (x4 : Int), .int .u64 (x5 : Int), .int .u64 (x6 : Int), .int .u64 16] 77 (0, 0)) := hbx
  have hz1 : ((w.alloc (.cells #[.int .i64 (x0 : Int), .int .i64 (x1 : Int), .int .u64 (x2 : Int), .int .i64 (x3 : Int), .int .i64 (x4 : Int), .int .u64 (x5 : Int), .int .u64 (x6 : Int), .int .u64 16] 77)).drewN nq).heap.size = w.heap.size + 1 := hzb
  clear hB0 hFb hbx hzb
  generalize ((w.alloc (.cells #[.int .i64 (x0 : Int), .int .i64 (x1 : Int), .int .u64 (x2 : Int), .int .i64 (x3 : Int), .int .i64 (x4 : Int), .int .u64 (x5 : Int), .int .u64 (x6 : Int), .int .u64 16] 77)).drewN nq) = W at hB1 hF1 hb1 hz1 ⊢
  have HFZ : Hid (∀ w1, Below W.heap.size W w1 → w1.cell? ⟨k, 14, none⟩ = some (.string t0) ∧ w1.frozen? ⟨k, 14, none⟩ = false) := fun w1 hb => by
    have h := (hb.block k (by omega)).trans hF1
    exact ⟨(cell_of_row _ _ 14 _ _ _ h).trans rfl, frozen_of_row _ _ 14 _ _ h⟩
  go_wp2_with (first
    | (refine wpList_load_row rfl _ _ rfl w.heap.size rfl _ _ _ _ hb1 Tryd.underlying77 rfl (by kernel_rfl) ?_)
    | (go_at_call 58; refine (HC.out _).mono ?_; rintro r w1 ⟨rfl, hbc⟩; obtain ⟨c14, z14⟩ := HFZ.out w1 hbc; have hF2 : (w1.setCell ⟨k, 14, none⟩ (.string t)).heap[k]? = some (.cells (tabCells col32 o t n0) 75 (0, 0)) := (set_row (.string t) ((hbc.block k (by omega)).trans hF1)).trans rfl; have hb2 : (w1.setCell ⟨k, 14, none⟩ (.string t)).heap[w.heap.size]? = some (.cells #[.int .i64 (x0 : Int), .int .i64 (x1 : Int), .int .u64 (x2 : Int), .int .i64 (x3 : Int), .int .i64 (x4 : Int), .int .u64 (x5 : Int), .int .u64 (x6 : Int), .int .u64 16] 77 (0, 0)) := (Below.heap_setCell w1 _ _ _ (by show w.heap.size ≠ k; omega)).trans ((hbc.block _ (by omega)).trans hb1); have hq2 : Kq k w (w1.setCell ⟨k, 14, none⟩ (.string t)) := ((Kq.of hB1).trans (Kq.of (hbc.mono (Nat.le_refl _)))).set _ _; have hx3 : (w1.setCell ⟨k, 14, none⟩ (.string t)).cell? ⟨w.heap.size, 3, none⟩ = some (.int .i64 (x3 : Int)) := cell_of_row _ _ 3 _ _ _ hb2; have hg2 : (w1.setCell ⟨k, 14, none⟩ (.string t)).heap[g]? = some (.cells cur 77 (0, 0)) := (hq2.block g hgk (Array.getElem?_eq_some_iff.1 hg).1).trans hg; have a0 : (w1.setCell ⟨k, 14, none⟩ (.string t)).cell? ⟨g, x3 * 8, none⟩ = some (.int .i64 (y0 : Int)) := (cell_of_row _ _ _ _ _ _ hg2).trans (hy 0 (by omega)); have a1 : (w1.setCell ⟨k, 14, none⟩ (.string t)).cell? ⟨g, x3 * 8 + 1, none⟩ = some (.int .i64 (y1 : Int)) := (cell_of_row _ _ _ _ _ _ hg2).trans (hy 1 (by omega)); have a2 : (w1.setCell ⟨k, 14, none⟩ (.string t)).cell? ⟨g, x3 * 8 + 2, none⟩ = some (.int .u64 (y2 : Int)) := (cell_of_row _ _ _ _ _ _ hg2).trans (hy 2 (by omega)); have a3 : (w1.setCell ⟨k, 14, none⟩ (.string t)).cell? ⟨g, x3 * 8 + 3, none⟩ = some (.int .i64 (y3 : Int)) := (cell_of_row _ _ _ _ _ _ hg2).trans (hy 3 (by omega)); have a4 : (w1.setCell ⟨k, 14, none⟩ (.string t)).cell? ⟨g, x3 * 8 + 4, none⟩ = some (.int .i64 (y4 : Int)) := (cell_of_row _ _ _ _ _ _ hg2).trans (hy 4 (by omega)); have a5 : (w1.setCell ⟨k, 14, none⟩ (.string t)).cell? ⟨g, x3 * 8 + 5, none⟩ = some (.int .u64 (y5 : Int)) := (cell_of_row _ _ _ _ _ _ hg2).trans (hy 5 (by omega)); have a6 : (w1.setCell ⟨k, 14, none⟩ (.string t)).cell? ⟨g, x3 * 8 + 6, none⟩ = some (.int .u64 (y6 : Int)) := (cell_of_row _ _ _ _ _ _ hg2).trans (hy 6 (by omega)); have a7 : (w1.setCell ⟨k, 14, none⟩ (.string t)).cell? ⟨g, x3 * 8 + 7, none⟩ = some (.int .u64 (y7 : Int)) := (cell_of_row _ _ _ _ _ _ hg2).trans (hy 7 (by omega))))
  go_ret
  exact ⟨rfl, hq2⟩
set_option maxHeartbeats 1000000 in
theorem open_54b_32 (b t0 n0 t : ByteArray) (k : Nat) (o : Int) (n cp g : Nat) (cur : Array Value) (y0 y2 y3 y4 y5 y6 y7 : Nat) (x0 x1 x2 x3 x4 x5 x6 : Nat) (w : World) (hF : w.heap[k]? = some (.cells (tabCells col32 o t0 n0) 75 (0, 0))) (hx6 : x6 < 18446744073709551616) (hx : x6 % 16 = 0) (hli : x3 < n) (hn : n ≤ 26214) (hg : w.heap[g]? = some (.cells cur 77 (0, 0))) (hgk : g ≠ k) (hy : ∀ m, m < 8 → cur[x3 * 8 + m]? = (#[.int .i64 (y0 : Int), .int .i64 3, .int .u64 (y2 : Int), .int .i64 (y3 : Int), .int .i64 (y4 : Int), .int .u64 (y5 : Int), .int .u64 (y6 : Int), .int .u64 (y7 : Int)] : Array Value)[m]?)
    (hC : ∀ w : World, Calls Tryd.prog 58 #[.string b, .agg #[.int .i64 (x0 : Int), .int .i64 (x1 : Int), .int .u64 (x2 : Int), .int .i64 (x3 : Int), .int .i64 (x4 : Int), .int .u64 (x5 : Int), .int .u64 (x6 : Int), .int .u64 16]] w fun r w' => r = .returned (.tuple #[.string t, .int .i64 0]) ∧ Below w.heap.size w w')
    (hD : ∀ w : World, Calls Tryd.prog 58 #[.string b, .agg #[.int .i64 (y0 : Int), .int .i64 3, .int .u64 (y2 : Int), .int .i64 (y3 : Int), .int .i64 (y4 : Int), .int .u64 (y5 : Int), .int .u64 (y6 : Int), .int .u64 (y7 : Int)]] w fun r w' => r = .returned (.tuple #[.string .empty, .int .i64 54]) ∧ Below w.heap.size w w') :
    Calls Tryd.prog 36 #[.pointer (some ⟨k, 0, none⟩), .string b, .slice (some ⟨g, 0, none⟩) n cp, .agg #[.int .i64 (x0 : Int), .int .i64 (x1 : Int), .int .u64 (x2 : Int), .int .i64 (x3 : Int), .int .i64 (x4 : Int), .int .u64 (x5 : Int), .int .u64 (x6 : Int), .int .u64 16]] w fun r w' => r = .returned (.int .i64 54) ∧ Kq k w w' := by
  have hk : k < w.heap.size := (Array.getElem?_eq_some_iff.1 hF).1
  have c0 : (w.alloc (.cells #[.int .i64 (x0 : Int), .int .i64 (x1 : Int), .int .u64 (x2 : Int), .int .i64 (x3 : Int), .int .i64 (x4 : Int), .int .u64 (x5 : Int), .int .u64 (x6 : Int), .int .u64 16] 77)).cell? ⟨k, 0, none⟩ = some (.int .u64 16) := by rw [World.cell?_alloc_past _ _ _ hk, cell_of_row _ _ _ _ _ _ hF]; rfl
  have HC := Hid.mk' hC
  have HD := Hid.mk' hD
  have hge : ¬ (n : Int) ≤ (x3 : Int) := Int.not_le.2 (Int.ofNat_lt.2 hli)
  have hlt : (x3 : Int) < (n : Int) := Int.ofNat_lt.2 hli
  have hl0 : (0 : Int) ≤ (x3 : Int) := Int.natCast_nonneg _
  clear hC hD
  have h60 : (0 : Int) ≤ (x6 : Int) := Int.natCast_nonneg _
  have h61 : (x6 : Int) ≤ 18446744073709551615 := Int.ofNat_le.2 (Nat.le_of_lt_succ hx6)
  have hne : ((x6 : Int) % 16 != 0) = false := bne_eq_false_iff_eq.2 (by omega)
  have hbx : (w.alloc (.cells #[.int .i64 (x0 : Int), .int .i64 (x1 : Int), .int .u64 (x2 : Int), .int .i64 (x3 : Int), .int .i64 (x4 : Int), .int .u64 (x5 : Int), .int .u64 (x6 : Int), .int .u64 16] 77)).heap[w.heap.size]? = some (.cells #[.int .i64 (x0 : Int), .int .i64 (x1 : Int), .int .u64 (x2 : Int), .int .i64 (x3 : Int), .int .i64 (x4 : Int), .int .u64 (x5 : Int), .int .u64 (x6 : Int), .int .u64 16] 77 (0, 0)) := heap_alloc_new w _
  have hB0 : Below w.heap.size w (w.alloc (.cells #[.int .i64 (x0 : Int), .int .i64 (x1 : Int), .int .u64 (x2 : Int), .int .i64 (x3 : Int), .int .i64 (x4 : Int), .int .u64 (x5 : Int), .int .u64 (x6 : Int), .int .u64 16] 77)) := Below.alloc (Below.refl _ _) (Nat.le_refl _) _
  have hFb : (w.alloc (.cells #[.int .i64 (x0 : Int), .int .i64 (x1 : Int), .int .u64 (x2 : Int), .int .i64 (x3 : Int), .int .i64 (x4 : Int), .int .u64 (x5 : Int), .int .u64 (x6 : Int), .int .u64 16] 77)).heap[k]? = some (.cells (tabCells col32 o t0 n0) 75 (0, 0)) := (Below.heap_alloc w _ k hk).trans hF
  have hzb : (w.alloc (.cells #[.int .i64 (x0 : Int), .int .i64 (x1 : Int), .int .u64 (x2 : Int), .int .i64 (x3 : Int), .int .i64 (x4 : Int), .int .u64 (x5 : Int), .int .u64 (x6 : Int), .int .u64 16] 77)).heap.size = w.heap.size + 1 := size_alloc _ _
  clear hF hx hx6
  have HK := Hid.mk' (And.intro hbx (And.intro hB0 (And.intro hFb (And.intro hzb hk))))
  clear hbx hB0 hFb hzb hk
  go_enter Tryd.func36, Tryd.ntmps36
  go_wp2_with fail
  go_quiet (fail)
  obtain ⟨hbx, hB0, hFb, hzb, hk⟩ := HK.out
  clear HK c0 hne h60 h61
  have hB1 : Below w.heap.size w ((w.alloc (.cells #[.int .i64 (x0 : Int), .int .i64 (x1 : Int), .int .u64 (x2 : Int), .int .i64 (x3 : Int), .int .i64 (x4 : Int), .int .u64 (x5 : Int), .int .u64 (x6 : Int), .int .u64 16] 77)).drewN nq) := below_drewN hB0 _
  have hF1 : ((w.alloc (.cells #[.int .i64 (x0 : Int), .int .i64 (x1 : Int), .int .u64 (x2 : Int), .int .i64 (x3 : Int), .int .i64 (x4 : Int), .int .u64 (x5 : Int), .int .u64 (x6 : Int), .int .u64 16] 77)).drewN nq).heap[k]? = some (.cells (tabCells col32 o t0 n0) 75 (0, 0)) := hFb
  have hb1 : ((w.alloc (.cells #[.int .i64 (x0 : Int), .int .i64 (x1 : Int), .int .u64 (x2 : Int), .int .i64 (x3 : Int), .int .i64 (x4 : Int), .int .u64 (x5 : Int), .int .u64 (x6 : Int), .int .u64 16] 77)).drewN nq).heap[w.heap.size]? = some (.cells #[.int .i64 (x0 : Int), .int .i64 (x1 : Int), .int .u64 (x2 : Int), .int .i64 (x3 : Int), .int .i64 (x4 : Int), .int .u64 (x5 : Int), .int .u64 (x6 : Int), .int .u64 16] 77 (0, 0)) := hbx
  have hz1 : ((w.alloc (.cells #[.int .i64 (x0 : Int), .int .i64 (x1 : Int), .int .u64 (x2 : Int), .int .i64 (x3 : Int), .int .i64 (x4 : Int), .int .u64 (x5 : Int), .int .u64 (x6 : Int), .int .u64 16] 77)).drewN nq).heap.size = w.heap.size + 1 := hzb
  clear hB0 hFb hbx hzb
  generalize ((w.alloc (.cells #[.int .i64 (x0 : Int), .int .i64 (x1 : Int), .int .u64 (x2 : Int), .int .i64 (x3 : Int), .int .i64 (x4 : Int), .int .u64 (x5 : Int), .int .u64 (x6 : Int), .int .u64 16] 77)).drewN nq) = W at hB1 hF1 hb1 hz1 ⊢
  have HFZ : Hid (∀ w1, Below W.heap.size W w1 → w1.cell? ⟨k, 14, none⟩ = some (.string t0) ∧ w1.frozen? ⟨k, 14, none⟩ = false) := fun w1 hb => by
    have h := (hb.block k (by omega)).trans hF1
    exact ⟨(cell_of_row _ _ 14 _ _ _ h).trans rfl, frozen_of_row _ _ 14 _ _ h⟩
  go_wp2_with (first
    | (refine wpList_load_row rfl _ _ rfl w.heap.size rfl _ _ _ _ hb1 Tryd.underlying77 rfl (by kernel_rfl) ?_))
  go_at_call 58
  refine (HC.out _).mono ?_
  rintro r w1 ⟨rfl, hbc⟩
  obtain ⟨c14, z14⟩ := HFZ.out w1 hbc
  have hF2 : (w1.setCell ⟨k, 14, none⟩ (.string t)).heap[k]? = some (.cells (tabCells col32 o t n0) 75 (0, 0)) := (set_row (.string t) ((hbc.block k (by omega)).trans hF1)).trans rfl
  have hb2 : (w1.setCell ⟨k, 14, none⟩ (.string t)).heap[w.heap.size]? = some (.cells #[.int .i64 (x0 : Int), .int .i64 (x1 : Int), .int .u64 (x2 : Int), .int .i64 (x3 : Int), .int .i64 (x4 : Int), .int .u64 (x5 : Int), .int .u64 (x6 : Int), .int .u64 16] 77 (0, 0)) := (Below.heap_setCell w1 _ _ _ (by show w.heap.size ≠ k; omega)).trans ((hbc.block _ (by omega)).trans hb1)
  have hq2 : Kq k w (w1.setCell ⟨k, 14, none⟩ (.string t)) := ((Kq.of hB1).trans (Kq.of (hbc.mono (Nat.le_refl _)))).set _ _
  have hx3 : (w1.setCell ⟨k, 14, none⟩ (.string t)).cell? ⟨w.heap.size, 3, none⟩ = some (.int .i64 (x3 : Int)) := cell_of_row _ _ 3 _ _ _ hb2
  have hg2 : (w1.setCell ⟨k, 14, none⟩ (.string t)).heap[g]? = some (.cells cur 77 (0, 0)) := (hq2.block g hgk (Array.getElem?_eq_some_iff.1 hg).1).trans hg
  have a0 : (w1.setCell ⟨k, 14, none⟩ (.string t)).cell? ⟨g, x3 * 8, none⟩ = some (.int .i64 (y0 : Int)) := (cell_of_row _ _ _ _ _ _ hg2).trans (hy 0 (by omega))
  have a1 : (w1.setCell ⟨k, 14, none⟩ (.string t)).cell? ⟨g, x3 * 8 + 1, none⟩ = some (.int .i64 3) := (cell_of_row _ _ _ _ _ _ hg2).trans (hy 1 (by omega))
  have a2 : (w1.setCell ⟨k, 14, none⟩ (.string t)).cell? ⟨g, x3 * 8 + 2, none⟩ = some (.int .u64 (y2 : Int)) := (cell_of_row _ _ _ _ _ _ hg2).trans (hy 2 (by omega))
  have a3 : (w1.setCell ⟨k, 14, none⟩ (.string t)).cell? ⟨g, x3 * 8 + 3, none⟩ = some (.int .i64 (y3 : Int)) := (cell_of_row _ _ _ _ _ _ hg2).trans (hy 3 (by omega))
  have a4 : (w1.setCell ⟨k, 14, none⟩ (.string t)).cell? ⟨g, x3 * 8 + 4, none⟩ = some (.int .i64 (y4 : Int)) := (cell_of_row _ _ _ _ _ _ hg2).trans (hy 4 (by omega))
  have a5 : (w1.setCell ⟨k, 14, none⟩ (.string t)).cell? ⟨g, x3 * 8 + 5, none⟩ = some (.int .u64 (y5 : Int)) := (cell_of_row _ _ _ _ _ _ hg2).trans (hy 5 (by omega))
  have a6 : (w1.setCell ⟨k, 14, none⟩ (.string t)).cell? ⟨g, x3 * 8 + 6, none⟩ = some (.int .u64 (y6 : Int)) := (cell_of_row _ _ _ _ _ _ hg2).trans (hy 6 (by omega))
  have a7 : (w1.setCell ⟨k, 14, none⟩ (.string t)).cell? ⟨g, x3 * 8 + 7, none⟩ = some (.int .u64 (y7 : Int)) := (cell_of_row _ _ _ _ _ _ hg2).trans (hy 7 (by omega))
  have hra : (w1.setCell ⟨k, 14, none⟩ (.string t)).rangeAt g (x3 * 8) [.int .i64 (y0 : Int), .int .i64 3, .int .u64 (y2 : Int), .int .i64 (y3 : Int), .int .i64 (y4 : Int), .int .u64 (y5 : Int), .int .u64 (y6 : Int), .int .u64 (y7 : Int)] := fun j u hj => (cell_of_row _ _ _ _ _ _ hg2).trans ((hy j (List.getElem?_eq_some_iff.1 hj).1).trans (List.getElem?_toArray.trans hj))
  clear hF1 hz1 hbc HC HFZ hB1 hb1 hra
  go_wp2_with (first
    | (go_at_call 58; refine (HD.out _).mono ?_; rintro r w4 ⟨rfl, hbd⟩; have hF4 := (hbd.block k (Array.getElem?_eq_some_iff.1 hF2).1).trans hF2; have c15 : w4.cell? ⟨k, 15, none⟩ = some (.string n0) := (cell_of_row _ _ 15 _ _ _ hF4).trans rfl; have z15 : w4.frozen? ⟨k, 15, none⟩ = false := frozen_of_row _ _ 15 _ _ hF4))
  go_ret
  exact ⟨rfl, (hq2.trans (Kq.of hbd)).set _ _⟩
set_option maxHeartbeats 1000000 in
theorem open_ok_32 (b t0 n0 t names : ByteArray) (k : Nat) (o : Int) (n cp g : Nat) (cur : Array Value) (y0 y2 y3 y4 y5 y6 y7 : Nat) (x0 x1 x2 x3 x4 x5 x6 : Nat) (w : World) (hF : w.heap[k]? = some (.cells (tabCells col32 o t0 n0) 75 (0, 0))) (hx6 : x6 < 18446744073709551616) (hx : x6 % 16 = 0) (hli : x3 < n) (hn : n ≤ 26214) (hg : w.heap[g]? = some (.cells cur 77 (0, 0))) (hgk : g ≠ k) (hy : ∀ m, m < 8 → cur[x3 * 8 + m]? = (#[.int .i64 (y0 : Int), .int .i64 3, .int .u64 (y2 : Int), .int .i64 (y3 : Int), .int .i64 (y4 : Int), .int .u64 (y5 : Int), .int .u64 (y6 : Int), .int .u64 (y7 : Int)] : Array Value)[m]?)
    (hC : ∀ w : World, Calls Tryd.prog 58 #[.string b, .agg #[.int .i64 (x0 : Int), .int .i64 (x1 : Int), .int .u64 (x2 : Int), .int .i64 (x3 : Int), .int .i64 (x4 : Int), .int .u64 (x5 : Int), .int .u64 (x6 : Int), .int .u64 16]] w fun r w' => r = .returned (.tuple #[.string t, .int .i64 0]) ∧ Below w.heap.size w w')
    (hD : ∀ w : World, Calls Tryd.prog 58 #[.string b, .agg #[.int .i64 (y0 : Int), .int .i64 3, .int .u64 (y2 : Int), .int .i64 (y3 : Int), .int .i64 (y4 : Int), .int .u64 (y5 : Int), .int .u64 (y6 : Int), .int .u64 (y7 : Int)]] w fun r w' => r = .returned (.tuple #[.string names, .int .i64 0]) ∧ Below w.heap.size w w') :
    Calls Tryd.prog 36 #[.pointer (some ⟨k, 0, none⟩), .string b, .slice (some ⟨g, 0, none⟩) n cp, .agg #[.int .i64 (x0 : Int), .int .i64 (x1 : Int), .int .u64 (x2 : Int), .int .i64 (x3 : Int), .int .i64 (x4 : Int), .int .u64 (x5 : Int), .int .u64 (x6 : Int), .int .u64 16]] w fun r w' => r = .returned (.int .i64 0) ∧ Kq k w w' ∧ w'.heap[k]? = some (.cells (tabCells col32 o t names) 75 (0, 0)) := by
  have hk : k < w.heap.size := (Array.getElem?_eq_some_iff.1 hF).1
  have c0 : (w.alloc (.cells #[.int .i64 (x0 : Int), .int .i64 (x1 : Int), .int .u64 (x2 : Int), .int .i64 (x3 : Int), .int .i64 (x4 : Int), .int .u64 (x5 : Int), .int .u64 (x6 : Int), .int .u64 16] 77)).cell? ⟨k, 0, none⟩ = some (.int .u64 16) := by rw [World.cell?_alloc_past _ _ _ hk, cell_of_row _ _ _ _ _ _ hF]; rfl
  have HC := Hid.mk' hC
  have HD := Hid.mk' hD
  have hge : ¬ (n : Int) ≤ (x3 : Int) := Int.not_le.2 (Int.ofNat_lt.2 hli)
  have hlt : (x3 : Int) < (n : Int) := Int.ofNat_lt.2 hli
  have hl0 : (0 : Int) ≤ (x3 : Int) := Int.natCast_nonneg _
  clear hC hD
  have h60 : (0 : Int) ≤ (x6 : Int) := Int.natCast_nonneg _
  have h61 : (x6 : Int) ≤ 18446744073709551615 := Int.ofNat_le.2 (Nat.le_of_lt_succ hx6)
  have hne : ((x6 : Int) % 16 != 0) = false := bne_eq_false_iff_eq.2 (by omega)
  have hbx : (w.alloc (.cells #[.int .i64 (x0 : Int), .int .i64 (x1 : Int), .int .u64 (x2 : Int), .int .i64 (x3 : Int), .int .i64 (x4 : Int), .int .u64 (x5 : Int), .int .u64 (x6 : Int), .int .u64 16] 77)).heap[w.heap.size]? = some (.cells #[.int .i64 (x0 : Int), .int .i64 (x1 : Int), .int .u64 (x2 : Int), .int .i64 (x3 : Int), .int .i64 (x4 : Int), .int .u64 (x5 : Int), .int .u64 (x6 : Int), .int .u64 16] 77 (0, 0)) := heap_alloc_new w _
  have hB0 : Below w.heap.size w (w.alloc (.cells #[.int .i64 (x0 : Int), .int .i64 (x1 : Int), .int .u64 (x2 : Int), .int .i64 (x3 : Int), .int .i64 (x4 : Int), .int .u64 (x5 : Int), .int .u64 (x6 : Int), .int .u64 16] 77)) := Below.alloc (Below.refl _ _) (Nat.le_refl _) _
  have hFb : (w.alloc (.cells #[.int .i64 (x0 : Int), .int .i64 (x1 : Int), .int .u64 (x2 : Int), .int .i64 (x3 : Int), .int .i64 (x4 : Int), .int .u64 (x5 : Int), .int .u64 (x6 : Int), .int .u64 16] 77)).heap[k]? = some (.cells (tabCells col32 o t0 n0) 75 (0, 0)) := (Below.heap_alloc w _ k hk).trans hF
  have hzb : (w.alloc (.cells #[.int .i64 (x0 : Int), .int .i64 (x1 : Int), .int .u64 (x2 : Int), .int .i64 (x3 : Int), .int .i64 (x4 : Int), .int .u64 (x5 : Int), .int .u64 (x6 : Int), .int .u64 16] 77)).heap.size = w.heap.size + 1 := size_alloc _ _
  clear hF hx hx6
  have HK := Hid.mk' (And.intro hbx (And.intro hB0 (And.intro hFb (And.intro hzb hk))))
  clear hbx hB0 hFb hzb hk
  go_enter Tryd.func36, Tryd.ntmps36
  go_wp2_with fail
  go_quiet (fail)
  obtain ⟨hbx, hB0, hFb, hzb, hk⟩ := HK.out
  clear HK c0 hne h60 h61
  have hB1 : Below w.heap.size w ((w.alloc (.cells #[.int .i64 (x0 : Int), .int .i64 (x1 : Int), .int .u64 (x2 : Int), .int .i64 (x3 : Int), .int .i64 (x4 : Int), .int .u64 (x5 : Int), .int .u64 (x6 : Int), .int .u64 16] 77)).drewN nq) := below_drewN hB0 _
  have hF1 : ((w.alloc (.cells #[.int .i64 (x0 : Int), .int .i64 (x1 : Int), .int .u64 (x2 : Int), .int .i64 (x3 : Int), .int .i64 (x4 : Int), .int .u64 (x5 : Int), .int .u64 (x6 : Int), .int .u64 16] 77)).drewN nq).heap[k]? = some (.cells (tabCells col32 o t0 n0) 75 (0, 0)) := hFb
  have hb1 : ((w.alloc (.cells #[.int .i64 (x0 : Int), .int .i64 (x1 : Int), .int .u64 (x2 : Int), .int .i64 (x3 : Int), .int .i64 (x4 : Int), .int .u64 (x5 : Int), .int .u64 (x6 : Int), .int .u64 16] 77)).drewN nq).heap[w.heap.size]? = some (.cells #[.int .i64 (x0 : Int), .int .i64 (x1 : Int), .int .u64 (x2 : Int), .int .i64 (x3 : Int), .int .i64 (x4 : Int), .int .u64 (x5 : Int), .int .u64 (x6 : Int), .int .u64 16] 77 (0, 0)) := hbx
  have hz1 : ((w.alloc (.cells #[.int .i64 (x0 : Int), .int .i64 (x1 : Int), .int .u64 (x2 : Int), .int .i64 (x3 : Int), .int .i64 (x4 : Int), .int .u64 (x5 : Int), .int .u64 (x6 : Int), .int .u64 16] 77)).drewN nq).heap.size = w.heap.size + 1 := hzb
  clear hB0 hFb hbx hzb
  generalize ((w.alloc (.cells #[.int .i64 (x0 : Int), .int .i64 (x1 : Int), .int .u64 (x2 : Int), .int .i64 (x3 : Int), .int .i64 (x4 : Int), .int .u64 (x5 : Int), .int .u64 (x6 : Int), .int .u64 16] 77)).drewN nq) = W at hB1 hF1 hb1 hz1 ⊢
  have HFZ : Hid (∀ w1, Below W.heap.size W w1 → w1.cell? ⟨k, 14, none⟩ = some (.string t0) ∧ w1.frozen? ⟨k, 14, none⟩ = false) := fun w1 hb => by
    have h := (hb.block k (by omega)).trans hF1
    exact ⟨(cell_of_row _ _ 14 _ _ _ h).trans rfl, frozen_of_row _ _ 14 _ _ h⟩
  go_wp2_with (first
    | (refine wpList_load_row rfl _ _ rfl w.heap.size rfl _ _ _ _ hb1 Tryd.underlying77 rfl (by kernel_rfl) ?_))
  go_at_call 58
  refine (HC.out _).mono ?_
  rintro r w1 ⟨rfl, hbc⟩
  obtain ⟨c14, z14⟩ := HFZ.out w1 hbc
  have hF2 : (w1.setCell ⟨k, 14, none⟩ (.string t)).heap[k]? = some (.cells (tabCells col32 o t n0) 75 (0, 0)) := (set_row (.string t) ((hbc.block k (by omega)).trans hF1)).trans rfl
  have hb2 : (w1.setCell ⟨k, 14, none⟩ (.string t)).heap[w.heap.size]? = some (.cells #[.int .i64 (x0 : Int), .int .i64 (x1 : Int), .int .u64 (x2 : Int), .int .i64 (x3 : Int), .int .i64 (x4 : Int), .int .u64 (x5 : Int), .int .u64 (x6 : Int), .int .u64 16] 77 (0, 0)) := (Below.heap_setCell w1 _ _ _ (by show w.heap.size ≠ k; omega)).trans ((hbc.block _ (by omega)).trans hb1)
  have hq2 : Kq k w (w1.setCell ⟨k, 14, none⟩ (.string t)) := ((Kq.of hB1).trans (Kq.of (hbc.mono (Nat.le_refl _)))).set _ _
  have hx3 : (w1.setCell ⟨k, 14, none⟩ (.string t)).cell? ⟨w.heap.size, 3, none⟩ = some (.int .i64 (x3 : Int)) := cell_of_row _ _ 3 _ _ _ hb2
  have hg2 : (w1.setCell ⟨k, 14, none⟩ (.string t)).heap[g]? = some (.cells cur 77 (0, 0)) := (hq2.block g hgk (Array.getElem?_eq_some_iff.1 hg).1).trans hg
  have a0 : (w1.setCell ⟨k, 14, none⟩ (.string t)).cell? ⟨g, x3 * 8, none⟩ = some (.int .i64 (y0 : Int)) := (cell_of_row _ _ _ _ _ _ hg2).trans (hy 0 (by omega))
  have a1 : (w1.setCell ⟨k, 14, none⟩ (.string t)).cell? ⟨g, x3 * 8 + 1, none⟩ = some (.int .i64 3) := (cell_of_row _ _ _ _ _ _ hg2).trans (hy 1 (by omega))
  have a2 : (w1.setCell ⟨k, 14, none⟩ (.string t)).cell? ⟨g, x3 * 8 + 2, none⟩ = some (.int .u64 (y2 : Int)) := (cell_of_row _ _ _ _ _ _ hg2).trans (hy 2 (by omega))
  have a3 : (w1.setCell ⟨k, 14, none⟩ (.string t)).cell? ⟨g, x3 * 8 + 3, none⟩ = some (.int .i64 (y3 : Int)) := (cell_of_row _ _ _ _ _ _ hg2).trans (hy 3 (by omega))
  have a4 : (w1.setCell ⟨k, 14, none⟩ (.string t)).cell? ⟨g, x3 * 8 + 4, none⟩ = some (.int .i64 (y4 : Int)) := (cell_of_row _ _ _ _ _ _ hg2).trans (hy 4 (by omega))
  have a5 : (w1.setCell ⟨k, 14, none⟩ (.string t)).cell? ⟨g, x3 * 8 + 5, none⟩ = some (.int .u64 (y5 : Int)) := (cell_of_row _ _ _ _ _ _ hg2).trans (hy 5 (by omega))
  have a6 : (w1.setCell ⟨k, 14, none⟩ (.string t)).cell? ⟨g, x3 * 8 + 6, none⟩ = some (.int .u64 (y6 : Int)) := (cell_of_row _ _ _ _ _ _ hg2).trans (hy 6 (by omega))
  have a7 : (w1.setCell ⟨k, 14, none⟩ (.string t)).cell? ⟨g, x3 * 8 + 7, none⟩ = some (.int .u64 (y7 : Int)) := (cell_of_row _ _ _ _ _ _ hg2).trans (hy 7 (by omega))
  have hra : (w1.setCell ⟨k, 14, none⟩ (.string t)).rangeAt g (x3 * 8) [.int .i64 (y0 : Int), .int .i64 3, .int .u64 (y2 : Int), .int .i64 (y3 : Int), .int .i64 (y4 : Int), .int .u64 (y5 : Int), .int .u64 (y6 : Int), .int .u64 (y7 : Int)] := fun j u hj => (cell_of_row _ _ _ _ _ _ hg2).trans ((hy j (List.getElem?_eq_some_iff.1 hj).1).trans (List.getElem?_toArray.trans hj))
  clear hF1 hz1 hbc HC HFZ hB1 hb1 hra
  go_wp2_with (first
    | (go_at_call 58; refine (HD.out _).mono ?_; rintro r w4 ⟨rfl, hbd⟩; have hF4 := (hbd.block k (Array.getElem?_eq_some_iff.1 hF2).1).trans hF2; have c15 : w4.cell? ⟨k, 15, none⟩ = some (.string n0) := (cell_of_row _ _ 15 _ _ _ hF4).trans rfl; have z15 : w4.frozen? ⟨k, 15, none⟩ = false := frozen_of_row _ _ 15 _ _ hF4))
  go_ret
  exact ⟨rfl, (hq2.trans (Kq.of hbd)).set _ _, (set_row _ hF4).trans rfl⟩
end Go.Proofs.YtaeigacinefhnabDoor

-- syms: opening a symbol table, class 64: contracts.
namespace Go.Proofs.YtaeigacinefhnabDoor
open Go.ChangeShapes Go.WideShapes Go.ChangeAt Go.RowKit
set_option linter.unusedVariables false
set_option maxRecDepth 100000
theorem open_55a_64 (b t0 n0 : ByteArray) (k : Nat) (o : Int) (v : Value) (x0 x1 x2 x3 x4 x5 x6 x7 : Nat) (w : World) (hF : w.heap[k]? = some (.cells (tabCells col64 o t0 n0) 75 (0, 0))) (hx : x7 ≠ 24) :
    Calls Tryd.prog 36 #[.pointer (some ⟨k, 0, none⟩), .string b, v, .agg #[.int .i64 (x0 : Int), .int .i64 (x1 : Int), .int .u64 (x2 : Int), .int .i64 (x3 : Int), .int .i64 (x4 : Int), .int .u64 (x5 : Int), .int .u64 (x6 : Int), .int .u64 (x7 : Int)]] w fun r w' => r = .returned (.int .i64 55) ∧ Kq k w w' := by
  have hk : k < w.heap.size := (Array.getElem?_eq_some_iff.1 hF).1
  have c0 : (w.alloc (.cells #[.int .i64 (x0 : Int), .int .i64 (x1 : Int), .int .u64 (x2 : Int), .int .i64 (x3 : Int), .int .i64 (x4 : Int), .int .u64 (x5 : Int), .int .u64 (x6 : Int), .int .u64 (x7 : Int)] 77)).cell? ⟨k, 0, none⟩ = some (.int .u64 24) := by rw [World.cell?_alloc_past _ _ _ hk, cell_of_row _ _ _ _ _ _ hF]; rfl
  have hne : ((x7 : Int) != 24) = true := bne_iff_ne.2 (by omega)
  clear hF hk
  go_enter Tryd.func36, Tryd.ntmps36
  go_wp2_with fail
  go_quiet (fail)
  go_wp2
  go_ret
  exact ⟨rfl, Kq.of (below_drewN (Below.alloc (Below.refl _ _) (Nat.le_refl _) _) _)⟩
theorem open_55b_64 (b t0 n0 : ByteArray) (k : Nat) (o : Int) (v : Value) (x0 x1 x2 x3 x4 x5 x6 : Nat) (w : World) (hF : w.heap[k]? = some (.cells (tabCells col64 o t0 n0) 75 (0, 0))) (hx6 : x6 < 18446744073709551616) (hx : x6 % 24 ≠ 0) :
    Calls Tryd.prog 36 #[.pointer (some ⟨k, 0, none⟩), .string b, v, .agg #[.int .i64 (x0 : Int), .int .i64 (x1 : Int), .int .u64 (x2 : Int), .int .i64 (x3 : Int), .int .i64 (x4 : Int), .int .u64 (x5 : Int), .int .u64 (x6 : Int), .int .u64 24]] w fun r w' => r = .returned (.int .i64 55) ∧ Kq k w w' := by
  have hk : k < w.heap.size := (Array.getElem?_eq_some_iff.1 hF).1
  have c0 : (w.alloc (.cells #[.int .i64 (x0 : Int), .int .i64 (x1 : Int), .int .u64 (x2 : Int), .int .i64 (x3 : Int), .int .i64 (x4 : Int), .int .u64 (x5 : Int), .int .u64 (x6 : Int), .int .u64 24] 77)).cell? ⟨k, 0, none⟩ = some (.int .u64 24) := by rw [World.cell?_alloc_past _ _ _ hk, cell_of_row _ _ _ _ _ _ hF]; rfl
  have h60 : (0 : Int) ≤ (x6 : Int) := Int.natCast_nonneg _
  have h61 : (x6 : Int) ≤ 18446744073709551615 := Int.ofNat_le.2 (Nat.le_of_lt_succ hx6)
  have hne : ((x6 : Int) % 24 != 0) = true := bne_iff_ne.2 (by omega)
  clear hF hk hx hx6
  go_enter Tryd.func36, Tryd.ntmps36
  go_wp2_with fail
  go_quiet (fail)
  go_wp2
  go_ret
  exact ⟨rfl, Kq.of (below_drewN (Below.alloc (Below.refl _ _) (Nat.le_refl _) _) _)⟩
set_option maxHeartbeats 1000000 in
theorem open_54a_64 (b t0 n0 : ByteArray) (k : Nat) (o : Int) (v : Value) (x0 x1 x2 x3 x4 x5 x6 : Nat) (w : World) (hF : w.heap[k]? = some (.cells (tabCells col64 o t0 n0) 75 (0, 0))) (hx6 : x6 < 18446744073709551616) (hx : x6 % 24 = 0)
    (hC : ∀ w : World, Calls Tryd.prog 58 #[.string b, .agg #[.int .i64 (x0 : Int), .int .i64 (x1 : Int), .int .u64 (x2 : Int), .int .i64 (x3 : Int), .int .i64 (x4 : Int), .int .u64 (x5 : Int), .int .u64 (x6 : Int), .int .u64 24]] w fun r w' => r = .returned (.tuple #[.string .empty, .int .i64 54]) ∧ Below w.heap.size w w') :
    Calls Tryd.prog 36 #[.pointer (some ⟨k, 0, none⟩), .string b, v, .agg #[.int .i64 (x0 : Int), .int .i64 (x1 : Int), .int .u64 (x2 : Int), .int .i64 (x3 : Int), .int .i64 (x4 : Int), .int .u64 (x5 : Int), .int .u64 (x6 : Int), .int .u64 24]] w fun r w' => r = .returned (.int .i64 54) ∧ Kq k w w' := by
  have hk : k < w.heap.size := (Array.getElem?_eq_some_iff.1 hF).1
  have c0 : (w.alloc (.cells #[.int .i64 (x0 : Int), .int .i64 (x1 : Int), .int .u64 (x2 : Int), .int .i64 (x3 : Int), .int .i64 (x4 : Int), .int .u64 (x5 : Int), .int .u64 (x6 : Int), .int .u64 24] 77)).cell? ⟨k, 0, none⟩ = some (.int .u64 24) := by rw [World.cell?_alloc_past _ _ _ hk, cell_of_row _ _ _ _ _ _ hF]; rfl
  have HC := Hid.mk' hC
  clear hC
  have h60 : (0 : Int) ≤ (x6 : Int) := Int.natCast_nonneg _
  have h61 : (x6 : Int) ≤ 18446744073709551615 := Int.ofNat_le.2 (Nat.le_of_lt_succ hx6)
  have hne : ((x6 : Int) % 24 != 0) = false := bne_eq_false_iff_eq.2 (by omega)
  have hbx : (w.alloc (.cells #[.int .i64 (x0 : Int), .int .i64 (x1 : Int), .int .u64 (x2 : Int), .int .i64 (x3 : Int), .int .i64 (x4 : Int), .int .u64 (x5 : Int), .int .u64 (x6 : Int), .int .u64 24] 77)).heap[w.heap.size]? = some (.cells #[.int .i64 (x0 : Int), .int .i64 (x1 : Int), .int .u64 (x2 : Int), .int .i64 (x3 : Int), .int .i64 (x4 : Int), .int .u64 (x5 : Int), .int .u64 (x6 : Int), .int .u64 24] 77 (0, 0)) := heap_alloc_new w _
  have hB0 : Below w.heap.size w (w.alloc (.cells #[.int .i64 (x0 : Int), .int .i64 (x1 : Int), .int .u64 (x2 : Int), .int .i64 (x3 : Int), .int .i64 (x4 : Int), .int .u64 (x5 : Int), .int .u64 (x6 : Int), .int .u64 24] 77)) := Below.alloc (Below.refl _ _) (Nat.le_refl _) _
  have hFb : (w.alloc (.cells #[.int .i64 (x0 : Int), .int .i64 (x1 : Int), .int .u64 (x2 : Int), .int .i64 (x3 : Int), .int .i64 (x4 : Int), .int .u64 (x5 : Int), .int .u64 (x6 : Int), .int .u64 24] 77)).heap[k]? = some (.cells (tabCells col64 o t0 n0) 75 (0, 0)) := (Below.heap_alloc w _ k hk).trans hF
  have hzb : (w.alloc (.cells #[.int .i64 (x0 : Int), .int .i64 (x1 : Int), .int .u64 (x2 : Int), .int .i64 (x3 : Int), .int .i64 (x4 : Int), .int .u64 (x5 : Int), .int .u64 (x6 : Int), .int .u64 24] 77)).heap.size = w.heap.size + 1 := size_alloc _ _
  clear hF hx hx6
  have HK := Hid.mk' (And.intro hbx (And.intro hB0 (And.intro hFb (And.intro hzb hk))))
  clear hbx hB0 hFb hzb hk
  go_enter Tryd.func36, Tryd.ntmps36
  go_wp2_with fail
  go_quiet (fail)
  obtain ⟨hbx, hB0, hFb, hzb, hk⟩ := HK.out
  clear HK c0 hne h60 h61
  have hB1 : Below w.heap.size w ((w.alloc (.cells #[.int .i64 (x0 : Int), .int .i64 (x1 : Int), .int .u64 (x2 : Int), .int .i64 (x3 : Int), .int .i64 (x4 : Int), .int .u64 (x5 : Int), .int .u64 (x6 : Int), .int .u64 24] 77)).drewN nq) := below_drewN hB0 _
  have hF1 : ((w.alloc (.cells #[.int .i64 (x0 : Int), .int .i64 (x1 : Int), .int .u64 (x2 : Int), .int .i64 (x3 : Int), .int .i64 (x4 : Int), .int .u64 (x5 : Int), .int .u64 (x6 : Int), .int .u64 24] 77)).drewN nq).heap[k]? = some (.cells (tabCells col64 o t0 n0) 75 (0, 0)) := hFb
  have hb1 : ((w.alloc (.cells #[.int .i64 (x0 : Int), .int .i64 (x1 : Int), .int .u64 (x2 : Int), .int .i64 (x3 : Int), .int .i64 (x4 : Int), .int .u64 (x5 : Int), .int .u64 (x6 : Int), .int .u64 24] 77)).drewN nq).heap[w.heap.size]? = some (.cells #[.int .i64 (x0 : Int), .int .i64 (x1 : Int), .int .u64 (x2 : Int), .int .i64 (x3 : Int), .int .i64 (x4 : Int), .int .u64 (x5 : Int), .int .u64 (x6 : Int), .int .u64 24] 77 (0, 0)) := hbx
  have hz1 : ((w.alloc (.cells #[.int .i64 (x0 : Int), .int .i64 (x1 : Int), .int .u64 (x2 : Int), .int .i64 (x3 : Int), .int .i64 (x4 : Int), .int .u64 (x5 : Int), .int .u64 (x6 : Int), .int .u64 24] 77)).drewN nq).heap.size = w.heap.size + 1 := hzb
  clear hB0 hFb hbx hzb
  generalize ((w.alloc (.cells #[.int .i64 (x0 : Int), .int .i64 (x1 : Int), .int .u64 (x2 : Int), .int .i64 (x3 : Int), .int .i64 (x4 : Int), .int .u64 (x5 : Int), .int .u64 (x6 : Int), .int .u64 24] 77)).drewN nq) = W at hB1 hF1 hb1 hz1 ⊢
  have HFZ : Hid (∀ w1, Below W.heap.size W w1 → w1.cell? ⟨k, 14, none⟩ = some (.string t0) ∧ w1.frozen? ⟨k, 14, none⟩ = false) := fun w1 hb => by
    have h := (hb.block k (by omega)).trans hF1
    exact ⟨(cell_of_row _ _ 14 _ _ _ h).trans rfl, frozen_of_row _ _ 14 _ _ h⟩
  go_wp2_with (first
    | (refine wpList_load_row rfl _ _ rfl w.heap.size rfl _ _ _ _ hb1 Tryd.underlying77 rfl (by kernel_rfl) ?_)
    | (go_at_call 58; refine (HC.out _).mono ?_; rintro r w1 ⟨rfl, hbc⟩; obtain ⟨c14, z14⟩ := HFZ.out w1 hbc))
  go_ret
  exact ⟨rfl, ((Kq.of hB1).trans (Kq.of (hbc.mono (Nat.le_refl _)))).set _ _⟩
set_option maxHeartbeats 1000000 in
theorem open_60a_64 (b t0 n0 t : ByteArray) (k : Nat) (o : Int) (n cp : Nat) (ao : Option Addr) (x0 x1 x2 x3 x4 x5 x6 : Nat) (w : World) (hF : w.heap[k]? = some (.cells (tabCells col64 o t0 n0) 75 (0, 0))) (hx6 : x6 < 18446744073709551616) (hx : x6 % 24 = 0) (hli : n ≤ x3)
    (hC : ∀ w : World, Calls Tryd.prog 58 #[.string b, .agg #[.int .i64 (x0 : Int), .int .i64 (x1 : Int), .int .u64 (x2 : Int), .int .i64 (x3 : Int), .int .i64 (x4 : Int), .int .u64 (x5 : Int), .int .u64 (x6 : Int), .int .u64 24]] w fun r w' => r = .returned (.tuple #[.string t, .int .i64 0]) ∧ Below w.heap.size w w') :
    Calls Tryd.prog 36 #[.pointer (some ⟨k, 0, none⟩), .string b, .slice ao n cp, .agg #[.int .i64 (x0 : Int), .int .i64 (x1 : Int), .int .u64 (x2 : Int), .int .i64 (x3 : Int), .int .i64 (x4 : Int), .int .u64 (x5 : Int), .int .u64 (x6 : Int), .int .u64 24]] w fun r w' => r = .returned (.int .i64 60) ∧ Kq k w w' := by
  have hk : k < w.heap.size := (Array.getElem?_eq_some_iff.1 hF).1
  have c0 : (w.alloc (.cells #[.int .i64 (x0 : Int), .int .i64 (x1 : Int), .int .u64 (x2 : Int), .int .i64 (x3 : Int), .int .i64 (x4 : Int), .int .u64 (x5 : Int), .int .u64 (x6 : Int), .int .u64 24] 77)).cell? ⟨k, 0, none⟩ = some (.int .u64 24) := by rw [World.cell?_alloc_past _ _ _ hk, cell_of_row _ _ _ _ _ _ hF]; rfl
  have HC := Hid.mk' hC
  have hge : (n : Int) ≤ (x3 : Int) := Int.ofNat_le.2 hli
  clear hC
  have h60 : (0 : Int) ≤ (x6 : Int) := Int.natCast_nonneg _
  have h61 : (x6 : Int) ≤ 18446744073709551615 := Int.ofNat_le.2 (Nat.le_of_lt_succ hx6)
  have hne : ((x6 : Int) % 24 != 0) = false := bne_eq_false_iff_eq.2 (by omega)
  have hbx : (w.alloc (.cells #[.int .i64 (x0 : Int), .int .i64 (x1 : Int), .int .u64 (x2 : Int), .int .i64 (x3 : Int), .int .i64 (x4 : Int), .int .u64 (x5 : Int), .int .u64 (x6 : Int), .int .u64 24] 77)).heap[w.heap.size]? = some (.cells #[.int .i64 (x0 : Int), .int .i64 (x1 : Int), .int .u64 (x2 : Int), .int .i64 (x3 : Int), .int .i64 (x4 : Int), .int .u64 (x5 : Int), .int .u64 (x6 : Int), .int .u64 24] 77 (0, 0)) := heap_alloc_new w _
  have hB0 : Below w.heap.size w (w.alloc (.cells #[.int .i64 (x0 : Int), .int .i64 (x1 : Int), .int .u64 (x2 : Int), .int .i64 (x3 : Int), .int .i64 (x4 : Int), .int .u64 (x5 : Int), .int .u64 (x6 : Int), .int .u64 24] 77)) := Below.alloc (Below.refl _ _) (Nat.le_refl _) _
  have hFb : (w.alloc (.cells #[.int .i64 (x0 : Int), .int .i64 (x1 : Int), .int .u64 (x2 : Int), .int .i64 (x3 : Int), .int .i64 (x4 : Int), .int .u64 (x5 : Int), .int .u64 (x6 : Int), .int .u64 24] 77)).heap[k]? = some (.cells (tabCells col64 o t0 n0) 75 (0, 0)) := (Below.heap_alloc w _ k hk).trans hF
  have hzb : (w.alloc (.cells #[.int .i64 (x0 : Int), .int .i64 (x1 : Int), .int .u64 (x2 : Int), .int .i64 (x3 : Int), .int .i64 (x4 : Int), .int .u64 (x5 : Int), .int .u64 (x6 : Int), .int .u64 24] 77)).heap.size = w.heap.size + 1 := size_alloc _ _
  clear hF hx hx6
  have HK := Hid.mk' (And.intro hbx (And.intro hB0 (And.intro hFb (And.intro hzb hk))))
  clear hbx hB0 hFb hzb hk
  go_enter Tryd.func36, Tryd.ntmps36
  go_wp2_with fail
  go_quiet (fail)
  obtain ⟨hbx, hB0, hFb, hzb, hk⟩ := HK.out
  clear HK c0 hne h60 h61
  have hB1 : Below w.heap.size w ((w.alloc (.cells #[.int .i64 (x0 : Int), .int .i64 (x1 : Int), .int .u64 (x2 : Int), .int .i64 (x3 : Int), .int .i64 (x4 : Int), .int .u64 (x5 : Int), .int .u64 (x6 : Int), .int .u64 24] 77)).drewN nq) := below_drewN hB0 _
  have hF1 : ((w.alloc (.cells #[.int .i64 (x0 : Int), .int .i64 (x1 : Int), .int .u64 (x2 : Int), .int .i64 (x3 : Int), .int .i64 (x4 : Int), .int .u64 (x5 : Int), .int .u64 (x6 : Int), .int .u64 24] 77)).drewN nq).heap[k]? = some (.cells (tabCells col64 o t0 n0) 75 (0, 0)) := hFb
  have hb1 : ((w.alloc (.cells #[.int .i64 (x0 : Int), .int .i64 (x1 : Int), .int .u64 (x2 : Int), .int .i64 (x3 : Int), .int .i64 (x4 : Int), .int .u64 (x5 : Int), .int .u64 (x6 : Int), .int .u64 24] 77)).drewN nq).heap[w.heap.size]? = some (.cells #[.int .i64 (x0 : Int), .int .i64 (x1 : Int), .int .u64 (x2 : Int), .int .i64 (x3 : Int), .int .i64 (x4 : Int), .int .u64 (x5 : Int), .int .u64 (x6 : Int), .int .u64 24] 77 (0, 0)) := hbx
  have hz1 : ((w.alloc (.cells #[.int .i64 (x0 : Int), .int .i64 (x1 : Int), .int .u64 (x2 : Int), .int .i64 (x3 : Int), .int .i64 (x4 : Int), .int .u64 (x5 : Int), .int .u64 (x6 : Int), .int .u64 24] 77)).drewN nq).heap.size = w.heap.size + 1 := hzb
  clear hB0 hFb hbx hzb
  generalize ((w.alloc (.cells #[.int .i64 (x0 : Int), .int .i64 (x1 : Int), .int .u64 (x2 : Int), .int .i64 (x3 : Int), .int .i64 (x4 : Int), .int .u64 (x5 : Int), .int .u64 (x6 : Int), .int .u64 24] 77)).drewN nq) = W at hB1 hF1 hb1 hz1 ⊢
  have HFZ : Hid (∀ w1, Below W.heap.size W w1 → w1.cell? ⟨k, 14, none⟩ = some (.string t0) ∧ w1.frozen? ⟨k, 14, none⟩ = false) := fun w1 hb => by
    have h := (hb.block k (by omega)).trans hF1
    exact ⟨(cell_of_row _ _ 14 _ _ _ h).trans rfl, frozen_of_row _ _ 14 _ _ h⟩
  go_wp2_with (first
    | (refine wpList_load_row rfl _ _ rfl w.heap.size rfl _ _ _ _ hb1 Tryd.underlying77 rfl (by kernel_rfl) ?_)
    | (go_at_call 58; refine (HC.out _).mono ?_; rintro r w1 ⟨rfl, hbc⟩; obtain ⟨c14, z14⟩ := HFZ.out w1 hbc; have hF2 : (w1.setCell ⟨k, 14, none⟩ (.string t)).heap[k]? = some (.cells (tabCells col64 o t n0) 75 (0, 0)) := (set_row (.string t) ((hbc.block k (by omega)).trans hF1)).trans rfl; have hb2 : (w1.setCell ⟨k, 14, none⟩ (.string t)).heap[w.heap.size]? = some (.cells #[.int .i64 (x0 : Int), .int .i64 (x1 : Int), .int .u64 (x2 : Int), .int .i64 (x3 : Int), .int .i64 (x4 : Int), .int .u64 (x5 : Int), .int .u64 (x6 : Int), .int .u64 24] 77 (0, 0)) := (Below.heap_setCell w1 _ _ _ (by show w.heap.size ≠ k; omega)).trans ((hbc.block _ (by omega)).trans hb1); have hq2 : Kq k w (w1.setCell ⟨k, 14, none⟩ (.string t)) := ((Kq.of hB1).trans (Kq.of (hbc.mono (Nat.le_refl _)))).set _ _; have hx3 : (w1.setCell ⟨k, 14, none⟩ (.string t)).cell? ⟨w.heap.size, 3, none⟩ = some (.int .i64 (x3 : Int)) := cell_of_row _ _ 3 _ _ _ hb2))
  go_ret
  exact ⟨rfl, hq2⟩
set_option maxHeartbeats 1000000 in
theorem open_60b_64 (b t0 n0 t : ByteArray) (k : Nat) (o : Int) (n cp g : Nat) (cur : Array Value) (y0 y1 y2 y3 y4 y5 y6 y7 : Nat) (x0 x1 x2 x3 x4 x5 x6 : Nat) (w : World) (hF : w.heap[k]? = some (.cells (tabCells col64 o t0 n0) 75 (0, 0))) (hx6 : x6 < 18446744073709551616) (hx : x6 % 24 = 0) (hli : x3 < n) (hn : n ≤ 26214) (hg : w.heap[g]? = some (.cells cur 77 (0, 0))) (hgk : g ≠ k) (hy : ∀ m, m < 8 → cur[x3 * 8 + m]? = (#[.int .i64 (y0 : Int), .int .i64 (y1 : Int), .int .u64 (y2 : Int), .int .i64 (y3 : Int), .int .i64 (y4 : Int), .int .u64 (y5 : Int), .int .u64 (y6 : Int), .int .u64 (y7 : Int)] : Array Value)[m]?) (h3 : y1 ≠ 3)
    (hC : ∀ w : World, Calls Tryd.prog 58 #[.string b, .agg #[.int .i64 (x0 : Int), .int .i64 (x1 : Int), .int .u64 (x2 : Int), .int .i64 (x3 : Int), .int .i64 (x4 : Int), .int .u64 (x5 : Int), .int .u64 (x6 : Int), .int .u64 24]] w fun r w' => r = .returned (.tuple #[.string t, .int .i64 0]) ∧ Below w.heap.size w w') :
    Calls Tryd.prog 36 #[.pointer (some ⟨k, 0, none⟩), .string b, .slice (some ⟨g, 0, none⟩) n cp, .agg #[.int .i64 (x0 : Int), .int .i64 (x1 : Int), .int .u64 (x2 : Int), .int .i64 (x3 : Int), .int .i64 (x4 : Int), .int .u64 (x5 : Int), .int .u64 (x6 : Int), .int .u64 24]] w fun r w' => r = .returned (.int .i64 60) ∧ Kq k w w' := by
  have hk : k < w.heap.size := (Array.getElem?_eq_some_iff.1 hF).1
  have c0 : (w.alloc (.cells #[.int .i64 (x0 : Int), .int .i64 (x1 : Int), .int .u64 (x2 : Int), .int .i64 (x3 : Int), .int .i64 (x4 : Int), .int .u64 (x5 : Int), .int .u64 (x6 : Int), .int .u64 24] 77)).cell? ⟨k, 0, none⟩ = some (.int .u64 24) := by rw [World.cell?_alloc_past _ _ _ hk, cell_of_row _ _ _ _ _ _ hF]; rfl
  have HC := Hid.mk' hC
  have hge : ¬ (n : Int) ≤ (x3 : Int) := Int.not_le.2 (Int.ofNat_lt.2 hli)
  have hlt : (x3 : Int) < (n : Int) := Int.ofNat_lt.2 hli
  have hl0 : (0 : Int) ≤ (x3 : Int) := Int.natCast_nonneg _
  have h3n : ((y1 : Int) != 3) = true := bne_iff_ne.2 (by omega)
  clear hC h3
  have h60 : (0 : Int) ≤ (x6 : Int) := Int.natCast_nonneg _
  have h61 : (x6 : Int) ≤ 18446744073709551615 := Int.ofNat_le.2 (Nat.le_of_lt_succ hx6)
  have hne : ((x6 : Int) % 24 != 0) = false := bne_eq_false_iff_eq.2 (by omega)
  have hbx : (w.alloc (.cells #[.int .i64 (x0 : Int), .int .i64 (x1 : Int), .int .u64 (x2 : Int), .int .i64 (x3 : Int), .int .i64 (x4 : Int), .int .u64 (x5 : Int), .int .u64 (x6 : Int), .int .u64 24] 77)).heap[w.heap.size]? = some (.cells #[.int .i64 (x0 : Int), .int .i64 (x1 : Int), .int .u64 (x2 : Int), .int .i64 (x3 : Int), .int .i64 (x4 : Int), .int .u64 (x5 : Int), .int .u64 (x6 : Int), .int .u64 24] 77 (0, 0)) := heap_alloc_new w _
  have hB0 : Below w.heap.size w (w.alloc (.cells #[.int .i64 (x0 : Int), .int .i64 (x1 : Int), .int .u64 (x2 : Int), .int .i64 (x3 : Int), .int .i64 (x4 : Int), .int .u64 (x5 : Int), .int .u64 (x6 : Int), .int .u64 24] 77)) := Below.alloc (Below.refl _ _) (Nat.le_refl _) _
  have hFb : (w.alloc (.cells #[.int .i64 (x0 : Int), .int .i64 (x1 : Int), .int .u64 (x2 : Int), .int .i64 (x3 : Int), .int .i64 (x4 : Int), .int .u64 (x5 : Int), .int .u64 (x6 : Int), .int .u64 24] 77)).heap[k]? = some (.cells (tabCells col64 o t0 n0) 75 (0, 0)) := (Below.heap_alloc w _ k hk).trans hF
  have hzb : (w.alloc (.cells #[.int .i64 (x0 : Int), .int .i64 (x1 : Int), .int .u64 (x2 : Int), .int .i64 (x3 : Int), .int .i64 (x4 : Int), .int .u64 (x5 : Int), .int .u64 (x6 : Int), .int .u64 24] 77)).heap.size = w.heap.size + 1 := size_alloc _ _
  clear hF hx hx6
  have HK := Hid.mk' (And.intro hbx (And.intro hB0 (And.intro hFb (And.intro hzb hk))))
  clear hbx hB0 hFb hzb hk
  go_enter Tryd.func36, Tryd.ntmps36
  go_wp2_with fail
  go_quiet (fail)
  obtain ⟨hbx, hB0, hFb, hzb, hk⟩ := HK.out
  clear HK c0 hne h60 h61
  have hB1 : Below w.heap.size w ((w.alloc (.cells #[.int .i64 (x0 : Int), .int .i64 (x1 : Int), .int .u64 (x2 : Int), .int .i64 (x3 : Int), .int .i64 (x4 : Int), .int .u64 (x5 : Int), .int .u64 (x6 : Int), .int .u64 24] 77)).drewN nq) := below_drewN hB0 _
  have hF1 : ((w.alloc (.cells #[.int .i64 (x0 : Int), .int .i64 (x1 : Int), .int .u64 (x2 : Int), .int .i64 (x3 : Int), .int .i64 (x4 : Int), .int .u64 (x5 : Int), .int .u64 (x6 : Int), .int .u64 24] 77)).drewN nq).heap[k]? = some (.cells (tabCells col64 o t0 n0) 75 (0, 0)) := hFb
  have hb1 : ((w.alloc (.cells #[.int .i64 (x0 : Int), .int .i64 (x1 : Int), .int .u64 (x2 : Int), .int .i64 (x3 : Int), .int .i64 (x4 : Int), .int .u64 (x5 : Int), .int .u64 (x6 : Int), .int .u64 24] 77)).drewN nq).heap[w.heap.size]? = some (.cells #[.int .i64 (x0 : Int), .int .i64 (x1 : Int), .int .u64 (x2 : Int), .int .i64 (x3 : Int), .int .i64 (x4 : Int), .int .u64 (x5 : Int), .int .u64 (x6 : Int), .int .u64 24] 77 (0, 0)) := hbx
  have hz1 : ((w.alloc (.cells #[.int .i64 (x0 : Int), .int .i64 (x1 : Int), .int .u64 (x2 : Int), .int .i64 (x3 : Int), .int .i64 (x4 : Int), .int .u64 (x5 : Int), .int .u64 (x6 : Int), .int .u64 24] 77)).drewN nq).heap.size = w.heap.size + 1 := hzb
  clear hB0 hFb hbx hzb
  generalize ((w.alloc (.cells #[.int .i64 (x0 : Int), .int .i64 (x1 : Int), .int .u64 (x2 : Int), .int .i64 (x3 : Int), .int .i64 (x4 : Int), .int .u64 (x5 : Int), .int .u64 (x6 : Int), .int .u64 24] 77)).drewN nq) = W at hB1 hF1 hb1 hz1 ⊢
  have HFZ : Hid (∀ w1, Below W.heap.size W w1 → w1.cell? ⟨k, 14, none⟩ = some (.string t0) ∧ w1.frozen? ⟨k, 14, none⟩ = false) := fun w1 hb => by
    have h := (hb.block k (by omega)).trans hF1
    exact ⟨(cell_of_row _ _ 14 _ _ _ h).trans rfl, frozen_of_row _ _ 14 _ _ h⟩
  go_wp2_with (first
    | (refine wpList_load_row rfl _ _ rfl w.heap.size rfl _ _ _ _ hb1 Tryd.underlying77 rfl (by kernel_rfl) ?_)
    | (go_at_call 58; refine (HC.out _).mono ?_; rintro r w1 ⟨rfl, hbc⟩; obtain ⟨c14, z14⟩ := HFZ.out w1 hbc; have hF2 : (w1.setCell ⟨k, 14, none⟩ (.string t)).heap[k]? = some (.cells (tabCells col64 o t n0) 75 (0, 0)) := (set_row (.string t) ((hbc.block k (by omega)).trans hF1)).trans rfl; have hb2 : (w1.setCell ⟨k, 14, none⟩ (.string t)).heap[w.heap.size]? = some (.cells #[.int .i64 (x0 : Int), .int .i64 (x1 : Int), .int .u64 (x2 : Int), .int .i64 (x3 : Int), .int .i64 (x4 : Int), .int .u64 (x5 : Int), .int .u64 (x6 : Int), .int .u64 24] 77 (0, 0)) := (Below.heap_setCell w1 _ _ _ (by show w.heap.size ≠ k; omega)).trans ((hbc.block _ (by omega)).trans hb1); have hq2 : Kq k w (w1.setCell ⟨k, 14, none⟩ (.string t)) := ((Kq.of hB1).trans (Kq.of (hbc.mono (Nat.le_refl _)))).set _ _; have hx3 : (w1.setCell ⟨k, 14, none⟩ (.string t)).cell? ⟨w.heap.size, 3, none⟩ = some (.int .i64 (x3 : Int)) := cell_of_row _ _ 3 _ _ _ hb2; have hg2 : (w1.setCell ⟨k, 14, none⟩ (.string t)).heap[g]? = some (.cells cur 77 (0, 0)) := (hq2.block g hgk (Array.getElem?_eq_some_iff.1 hg).1).trans hg; have a0 : (w1.setCell ⟨k, 14, none⟩ (.string t)).cell? ⟨g, x3 * 8, none⟩ = some (.int .i64 (y0 : Int)) := (cell_of_row _ _ _ _ _ _ hg2).trans (hy 0 (by omega)); have a1 : (w1.setCell ⟨k, 14, none⟩ (.string t)).cell? ⟨g, x3 * 8 + 1, none⟩ = some (.int .i64 (y1 : Int)) := (cell_of_row _ _ _ _ _ _ hg2).trans (hy 1 (by omega)); have a2 : (w1.setCell ⟨k, 14, none⟩ (.string t)).cell? ⟨g, x3 * 8 + 2, none⟩ = some (.int .u64 (y2 : Int)) := (cell_of_row _ _ _ _ _ _ hg2).trans (hy 2 (by omega)); have a3 : (w1.setCell ⟨k, 14, none⟩ (.string t)).cell? ⟨g, x3 * 8 + 3, none⟩ = some (.int .i64 (y3 : Int)) := (cell_of_row _ _ _ _ _ _ hg2).trans (hy 3 (by omega)); have a4 : (w1.setCell ⟨k, 14, none⟩ (.string t)).cell? ⟨g, x3 * 8 + 4, none⟩ = some (.int .i64 (y4 : Int)) := (cell_of_row _ _ _ _ _ _ hg2).trans (hy 4 (by omega)); have a5 : (w1.setCell ⟨k, 14, none⟩ (.string t)).cell? ⟨g, x3 * 8 + 5, none⟩ = some (.int .u64 (y5 : Int)) := (cell_of_row _ _ _ _ _ _ hg2).trans (hy 5 (by omega)); have a6 : (w1.setCell ⟨k, 14, none⟩ (.string t)).cell? ⟨g, x3 * 8 + 6, none⟩ = some (.int .u64 (y6 : Int)) := (cell_of_row _ _ _ _ _ _ hg2).trans (hy 6 (by omega)); have a7 : (w1.setCell ⟨k, 14, none⟩ (.string t)).cell? ⟨g, x3 * 8 + 7, none⟩ = some (.int .u64 (y7 : Int)) := (cell_of_row _ _ _ _ _ _ hg2).trans (hy 7 (by omega))))
  go_ret
  exact ⟨rfl, hq2⟩
set_option maxHeartbeats 1000000 in
theorem open_54b_64 (b t0 n0 t : ByteArray) (k : Nat) (o : Int) (n cp g : Nat) (cur : Array Value) (y0 y2 y3 y4 y5 y6 y7 : Nat) (x0 x1 x2 x3 x4 x5 x6 : Nat) (w : World) (hF : w.heap[k]? = some (.cells (tabCells col64 o t0 n0) 75 (0, 0))) (hx6 : x6 < 18446744073709551616) (hx : x6 % 24 = 0) (hli : x3 < n) (hn : n ≤ 26214) (hg : w.heap[g]? = some (.cells cur 77 (0, 0))) (hgk : g ≠ k) (hy : ∀ m, m < 8 → cur[x3 * 8 + m]? = (#[.int .i64 (y0 : Int), .int .i64 3, .int .u64 (y2 : Int), .int .i64 (y3 : Int), .int .i64 (y4 : Int), .int .u64 (y5 : Int), .int .u64 (y6 : Int), .int .u64 (y7 : Int)] : Array Value)[m]?)
    (hC : ∀ w : World, Calls Tryd.prog 58 #[.string b, .agg #[.int .i64 (x0 : Int), .int .i64 (x1 : Int), .int .u64 (x2 : Int), .int .i64 (x3 : Int), .int .i64 (x4 : Int), .int .u64 (x5 : Int), .int .u64 (x6 : Int), .int .u64 24]] w fun r w' => r = .returned (.tuple #[.string t, .int .i64 0]) ∧ Below w.heap.size w w')
    (hD : ∀ w : World, Calls Tryd.prog 58 #[.string b, .agg #[.int .i64 (y0 : Int), .int .i64 3, .int .u64 (y2 : Int), .int .i64 (y3 : Int), .int .i64 (y4 : Int), .int .u64 (y5 : Int), .int .u64 (y6 : Int), .int .u64 (y7 : Int)]] w fun r w' => r = .returned (.tuple #[.string .empty, .int .i64 54]) ∧ Below w.heap.size w w') :
    Calls Tryd.prog 36 #[.pointer (some ⟨k, 0, none⟩), .string b, .slice (some ⟨g, 0, none⟩) n cp, .agg #[.int .i64 (x0 : Int), .int .i64 (x1 : Int), .int .u64 (x2 : Int), .int .i64 (x3 : Int), .int .i64 (x4 : Int), .int .u64 (x5 : Int), .int .u64 (x6 : Int), .int .u64 24]] w fun r w' => r = .returned (.int .i64 54) ∧ Kq k w w' := by
  have hk : k < w.heap.size := (Array.getElem?_eq_some_iff.1 hF).1
  have c0 : (w.alloc (.cells #[.int .i64 (x0 : Int), .int .i64 (x1 : Int), .int .u64 (x2 : Int), .int .i64 (x3 : Int), .int .i64 (x4 : Int), .int .u64 (x5 : Int), .int .u64 (x6 : Int), .int .u64 24] 77)).cell? ⟨k, 0, none⟩ = some (.int .u64 24) := by rw [World.cell?_alloc_past _ _ _ hk, cell_of_row _ _ _ _ _ _ hF]; rfl
  have HC := Hid.mk' hC
  have HD := Hid.mk' hD
  have hge : ¬ (n : Int) ≤ (x3 : Int) := Int.not_le.2 (Int.ofNat_lt.2 hli)
  have hlt : (x3 : Int) < (n : Int) := Int.ofNat_lt.2 hli
  have hl0 : (0 : Int) ≤ (x3 : Int) := Int.natCast_nonneg _
  clear hC hD
  have h60 : (0 : Int) ≤ (x6 : Int) := Int.natCast_nonneg _
  have h61 : (x6 : Int) ≤ 18446744073709551615 := Int.ofNat_le.2 (Nat.le_of_lt_succ hx6)
  have hne : ((x6 : Int) % 24 != 0) = false := bne_eq_false_iff_eq.2 (by omega)
  have hbx : (w.alloc (.cells #[.int .i64 (x0 : Int), .int .i64 (x1 : Int), .int .u64 (x2 : Int), .int .i64 (x3 : Int), .int .i64 (x4 : Int), .int .u64 (x5 : Int), .int .u64 (x6 : Int), .int .u64 24] 77)).heap[w.heap.size]? = some (.cells #[.int .i64 (x0 : Int), .int .i64 (x1 : Int), .int .u64 (x2 : Int), .int .i64 (x3 : Int), .int .i64 (x4 : Int), .int .u64 (x5 : Int), .int .u64 (x6 : Int), .int .u64 24] 77 (0, 0)) := heap_alloc_new w _
  have hB0 : Below w.heap.size w (w.alloc (.cells #[.int .i64 (x0 : Int), .int .i64 (x1 : Int), .int .u64 (x2 : Int), .int .i64 (x3 : Int), .int .i64 (x4 : Int), .int .u64 (x5 : Int), .int .u64 (x6 : Int), .int .u64 24] 77)) := Below.alloc (Below.refl _ _) (Nat.le_refl _) _
  have hFb : (w.alloc (.cells #[.int .i64 (x0 : Int), .int .i64 (x1 : Int), .int .u64 (x2 : Int), .int .i64 (x3 : Int), .int .i64 (x4 : Int), .int .u64 (x5 : Int), .int .u64 (x6 : Int), .int .u64 24] 77)).heap[k]? = some (.cells (tabCells col64 o t0 n0) 75 (0, 0)) := (Below.heap_alloc w _ k hk).trans hF
  have hzb : (w.alloc (.cells #[.int .i64 (x0 : Int), .int .i64 (x1 : Int), .int .u64 (x2 : Int), .int .i64 (x3 : Int), .int .i64 (x4 : Int), .int .u64 (x5 : Int), .int .u64 (x6 : Int), .int .u64 24] 77)).heap.size = w.heap.size + 1 := size_alloc _ _
  clear hF hx hx6
  have HK := Hid.mk' (And.intro hbx (And.intro hB0 (And.intro hFb (And.intro hzb hk))))
  clear hbx hB0 hFb hzb hk
  go_enter Tryd.func36, Tryd.ntmps36
  go_wp2_with fail
  go_quiet (fail)
  obtain ⟨hbx, hB0, hFb, hzb, hk⟩ := HK.out
  clear HK c0 hne h60 h61
  have hB1 : Below w.heap.size w ((w.alloc (.cells #[.int .i64 (x0 : Int), .int .i64 (x1 : Int), .int .u64 (x2 : Int), .int .i64 (x3 : Int), .int .i64 (x4 : Int), .int .u64 (x5 : Int), .int .u64 (x6 : Int), .int .u64 24] 77)).drewN nq) := below_drewN hB0 _
  have hF1 : ((w.alloc (.cells #[.int .i64 (x0 : Int), .int .i64 (x1 : Int), .int .u64 (x2 : Int), .int .i64 (x3 : Int), .int .i64 (x4 : Int), .int .u64 (x5 : Int), .int .u64 (x6 : Int), .int .u64 24] 77)).drewN nq).heap[k]? = some (.cells (tabCells col64 o t0 n0) 75 (0, 0)) := hFb
  have hb1 : ((w.alloc (.cells #[.int .i64 (x0 : Int), .int .i64 (x1 : Int), .int .u64 (x2 : Int), .int .i64 (x3 : Int), .int .i64 (x4 : Int), .int .u64 (x5 : Int), .int .u64 (x6 : Int), .int .u64 24] 77)).drewN nq).heap[w.heap.size]? = some (.cells #[.int .i64 (x0 : Int), .int .i64 (x1 : Int), .int .u64 (x2 : Int), .int .i64 (x3 : Int), .int .i64 (x4 : Int), .int .u64 (x5 : Int), .int .u64 (x6 : Int), .int .u64 24] 77 (0, 0)) := hbx
  have hz1 : ((w.alloc (.cells #[.int .i64 (x0 : Int), .int .i64 (x1 : Int), .int .u64 (x2 : Int), .int .i64 (x3 : Int), .int .i64 (x4 : Int), .int .u64 (x5 : Int), .int .u64 (x6 : Int), .int .u64 24] 77)).drewN nq).heap.size = w.heap.size + 1 := hzb
  clear hB0 hFb hbx hzb
  generalize ((w.alloc (.cells #[.int .i64 (x0 : Int), .int .i64 (x1 : Int), .int .u64 (x2 : Int), .int .i64 (x3 : Int), .int .i64 (x4 : Int), .int .u64 (x5 : Int), .int .u64 (x6 : Int), .int .u64 24] 77)).drewN nq) = W at hB1 hF1 hb1 hz1 ⊢
  have HFZ : Hid (∀ w1, Below W.heap.size W w1 → w1.cell? ⟨k, 14, none⟩ = some (.string t0) ∧ w1.frozen? ⟨k, 14, none⟩ = false) := fun w1 hb => by
    have h := (hb.block k (by omega)).trans hF1
    exact ⟨(cell_of_row _ _ 14 _ _ _ h).trans rfl, frozen_of_row _ _ 14 _ _ h⟩
  go_wp2_with (first
    | (refine wpList_load_row rfl _ _ rfl w.heap.size rfl _ _ _ _ hb1 Tryd.underlying77 rfl (by kernel_rfl) ?_))
  go_at_call 58
  refine (HC.out _).mono ?_
  rintro r w1 ⟨rfl, hbc⟩
  obtain ⟨c14, z14⟩ := HFZ.out w1 hbc
  have hF2 : (w1.setCell ⟨k, 14, none⟩ (.string t)).heap[k]? = some (.cells (tabCells col64 o t n0) 75 (0, 0)) := (set_row (.string t) ((hbc.block k (by omega)).trans hF1)).trans rfl
  have hb2 : (w1.setCell ⟨k, 14, none⟩ (.string t)).heap[w.heap.size]? = some (.cells #[.int .i64 (x0 : Int), .int .i64 (x1 : Int), .int .u64 (x2 : Int), .int .i64 (x3 : Int), .int .i64 (x4 : Int), .int .u64 (x5 : Int), .int .u64 (x6 : Int), .int .u64 24] 77 (0, 0)) := (Below.heap_setCell w1 _ _ _ (by show w.heap.size ≠ k; omega)).trans ((hbc.block _ (by omega)).trans hb1)
  have hq2 : Kq k w (w1.setCell ⟨k, 14, none⟩ (.string t)) := ((Kq.of hB1).trans (Kq.of (hbc.mono (Nat.le_refl _)))).set _ _
  have hx3 : (w1.setCell ⟨k, 14, none⟩ (.string t)).cell? ⟨w.heap.size, 3, none⟩ = some (.int .i64 (x3 : Int)) := cell_of_row _ _ 3 _ _ _ hb2
  have hg2 : (w1.setCell ⟨k, 14, none⟩ (.string t)).heap[g]? = some (.cells cur 77 (0, 0)) := (hq2.block g hgk (Array.getElem?_eq_some_iff.1 hg).1).trans hg
  have a0 : (w1.setCell ⟨k, 14, none⟩ (.string t)).cell? ⟨g, x3 * 8, none⟩ = some (.int .i64 (y0 : Int)) := (cell_of_row _ _ _ _ _ _ hg2).trans (hy 0 (by omega))
  have a1 : (w1.setCell ⟨k, 14, none⟩ (.string t)).cell? ⟨g, x3 * 8 + 1, none⟩ = some (.int .i64 3) := (cell_of_row _ _ _ _ _ _ hg2).trans (hy 1 (by omega))
  have a2 : (w1.setCell ⟨k, 14, none⟩ (.string t)).cell? ⟨g, x3 * 8 + 2, none⟩ = some (.int .u64 (y2 : Int)) := (cell_of_row _ _ _ _ _ _ hg2).trans (hy 2 (by omega))
  have a3 : (w1.setCell ⟨k, 14, none⟩ (.string t)).cell? ⟨g, x3 * 8 + 3, none⟩ = some (.int .i64 (y3 : Int)) := (cell_of_row _ _ _ _ _ _ hg2).trans (hy 3 (by omega))
  have a4 : (w1.setCell ⟨k, 14, none⟩ (.string t)).cell? ⟨g, x3 * 8 + 4, none⟩ = some (.int .i64 (y4 : Int)) := (cell_of_row _ _ _ _ _ _ hg2).trans (hy 4 (by omega))
  have a5 : (w1.setCell ⟨k, 14, none⟩ (.string t)).cell? ⟨g, x3 * 8 + 5, none⟩ = some (.int .u64 (y5 : Int)) := (cell_of_row _ _ _ _ _ _ hg2).trans (hy 5 (by omega))
  have a6 : (w1.setCell ⟨k, 14, none⟩ (.string t)).cell? ⟨g, x3 * 8 + 6, none⟩ = some (.int .u64 (y6 : Int)) := (cell_of_row _ _ _ _ _ _ hg2).trans (hy 6 (by omega))
  have a7 : (w1.setCell ⟨k, 14, none⟩ (.string t)).cell? ⟨g, x3 * 8 + 7, none⟩ = some (.int .u64 (y7 : Int)) := (cell_of_row _ _ _ _ _ _ hg2).trans (hy 7 (by omega))
  have hra : (w1.setCell ⟨k, 14, none⟩ (.string t)).rangeAt g (x3 * 8) [.int .i64 (y0 : Int), .int .i64 3, .int .u64 (y2 : Int), .int .i64 (y3 : Int), .int .i64 (y4 : Int), .int .u64 (y5 : Int), .int .u64 (y6 : Int), .int .u64 (y7 : Int)] := fun j u hj => (cell_of_row _ _ _ _ _ _ hg2).trans ((hy j (List.getElem?_eq_some_iff.1 hj).1).trans (List.getElem?_toArray.trans hj))
  clear hF1 hz1 hbc HC HFZ hB1 hb1 hra
  go_wp2_with (first
    | (go_at_call 58; refine (HD.out _).mono ?_; rintro r w4 ⟨rfl, hbd⟩; have hF4 := (hbd.block k (Array.getElem?_eq_some_iff.1 hF2).1).trans hF2; have c15 : w4.cell? ⟨k, 15, none⟩ = some (.string n0) := (cell_of_row _ _ 15 _ _ _ hF4).trans rfl; have z15 : w4.frozen? ⟨k, 15, none⟩ = false := frozen_of_row _ _ 15 _ _ hF4))
  go_ret
  exact ⟨rfl, (hq2.trans (Kq.of hbd)).set _ _⟩
set_option maxHeartbeats 1000000 in
theorem open_ok_64 (b t0 n0 t names : ByteArray) (k : Nat) (o : Int) (n cp g : Nat) (cur : Array Value) (y0 y2 y3 y4 y5 y6 y7 : Nat) (x0 x1 x2 x3 x4 x5 x6 : Nat) (w : World) (hF : w.heap[k]? = some (.cells (tabCells col64 o t0 n0) 75 (0, 0))) (hx6 : x6 < 18446744073709551616) (hx : x6 % 24 = 0) (hli : x3 < n) (hn : n ≤ 26214) (hg : w.heap[g]? = some (.cells cur 77 (0, 0))) (hgk : g ≠ k) (hy : ∀ m, m < 8 → cur[x3 * 8 + m]? = (#[.int .i64 (y0 : Int), .int .i64 3, .int .u64 (y2 : Int), .int .i64 (y3 : Int), .int .i64 (y4 : Int), .int .u64 (y5 : Int), .int .u64 (y6 : Int), .int .u64 (y7 : Int)] : Array Value)[m]?)
    (hC : ∀ w : World, Calls Tryd.prog 58 #[.string b, .agg #[.int .i64 (x0 : Int), .int .i64 (x1 : Int), .int .u64 (x2 : Int), .int .i64 (x3 : Int), .int .i64 (x4 : Int), .int .u64 (x5 : Int), .int .u64 (x6 : Int), .int .u64 24]] w fun r w' => r = .returned (.tuple #[.string t, .int .i64 0]) ∧ Below w.heap.size w w')
    (hD : ∀ w : World, Calls Tryd.prog 58 #[.string b, .agg #[.int .i64 (y0 : Int), .int .i64 3, .int .u64 (y2 : Int), .int .i64 (y3 : Int), .int .i64 (y4 : Int), .int .u64 (y5 : Int), .int .u64 (y6 : Int), .int .u64 (y7 : Int)]] w fun r w' => r = .returned (.tuple #[.string names, .int .i64 0]) ∧ Below w.heap.size w w') :
    Calls Tryd.prog 36 #[.pointer (some ⟨k, 0, none⟩), .string b, .slice (some ⟨g, 0, none⟩) n cp, .agg #[.int .i64 (x0 : Int), .int .i64 (x1 : Int), .int .u64 (x2 : Int), .int .i64 (x3 : Int), .int .i64 (x4 : Int), .int .u64 (x5 : Int), .int .u64 (x6 : Int), .int .u64 24]] w fun r w' => r = .returned (.int .i64 0) ∧ Kq k w w' ∧ w'.heap[k]? = some (.cells (tabCells col64 o t names) 75 (0, 0)) := by
  have hk : k < w.heap.size := (Array.getElem?_eq_some_iff.1 hF).1
  have c0 : (w.alloc (.cells #[.int .i64 (x0 : Int), .int .i64 (x1 : Int), .int .u64 (x2 : Int), .int .i64 (x3 : Int), .int .i64 (x4 : Int), .int .u64 (x5 : Int), .int .u64 (x6 : Int), .int .u64 24] 77)).cell? ⟨k, 0, none⟩ = some (.int .u64 24) := by rw [World.cell?_alloc_past _ _ _ hk, cell_of_row _ _ _ _ _ _ hF]; rfl
  have HC := Hid.mk' hC
  have HD := Hid.mk' hD
  have hge : ¬ (n : Int) ≤ (x3 : Int) := Int.not_le.2 (Int.ofNat_lt.2 hli)
  have hlt : (x3 : Int) < (n : Int) := Int.ofNat_lt.2 hli
  have hl0 : (0 : Int) ≤ (x3 : Int) := Int.natCast_nonneg _
  clear hC hD
  have h60 : (0 : Int) ≤ (x6 : Int) := Int.natCast_nonneg _
  have h61 : (x6 : Int) ≤ 18446744073709551615 := Int.ofNat_le.2 (Nat.le_of_lt_succ hx6)
  have hne : ((x6 : Int) % 24 != 0) = false := bne_eq_false_iff_eq.2 (by omega)
  have hbx : (w.alloc (.cells #[.int .i64 (x0 : Int), .int .i64 (x1 : Int), .int .u64 (x2 : Int), .int .i64 (x3 : Int), .int .i64 (x4 : Int), .int .u64 (x5 : Int), .int .u64 (x6 : Int), .int .u64 24] 77)).heap[w.heap.size]? = some (.cells #[.int .i64 (x0 : Int), .int .i64 (x1 : Int), .int .u64 (x2 : Int), .int .i64 (x3 : Int), .int .i64 (x4 : Int), .int .u64 (x5 : Int), .int .u64 (x6 : Int), .int .u64 24] 77 (0, 0)) := heap_alloc_new w _
  have hB0 : Below w.heap.size w (w.alloc (.cells #[.int .i64 (x0 : Int), .int .i64 (x1 : Int), .int .u64 (x2 : Int), .int .i64 (x3 : Int), .int .i64 (x4 : Int), .int .u64 (x5 : Int), .int .u64 (x6 : Int), .int .u64 24] 77)) := Below.alloc (Below.refl _ _) (Nat.le_refl _) _
  have hFb : (w.alloc (.cells #[.int .i64 (x0 : Int), .int .i64 (x1 : Int), .int .u64 (x2 : Int), .int .i64 (x3 : Int), .int .i64 (x4 : Int), .int .u64 (x5 : Int), .int .u64 (x6 : Int), .int .u64 24] 77)).heap[k]? = some (.cells (tabCells col64 o t0 n0) 75 (0, 0)) := (Below.heap_alloc w _ k hk).trans hF
  have hzb : (w.alloc (.cells #[.int .i64 (x0 : Int), .int .i64 (x1 : Int), .int .u64 (x2 : Int), .int .i64 (x3 : Int), .int .i64 (x4 : Int), .int .u64 (x5 : Int), .int .u64 (x6 : Int), .int .u64 24] 77)).heap.size = w.heap.size + 1 := size_alloc _ _
  clear hF hx hx6
  have HK := Hid.mk' (And.intro hbx (And.intro hB0 (And.intro hFb (And.intro hzb hk))))
  clear hbx hB0 hFb hzb hk
  go_enter Tryd.func36, Tryd.ntmps36
  go_wp2_with fail
  go_quiet (fail)
  obtain ⟨hbx, hB0, hFb, hzb, hk⟩ := HK.out
  clear HK c0 hne h60 h61
  have hB1 : Below w.heap.size w ((w.alloc (.cells #[.int .i64 (x0 : Int), .int .i64 (x1 : Int), .int .u64 (x2 : Int), .int .i64 (x3 : Int), .int .i64 (x4 : Int), .int .u64 (x5 : Int), .int .u64 (x6 : Int), .int .u64 24] 77)).drewN nq) := below_drewN hB0 _
  have hF1 : ((w.alloc (.cells #[.int .i64 (x0 : Int), .int .i64 (x1 : Int), .int .u64 (x2 : Int), .int .i64 (x3 : Int), .int .i64 (x4 : Int), .int .u64 (x5 : Int), .int .u64 (x6 : Int), .int .u64 24] 77)).drewN nq).heap[k]? = some (.cells (tabCells col64 o t0 n0) 75 (0, 0)) := hFb
  have hb1 : ((w.alloc (.cells #[.int .i64 (x0 : Int), .int .i64 (x1 : Int), .int .u64 (x2 : Int), .int .i64 (x3 : Int), .int .i64 (x4 : Int), .int .u64 (x5 : Int), .int .u64 (x6 : Int), .int .u64 24] 77)).drewN nq).heap[w.heap.size]? = some (.cells #[.int .i64 (x0 : Int), .int .i64 (x1 : Int), .int .u64 (x2 : Int), .int .i64 (x3 : Int), .int .i64 (x4 : Int), .int .u64 (x5 : Int), .int .u64 (x6 : Int), .int .u64 24] 77 (0, 0)) := hbx
  have hz1 : ((w.alloc (.cells #[.int .i64 (x0 : Int), .int .i64 (x1 : Int), .int .u64 (x2 : Int), .int .i64 (x3 : Int), .int .i64 (x4 : Int), .int .u64 (x5 : Int), .int .u64 (x6 : Int), .int .u64 24] 77)).drewN nq).heap.size = w.heap.size + 1 := hzb
  clear hB0 hFb hbx hzb
  generalize ((w.alloc (.cells #[.int .i64 (x0 : Int), .int .i64 (x1 : Int), .int .u64 (x2 : Int), .int .i64 (x3 : Int), .int .i64 (x4 : Int), .int .u64 (x5 : Int), .int .u64 (x6 : Int), .int .u64 24] 77)).drewN nq) = W at hB1 hF1 hb1 hz1 ⊢
  have HFZ : Hid (∀ w1, Below W.heap.size W w1 → w1.cell? ⟨k, 14, none⟩ = some (.string t0) ∧ w1.frozen? ⟨k, 14, none⟩ = false) := fun w1 hb => by
    have h := (hb.block k (by omega)).trans hF1
    exact ⟨(cell_of_row _ _ 14 _ _ _ h).trans rfl, frozen_of_row _ _ 14 _ _ h⟩
  go_wp2_with (first
    | (refine wpList_load_row rfl _ _ rfl w.heap.size rfl _ _ _ _ hb1 Tryd.underlying77 rfl (by kernel_rfl) ?_))
  go_at_call 58
  refine (HC.out _).mono ?_
  rintro r w1 ⟨rfl, hbc⟩
  obtain ⟨c14, z14⟩ := HFZ.out w1 hbc
  have hF2 : (w1.setCell ⟨k, 14, none⟩ (.string t)).heap[k]? = some (.cells (tabCells col64 o t n0) 75 (0, 0)) := (set_row (.string t) ((hbc.block k (by omega)).trans hF1)).trans rfl
  have hb2 : (w1.setCell ⟨k, 14, none⟩ (.string t)).heap[w.heap.size]? = some (.cells #[.int .i64 (x0 : Int), .int .i64 (x1 : Int), .int .u64 (x2 : Int), .int .i64 (x3 : Int), .int .i64 (x4 : Int), .int .u64 (x5 : Int), .int .u64 (x6 : Int), .int .u64 24] 77 (0, 0)) := (Below.heap_setCell w1 _ _ _ (by show w.heap.size ≠ k; omega)).trans ((hbc.block _ (by omega)).trans hb1)
  have hq2 : Kq k w (w1.setCell ⟨k, 14, none⟩ (.string t)) := ((Kq.of hB1).trans (Kq.of (hbc.mono (Nat.le_refl _)))).set _ _
  have hx3 : (w1.setCell ⟨k, 14, none⟩ (.string t)).cell? ⟨w.heap.size, 3, none⟩ = some (.int .i64 (x3 : Int)) := cell_of_row _ _ 3 _ _ _ hb2
  have hg2 : (w1.setCell ⟨k, 14, none⟩ (.string t)).heap[g]? = some (.cells cur 77 (0, 0)) := (hq2.block g hgk (Array.getElem?_eq_some_iff.1 hg).1).trans hg
  have a0 : (w1.setCell ⟨k, 14, none⟩ (.string t)).cell? ⟨g, x3 * 8, none⟩ = some (.int .i64 (y0 : Int)) := (cell_of_row _ _ _ _ _ _ hg2).trans (hy 0 (by omega))
  have a1 : (w1.setCell ⟨k, 14, none⟩ (.string t)).cell? ⟨g, x3 * 8 + 1, none⟩ = some (.int .i64 3) := (cell_of_row _ _ _ _ _ _ hg2).trans (hy 1 (by omega))
  have a2 : (w1.setCell ⟨k, 14, none⟩ (.string t)).cell? ⟨g, x3 * 8 + 2, none⟩ = some (.int .u64 (y2 : Int)) := (cell_of_row _ _ _ _ _ _ hg2).trans (hy 2 (by omega))
  have a3 : (w1.setCell ⟨k, 14, none⟩ (.string t)).cell? ⟨g, x3 * 8 + 3, none⟩ = some (.int .i64 (y3 : Int)) := (cell_of_row _ _ _ _ _ _ hg2).trans (hy 3 (by omega))
  have a4 : (w1.setCell ⟨k, 14, none⟩ (.string t)).cell? ⟨g, x3 * 8 + 4, none⟩ = some (.int .i64 (y4 : Int)) := (cell_of_row _ _ _ _ _ _ hg2).trans (hy 4 (by omega))
  have a5 : (w1.setCell ⟨k, 14, none⟩ (.string t)).cell? ⟨g, x3 * 8 + 5, none⟩ = some (.int .u64 (y5 : Int)) := (cell_of_row _ _ _ _ _ _ hg2).trans (hy 5 (by omega))
  have a6 : (w1.setCell ⟨k, 14, none⟩ (.string t)).cell? ⟨g, x3 * 8 + 6, none⟩ = some (.int .u64 (y6 : Int)) := (cell_of_row _ _ _ _ _ _ hg2).trans (hy 6 (by omega))
  have a7 : (w1.setCell ⟨k, 14, none⟩ (.string t)).cell? ⟨g, x3 * 8 + 7, none⟩ = some (.int .u64 (y7 : Int)) := (cell_of_row _ _ _ _ _ _ hg2).trans (hy 7 (by omega))
  have hra : (w1.setCell ⟨k, 14, none⟩ (.string t)).rangeAt g (x3 * 8) [.int .i64 (y0 : Int), .int .i64 3, .int .u64 (y2 : Int), .int .i64 (y3 : Int), .int .i64 (y4 : Int), .int .u64 (y5 : Int), .int .u64 (y6 : Int), .int .u64 (y7 : Int)] := fun j u hj => (cell_of_row _ _ _ _ _ _ hg2).trans ((hy j (List.getElem?_eq_some_iff.1 hj).1).trans (List.getElem?_toArray.trans hj))
  clear hF1 hz1 hbc HC HFZ hB1 hb1 hra
  go_wp2_with (first
    | (go_at_call 58; refine (HD.out _).mono ?_; rintro r w4 ⟨rfl, hbd⟩; have hF4 := (hbd.block k (Array.getElem?_eq_some_iff.1 hF2).1).trans hF2; have c15 : w4.cell? ⟨k, 15, none⟩ = some (.string n0) := (cell_of_row _ _ 15 _ _ _ hF4).trans rfl; have z15 : w4.frozen? ⟨k, 15, none⟩ = false := frozen_of_row _ _ 15 _ _ hF4))
  go_ret
  exact ⟨rfl, (hq2.trans (Kq.of hbd)).set _ _, (set_row _ hF4).trans rfl⟩
end Go.Proofs.YtaeigacinefhnabDoor

-- elf.Content of a section, by the plain words: contracts; the document's beside it.
namespace Go.Proofs.YtaeigacinefhnabDoor
open Go.ChangeShapes Go.WideShapes Go.ChangeAt Go.RowKit
set_option linter.unusedVariables false
set_option maxRecDepth 100000
theorem pcont_ok (b t : ByteArray) (x : Sec) (hm : b.size ≤ maxLen) (h : cont b x = some t) (w : World) : Calls Tryd.prog 58 #[.string b, .agg x.v] w fun r w' => r = .returned (.tuple #[.string t, .int .i64 0]) ∧ Below w.heap.size w w' := by
  unfold cont at h
  split at h
  · rename_i h8
    obtain rfl := Option.some.inj h
    exact Content_ok b _ _ _ _ _ _ _ _ _ w fun w => content_room b _ _ _ _ _ _ _ _ w (by rw [h8]; rfl)
  · rename_i h8
    split at h
    · rename_i hin
      obtain rfl := Option.some.inj h
      exact Content_ok b _ _ _ _ _ _ _ _ _ w fun w => content_ok b _ _ _ _ _ _ x.off x.sz w (beq_eq_false_iff_ne.2 (by omega)) hin.1 hin.2 hm
    · cases h
theorem pcont_no (b : ByteArray) (x : Sec) (hm : b.size ≤ maxLen) (hx : x.off < 18446744073709551616 ∧ x.sz < 18446744073709551616) (h : cont b x = none) (w : World) : Calls Tryd.prog 58 #[.string b, .agg x.v] w fun r w' => r = .returned (.tuple #[.string .empty, .int .i64 54]) ∧ Below w.heap.size w w' := by
  unfold cont at h
  split at h
  · cases h
  · rename_i h8
    split at h
    · cases h
    · rename_i hin
      exact Content_no b _ _ _ _ _ _ _ _ 54 w fun w => content_no b _ _ _ _ _ _ x.off x.sz w (beq_eq_false_iff_ne.2 (by omega)) hx.1 hx.2 hin hm
theorem dcont_ok (b t : ByteArray) (x : Sec) (hm : b.size ≤ maxLen) (h : cont b x = some t) (w : World) : Calls Tryd.prog 68 #[.string b, .agg x.v] w fun r w' => r = .returned (.tuple #[.string t, .int .i64 0]) ∧ Below w.heap.size w w' := by
  unfold cont at h
  split at h
  · rename_i h8
    obtain rfl := Option.some.inj h
    exact rContent_room b _ _ _ _ _ _ _ _ w (by rw [h8]; rfl)
  · rename_i h8
    split at h
    · rename_i hin
      obtain rfl := Option.some.inj h
      exact rContent_ok b _ _ _ _ _ _ x.off x.sz w (beq_eq_false_iff_ne.2 (by omega)) hin.1 hin.2 hm
    · cases h
theorem dcont_no (b : ByteArray) (x : Sec) (hm : b.size ≤ maxLen) (hx : x.off < 18446744073709551616 ∧ x.sz < 18446744073709551616) (h : cont b x = none) (w : World) : Calls Tryd.prog 68 #[.string b, .agg x.v] w fun r w' => r = .returned (.tuple #[.string .empty, .int .i64 54]) ∧ Below w.heap.size w w' := by
  unfold cont at h
  split at h
  · cases h
  · rename_i h8
    split at h
    · cases h
    · rename_i hin
      exact rContent_no b _ _ _ _ _ _ x.off x.sz w (beq_eq_false_iff_ne.2 (by omega)) hx.1 hx.2 hin hm
end Go.Proofs.YtaeigacinefhnabDoor

-- syms: opening a symbol table by the plain words, class 32: contract.
namespace Go.Proofs.YtaeigacinefhnabDoor
open Go.ChangeShapes Go.WideShapes Go.ChangeAt Go.RowKit
set_option linter.unusedVariables false
set_option maxRecDepth 100000
/-- what open answers -/
def Opened32 (b : ByteArray) (k : Nat) (o : Int) (n : Nat) (s : Nat → Sec) (x : Sec) (w : World) (r : Ending) (w' : World) : Prop :=
  Kq k w w' ∧ ((∃ e, e ≠ 0 ∧ openOf b 32 n s x = .error e ∧ r = .returned (.int .i64 e)) ∨ (∃ t names, openOf b 32 n s x = .ok (t, names) ∧ r = .returned (.int .i64 0) ∧ w'.heap[k]? = some (.cells (tabCells col32 o t names) 75 (0, 0))))
theorem opened_32 (b t0 n0 : ByteArray) (k B n : Nat) (o : Int) (v : Value) (s : Nat → Sec) (x : Sec) (w : World) (hF : w.heap[k]? = some (.cells (tabCells col32 o t0 n0) 75 (0, 0))) (hS : SecsIn B w v n s) (hn : n ≤ 26214) (hB : SecB s) (hx : x.off < 18446744073709551616 ∧ x.sz < 18446744073709551616) (hb : b.size ≤ 1048576) :
    Calls Tryd.prog 36 #[.pointer (some ⟨k, 0, none⟩), .string b, v, .agg x.v] w (Opened32 b k o n s x w) := by
  have hm : b.size ≤ maxLen := by unfold maxLen; omega
  obtain ⟨x0, x1, x2, x3, x4, x5, x6, x7⟩ := x
  by_cases h7 : x7 = 16
  case neg =>
    refine (open_55a_32 b t0 n0 k o v x0 x1 x2 x3 x4 x5 x6 x7 w hF h7).mono fun r w' ⟨h1, h2⟩ => ⟨h2, Or.inl ⟨55, by decide, ?_, h1⟩⟩
    unfold openOf
    rw [if_neg]
    intro h
    exact h7 h.1
  subst h7
  by_cases h6 : x6 % 16 = 0
  case neg =>
    refine (open_55b_32 b t0 n0 k o v x0 x1 x2 x3 x4 x5 x6 w hF hx.2 h6).mono fun r w' ⟨h1, h2⟩ => ⟨h2, Or.inl ⟨55, by decide, ?_, h1⟩⟩
    unfold openOf
    rw [if_neg]
    intro h
    exact h6 h.2
  have hop : openOf b 32 n s ⟨x0, x1, x2, x3, x4, x5, x6, 16⟩ = match cont b ⟨x0, x1, x2, x3, x4, x5, x6, 16⟩ with
    | none => .error 54
    | some t => if x3 < n ∧ (s x3).ty = 3 then
        match cont b (s x3) with
        | none => .error 54
        | some names => .ok (t, names)
      else .error 60 := by
    unfold openOf
    exact if_pos ⟨rfl, h6⟩
  cases hc : cont b ⟨x0, x1, x2, x3, x4, x5, x6, 16⟩ with
  | none =>
    refine (open_54a_32 b t0 n0 k o v x0 x1 x2 x3 x4 x5 x6 w hF hx.2 h6 (fun w => pcont_no b _ hm hx hc w)).mono fun r w' ⟨h1, h2⟩ => ⟨h2, Or.inl ⟨54, by decide, ?_, h1⟩⟩
    rw [hop, hc]
  | some t =>
    rw [hc] at hop
    obtain ⟨ao, cp, rfl, hr⟩ := hS
    by_cases hl : x3 < n
    case neg =>
      refine (open_60a_32 b t0 n0 t k o n cp ao x0 x1 x2 x3 x4 x5 x6 w hF hx.2 h6 (by omega) (fun w => pcont_ok b t _ hm hc w)).mono fun r w' ⟨h1, h2⟩ => ⟨h2, Or.inl ⟨60, by decide, ?_, h1⟩⟩
      rw [hop]
      exact if_neg (fun h => hl h.1)
    obtain ⟨g, cur, rfl, _, hg, hcur⟩ := hr (by omega)
    have hgk : g ≠ k := by
      rintro rfl
      rw [hg] at hF
      simp only [Option.some.injEq, Obj.cells.injEq] at hF
      exact absurd hF.2.1 (by decide)
    have hy := hcur x3
    have hby := hB x3
    cases hsx : s x3 with
    | mk y0 y1 y2 y3 y4 y5 y6 y7 =>
      rw [hsx] at hy hby hop
      by_cases h3 : y1 = 3
      case neg =>
        refine (open_60b_32 b t0 n0 t k o n cp g cur y0 y1 y2 y3 y4 y5 y6 y7 x0 x1 x2 x3 x4 x5 x6 w hF hx.2 h6 hl hn hg hgk (fun m hm => hy m hl hm) h3 (fun w => pcont_ok b t _ hm hc w)).mono fun r w' ⟨h1, h2⟩ => ⟨h2, Or.inl ⟨60, by decide, ?_, h1⟩⟩
        rw [hop]
        exact if_neg (fun h => h3 h.2)
      subst h3
      cases hd : cont b ⟨y0, 3, y2, y3, y4, y5, y6, y7⟩ with
      | none =>
        refine (open_54b_32 b t0 n0 t k o n cp g cur y0 y2 y3 y4 y5 y6 y7 x0 x1 x2 x3 x4 x5 x6 w hF hx.2 h6 hl hn hg hgk (fun m hm => hy m hl hm) (fun w => pcont_ok b t _ hm hc w) (fun w => pcont_no b _ hm hby hd w)).mono fun r w' ⟨h1, h2⟩ => ⟨h2, Or.inl ⟨54, by decide, ?_, h1⟩⟩
        rw [hop, hd]
        exact if_pos ⟨hl, rfl⟩
      | some names =>
        refine (open_ok_32 b t0 n0 t names k o n cp g cur y0 y2 y3 y4 y5 y6 y7 x0 x1 x2 x3 x4 x5 x6 w hF hx.2 h6 hl hn hg hgk (fun m hm => hy m hl hm) (fun w => pcont_ok b t _ hm hc w) (fun w => pcont_ok b names _ hm hd w)).mono fun r w' ⟨h1, h2, h3⟩ => ⟨h2, Or.inr ⟨t, names, ?_, h1, h3⟩⟩
        rw [hop, hd]
        exact if_pos ⟨hl, rfl⟩
end Go.Proofs.YtaeigacinefhnabDoor

-- syms: opening a symbol table by the plain words, class 64: contract.
namespace Go.Proofs.YtaeigacinefhnabDoor
open Go.ChangeShapes Go.WideShapes Go.ChangeAt Go.RowKit
set_option linter.unusedVariables false
set_option maxRecDepth 100000
/-- what open answers -/
def Opened64 (b : ByteArray) (k : Nat) (o : Int) (n : Nat) (s : Nat → Sec) (x : Sec) (w : World) (r : Ending) (w' : World) : Prop :=
  Kq k w w' ∧ ((∃ e, e ≠ 0 ∧ openOf b 64 n s x = .error e ∧ r = .returned (.int .i64 e)) ∨ (∃ t names, openOf b 64 n s x = .ok (t, names) ∧ r = .returned (.int .i64 0) ∧ w'.heap[k]? = some (.cells (tabCells col64 o t names) 75 (0, 0))))
theorem opened_64 (b t0 n0 : ByteArray) (k B n : Nat) (o : Int) (v : Value) (s : Nat → Sec) (x : Sec) (w : World) (hF : w.heap[k]? = some (.cells (tabCells col64 o t0 n0) 75 (0, 0))) (hS : SecsIn B w v n s) (hn : n ≤ 26214) (hB : SecB s) (hx : x.off < 18446744073709551616 ∧ x.sz < 18446744073709551616) (hb : b.size ≤ 1048576) :
    Calls Tryd.prog 36 #[.pointer (some ⟨k, 0, none⟩), .string b, v, .agg x.v] w (Opened64 b k o n s x w) := by
  have hm : b.size ≤ maxLen := by unfold maxLen; omega
  obtain ⟨x0, x1, x2, x3, x4, x5, x6, x7⟩ := x
  by_cases h7 : x7 = 24
  case neg =>
    refine (open_55a_64 b t0 n0 k o v x0 x1 x2 x3 x4 x5 x6 x7 w hF h7).mono fun r w' ⟨h1, h2⟩ => ⟨h2, Or.inl ⟨55, by decide, ?_, h1⟩⟩
    unfold openOf
    rw [if_neg]
    intro h
    exact h7 h.1
  subst h7
  by_cases h6 : x6 % 24 = 0
  case neg =>
    refine (open_55b_64 b t0 n0 k o v x0 x1 x2 x3 x4 x5 x6 w hF hx.2 h6).mono fun r w' ⟨h1, h2⟩ => ⟨h2, Or.inl ⟨55, by decide, ?_, h1⟩⟩
    unfold openOf
    rw [if_neg]
    intro h
    exact h6 h.2
  have hop : openOf b 64 n s ⟨x0, x1, x2, x3, x4, x5, x6, 24⟩ = match cont b ⟨x0, x1, x2, x3, x4, x5, x6, 24⟩ with
    | none => .error 54
    | some t => if x3 < n ∧ (s x3).ty = 3 then
        match cont b (s x3) with
        | none => .error 54
        | some names => .ok (t, names)
      else .error 60 := by
    unfold openOf
    exact if_pos ⟨rfl, h6⟩
  cases hc : cont b ⟨x0, x1, x2, x3, x4, x5, x6, 24⟩ with
  | none =>
    refine (open_54a_64 b t0 n0 k o v x0 x1 x2 x3 x4 x5 x6 w hF hx.2 h6 (fun w => pcont_no b _ hm hx hc w)).mono fun r w' ⟨h1, h2⟩ => ⟨h2, Or.inl ⟨54, by decide, ?_, h1⟩⟩
    rw [hop, hc]
  | some t =>
    rw [hc] at hop
    obtain ⟨ao, cp, rfl, hr⟩ := hS
    by_cases hl : x3 < n
    case neg =>
      refine (open_60a_64 b t0 n0 t k o n cp ao x0 x1 x2 x3 x4 x5 x6 w hF hx.2 h6 (by omega) (fun w => pcont_ok b t _ hm hc w)).mono fun r w' ⟨h1, h2⟩ => ⟨h2, Or.inl ⟨60, by decide, ?_, h1⟩⟩
      rw [hop]
      exact if_neg (fun h => hl h.1)
    obtain ⟨g, cur, rfl, _, hg, hcur⟩ := hr (by omega)
    have hgk : g ≠ k := by
      rintro rfl
      rw [hg] at hF
      simp only [Option.some.injEq, Obj.cells.injEq] at hF
      exact absurd hF.2.1 (by decide)
    have hy := hcur x3
    have hby := hB x3
    cases hsx : s x3 with
    | mk y0 y1 y2 y3 y4 y5 y6 y7 =>
      rw [hsx] at hy hby hop
      by_cases h3 : y1 = 3
      case neg =>
        refine (open_60b_64 b t0 n0 t k o n cp g cur y0 y1 y2 y3 y4 y5 y6 y7 x0 x1 x2 x3 x4 x5 x6 w hF hx.2 h6 hl hn hg hgk (fun m hm => hy m hl hm) h3 (fun w => pcont_ok b t _ hm hc w)).mono fun r w' ⟨h1, h2⟩ => ⟨h2, Or.inl ⟨60, by decide, ?_, h1⟩⟩
        rw [hop]
        exact if_neg (fun h => h3 h.2)
      subst h3
      cases hd : cont b ⟨y0, 3, y2, y3, y4, y5, y6, y7⟩ with
      | none =>
        refine (open_54b_64 b t0 n0 t k o n cp g cur y0 y2 y3 y4 y5 y6 y7 x0 x1 x2 x3 x4 x5 x6 w hF hx.2 h6 hl hn hg hgk (fun m hm => hy m hl hm) (fun w => pcont_ok b t _ hm hc w) (fun w => pcont_no b _ hm hby hd w)).mono fun r w' ⟨h1, h2⟩ => ⟨h2, Or.inl ⟨54, by decide, ?_, h1⟩⟩
        rw [hop, hd]
        exact if_pos ⟨hl, rfl⟩
      | some names =>
        refine (open_ok_64 b t0 n0 t names k o n cp g cur y0 y2 y3 y4 y5 y6 y7 x0 x1 x2 x3 x4 x5 x6 w hF hx.2 h6 hl hn hg hgk (fun m hm => hy m hl hm) (fun w => pcont_ok b t _ hm hc w) (fun w => pcont_ok b names _ hm hd w)).mono fun r w' ⟨h1, h2, h3⟩ => ⟨h2, Or.inr ⟨t, names, ?_, h1, h3⟩⟩
        rw [hop, hd]
        exact if_pos ⟨hl, rfl⟩
end Go.Proofs.YtaeigacinefhnabDoor
