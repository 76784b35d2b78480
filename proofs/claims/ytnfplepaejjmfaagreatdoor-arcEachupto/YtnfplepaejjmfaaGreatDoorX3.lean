
-- head.Parse: a contract.
import Derived.Test.YtnfplepaejjmfaaGreatDoorX2
import Derived.Laws.Tables
import Derived.Laws.CopyOwn
import Derived.Deep.QuietTactic
import Derived.BigQuiet
import Derived.Deep.RegionHeld3
import Derived.Deep.RegionWith
namespace Go.Proofs.YtnfplepaejjmfaaGreatDoor
open Go.ChangeShapes Go.WideShapes Go.ChangeAt Go.RowKit
set_option linter.unusedVariables false
set_option maxRecDepth 100000

theorem hkeep {w w' : World} {b : Nat} {x : Obj} (hb : Below w.heap.size w w') (h : w.heap[b]? = some x) : w'.heap[b]? = some x := (hb.block b (Array.getElem?_eq_some_iff.1 h).1).trans h
theorem bel3 {w a b : World} (h : Below w.heap.size w a) (k : Below a.heap.size a b) : Below w.heap.size w b := h.trans (k.mono h.size)
def RowH (R : Nat) (w : World) : Prop := w.heap[R]? = some (.cells #[.int .i64 0, .int .i64 0, .int .i64 0, .int .i64 0, .string ⟨#[]⟩, .int .i64 0] 59 (0, 0))
theorem RowH.cells {R : Nat} {w : World} (h : RowH R w) : w.cell? ⟨R, 0, none⟩ = some (.int .i64 0) ∧ w.cell? ⟨R, 1, none⟩ = some (.int .i64 0) ∧ w.cell? ⟨R, 2, none⟩ = some (.int .i64 0) ∧ w.cell? ⟨R, 3, none⟩ = some (.int .i64 0) ∧ w.cell? ⟨R, 4, none⟩ = some (.string ⟨#[]⟩) ∧ w.cell? ⟨R, 5, none⟩ = some (.int .i64 0) ∧ w.frozen? ⟨R, 0, none⟩ = false ∧ w.frozen? ⟨R, 1, none⟩ = false ∧ w.frozen? ⟨R, 2, none⟩ = false ∧ w.frozen? ⟨R, 3, none⟩ = false ∧ w.frozen? ⟨R, 4, none⟩ = false ∧ w.frozen? ⟨R, 5, none⟩ = false :=
  ⟨cell_of_row _ _ 0 _ _ _ h, cell_of_row _ _ 1 _ _ _ h, cell_of_row _ _ 2 _ _ _ h, cell_of_row _ _ 3 _ _ _ h, cell_of_row _ _ 4 _ _ _ h, cell_of_row _ _ 5 _ _ _ h, frozen_of_row _ _ 0 _ _ h, frozen_of_row _ _ 1 _ _ h, frozen_of_row _ _ 2 _ _ h, frozen_of_row _ _ 3 _ _ h, frozen_of_row _ _ 4 _ _ h, frozen_of_row _ _ 5 _ _ h⟩
theorem RowH.store6 {R : Nat} {w' : World} {v0 v1 v2 v3 v4 v5 : Value} (h : RowH R w') : ((((((w'.setCell ⟨R, 0, none⟩ v0).setCell ⟨R, 1, none⟩ v1).setCell ⟨R, 2, none⟩ v2).setCell ⟨R, 3, none⟩ v3).setCell ⟨R, 4, none⟩ v4).setCell ⟨R, 5, none⟩ v5).heap[R]? = some (.cells #[v0, v1, v2, v3, v4, v5] 59 (0, 0)) := by
  have e0 : (w'.setCell ⟨R, 0, none⟩ v0).heap[R]? = some (.cells #[v0, .int .i64 0, .int .i64 0, .int .i64 0, .string ⟨#[]⟩, .int .i64 0] 59 (0, 0)) := (heap_setCell_same _ R 0 _ _ v0 h).trans rfl
  have e1 : ((w'.setCell ⟨R, 0, none⟩ v0).setCell ⟨R, 1, none⟩ v1).heap[R]? = some (.cells #[v0, v1, .int .i64 0, .int .i64 0, .string ⟨#[]⟩, .int .i64 0] 59 (0, 0)) := (heap_setCell_same _ R 1 _ _ v1 e0).trans rfl
  have e2 : (((w'.setCell ⟨R, 0, none⟩ v0).setCell ⟨R, 1, none⟩ v1).setCell ⟨R, 2, none⟩ v2).heap[R]? = some (.cells #[v0, v1, v2, .int .i64 0, .string ⟨#[]⟩, .int .i64 0] 59 (0, 0)) := (heap_setCell_same _ R 2 _ _ v2 e1).trans rfl
  have e3 : ((((w'.setCell ⟨R, 0, none⟩ v0).setCell ⟨R, 1, none⟩ v1).setCell ⟨R, 2, none⟩ v2).setCell ⟨R, 3, none⟩ v3).heap[R]? = some (.cells #[v0, v1, v2, v3, .string ⟨#[]⟩, .int .i64 0] 59 (0, 0)) := (heap_setCell_same _ R 3 _ _ v3 e2).trans rfl
  have e4 : (((((w'.setCell ⟨R, 0, none⟩ v0).setCell ⟨R, 1, none⟩ v1).setCell ⟨R, 2, none⟩ v2).setCell ⟨R, 3, none⟩ v3).setCell ⟨R, 4, none⟩ v4).heap[R]? = some (.cells #[v0, v1, v2, v3, v4, .int .i64 0] 59 (0, 0)) := (heap_setCell_same _ R 4 _ _ v4 e3).trans rfl
  have e5 : ((((((w'.setCell ⟨R, 0, none⟩ v0).setCell ⟨R, 1, none⟩ v1).setCell ⟨R, 2, none⟩ v2).setCell ⟨R, 3, none⟩ v3).setCell ⟨R, 4, none⟩ v4).setCell ⟨R, 5, none⟩ v5).heap[R]? = some (.cells #[v0, v1, v2, v3, v4, v5] 59 (0, 0)) := (heap_setCell_same _ R 5 _ _ v5 e4).trans rfl
  exact e5
def SP (w : World) (N M : Nat) (cn cf : Array Value) (w' : World) : Prop := Below w.heap.size w w' ∧ w'.heap[N]? = some (.cells cn 120 (0, 0)) ∧ w'.heap[M]? = some (.cells cf 117 (0, 0))
theorem SP.drew {w : World} {N M : Nat} {cn cf : Array Value} {w' : World} (h : SP w N M cn cf w') : SP w N M cn cf w'.drew := ⟨h.1.drew, h.2.1, h.2.2⟩
theorem SP.store6 {w w' : World} {R N M : Nat} {cn cf : Array Value} {v0 v1 v2 v3 v4 v5 : Value} (h : SP w N M cn cf w') (hR : w.heap.size ≤ R) (hN : N ≠ R) (hM : M ≠ R) : SP w N M cn cf ((((((w'.setCell ⟨R, 0, none⟩ v0).setCell ⟨R, 1, none⟩ v1).setCell ⟨R, 2, none⟩ v2).setCell ⟨R, 3, none⟩ v3).setCell ⟨R, 4, none⟩ v4).setCell ⟨R, 5, none⟩ v5) :=
  ⟨Below.setCell (Below.setCell (Below.setCell (Below.setCell (Below.setCell (Below.setCell (h.1) hR _) hR _) hR _) hR _) hR _) hR _, (heap_setCell_other _ _ _ _ hN).trans ((heap_setCell_other _ _ _ _ hN).trans ((heap_setCell_other _ _ _ _ hN).trans ((heap_setCell_other _ _ _ _ hN).trans ((heap_setCell_other _ _ _ _ hN).trans ((heap_setCell_other _ _ _ _ hN).trans (h.2.1)))))), (heap_setCell_other _ _ _ _ hM).trans ((heap_setCell_other _ _ _ _ hM).trans ((heap_setCell_other _ _ _ _ hM).trans ((heap_setCell_other _ _ _ _ hM).trans ((heap_setCell_other _ _ _ _ hM).trans ((heap_setCell_other _ _ _ _ hM).trans (h.2.2))))))⟩
theorem parse_neg (b : ByteArray) (i : Int) (w : World) (hm : b.size ≤ maxLen) (h : i < 0) :
    Calls Tryz.prog 35 #[.string b, .int .i64 i] w fun e w' => e = .returned (.tuple #[.agg #[.int .i64 0, .int .i64 0, .int .i64 0, .int .i64 0, .string ⟨#[]⟩, .int .i64 0], .int .i64 70]) ∧ Below w.heap.size w w' := by
  unfold maxLen at hm
  have b1 : decide (i < 0) = true := by simp; omega
  go_enter Tryz.func35, Tryz.ntmps35
  go_wp2
  exact bodyPost_ret (results_cell_tmp_rowX rfl _ _ w.heap.size _ _ _ _ _ rfl rfl (heap_alloc_new _ _) Tryz.underlying59 rfl (by kernel_rfl)) rfl ⟨rfl, bup (Below.refl _ _) _⟩
theorem parse_few (b : ByteArray) (i : Int) (w : World) (hm : b.size ≤ maxLen) (h0 : 0 ≤ i) (h : (b.size : Int) - 60 < i) :
    Calls Tryz.prog 35 #[.string b, .int .i64 i] w fun e w' => e = .returned (.tuple #[.agg #[.int .i64 0, .int .i64 0, .int .i64 0, .int .i64 0, .string ⟨#[]⟩, .int .i64 0], .int .i64 70]) ∧ Below w.heap.size w w' := by
  unfold maxLen at hm
  have b1 : decide (i < 0) = false := by simp; omega
  have b2 : decide ((b.size : Int) - 60 < i) = true := by simp; omega
  go_enter Tryz.func35, Tryz.ntmps35
  go_wp2
  exact bodyPost_ret (results_cell_tmp_rowX rfl _ _ w.heap.size _ _ _ _ _ rfl rfl (heap_alloc_new _ _) Tryz.underlying59 rfl (by kernel_rfl)) rfl ⟨rfl, bup (Below.refl _ _) _⟩
set_option maxHeartbeats 1000000 in
theorem parse_tail (b Hs f0 f1 f2 f3 f4 f5 f6 : ByteArray) (i : Int) (w : World) (hC : Cols w) (hm : b.size ≤ maxLen) (h0 : 0 ≤ i) (h1 : i ≤ (b.size : Int) - 60)
    (hsl : ∀ w, (Instr.slice 9 (.string b) (some (.int .i64 i)) (some (.int .i64 (i + 60))) none).run Tryz.prog w = .ok (.string Hs) w)
    (HCut : Hid (∀ w, Cols w → Calls Tryz.prog 57 #[.string Hs] w fun e w' => e = .returned (.agg #[.string f0, .string f1, .string f2, .string f3, .string f4, .string f5, .string f6]) ∧ Below w.heap.size w w')) (ht : (f6.toList == [96, 10]) = false) :
    Calls Tryz.prog 35 #[.string b, .int .i64 i] w fun e w' => e = .returned (.tuple #[.agg #[.int .i64 0, .int .i64 0, .int .i64 0, .int .i64 0, .string ⟨#[]⟩, .int .i64 0], .int .i64 71]) ∧ Below w.heap.size w w' := by
  unfold maxLen at hm
  have b1 : decide (i < 0) = false := by simp; omega
  have b2 : decide ((b.size : Int) - 60 < i) = false := by simp; omega
  have hC1 : Hid (Cols (w.alloc (.cells #[.int .i64 0, .int .i64 0, .int .i64 0, .int .i64 0, .string ⟨#[]⟩, .int .i64 0] 59))) := hC.alloc _
  clear hC
  have ht2 : (f6.toList != [96, 10]) = true := by simp only [bne, ht, Bool.not_false]
  go_enter Tryz.func35, Tryz.ntmps35
  go_wp2_with (first
    | (go_at_call 57; refine (HCut.out _ hC1.out).mono ?_; rintro e w1 ⟨rfl, hb1⟩; have hr1 := hkeep hb1 (heap_alloc_new w (.cells #[.int .i64 0, .int .i64 0, .int .i64 0, .int .i64 0, .string ⟨#[]⟩, .int .i64 0] 59)))
    | (refine wpList_store_row rfl _ _ _ rfl w.heap.size #[.int .i64 0, .int .i64 0, .int .i64 0, .int .i64 0, .string ⟨#[]⟩, .int .i64 0] rfl rfl _ _ (hup hr1 _) rfl (by kernel_rfl) (by kernel_rfl) ?_))
  exact bodyPost_ret (results_cell_tmp_rowX rfl _ _ w.heap.size _ _ _ _ _ rfl rfl (setRow_heap _ _ _ _ _ _ (hup hr1 _)) Tryz.underlying59 rfl (by kernel_rfl)) rfl ⟨rfl, below_setRow (bup (bel3 (bup (Below.refl _ _) _) hb1) _) (Nat.le_refl _) _⟩
set_option maxHeartbeats 1000000 in
theorem parse_bad (b Hs f0 f1 f2 f3 f4 f5 f6 : ByteArray) (i : Int) (w : World) (hC : Cols w) (hm : b.size ≤ maxLen) (h0 : 0 ≤ i) (h1 : i ≤ (b.size : Int) - 60)
    (hsl : ∀ w, (Instr.slice 9 (.string b) (some (.int .i64 i)) (some (.int .i64 (i + 60))) none).run Tryz.prog w = .ok (.string Hs) w)
    (HCut : Hid (∀ w, Cols w → Calls Tryz.prog 57 #[.string Hs] w fun e w' => e = .returned (.agg #[.string f0, .string f1, .string f2, .string f3, .string f4, .string f5, .string f6]) ∧ Below w.heap.size w w')) (ht : (f6.toList == [96, 10]) = true)
    (HR : Hid (∀ w, Cols w → Calls Tryz.prog 58 #[.agg #[.string f0, .string f1, .string f2, .string f3, .string f4, .string f5, .string f6]] w fun e w' => ∃ x : Int, ¬ x = 0 ∧ e = .returned (.tuple #[.agg #[.int .i64 0, .int .i64 0, .int .i64 0, .int .i64 0, .int .i64 0, .int .i64 0, .int .i64 0], .int .i64 x]) ∧ Below w.heap.size w w')) :
    Calls Tryz.prog 35 #[.string b, .int .i64 i] w fun e w' => e = .returned (.tuple #[.agg #[.int .i64 0, .int .i64 0, .int .i64 0, .int .i64 0, .string ⟨#[]⟩, .int .i64 0], .int .i64 72]) ∧ Below w.heap.size w w' := by
  unfold maxLen at hm
  have b1 : decide (i < 0) = false := by simp; omega
  have b2 : decide ((b.size : Int) - 60 < i) = false := by simp; omega
  have hC1 : Hid (Cols (w.alloc (.cells #[.int .i64 0, .int .i64 0, .int .i64 0, .int .i64 0, .string ⟨#[]⟩, .int .i64 0] 59))) := hC.alloc _
  clear hC
  have ht2 : (f6.toList != [96, 10]) = false := by simp only [bne, ht, Bool.not_true]
  go_enter Tryz.func35, Tryz.ntmps35
  go_wp2_with (first
    | (go_at_call 57; refine (HCut.out _ hC1.out).mono ?_; rintro e w1 ⟨rfl, hb1⟩; have hr1 := hkeep hb1 (heap_alloc_new w (.cells #[.int .i64 0, .int .i64 0, .int .i64 0, .int .i64 0, .string ⟨#[]⟩, .int .i64 0] 59)))
    | (go_at_call 58; refine (HR.out _ (((hC1.out).on hb1).alloc (.cells #[.string f0, .string f1, .string f2, .string f3, .string f4, .string f5, .string f6] 117))).mono ?_; rintro e w2 ⟨x, hx, rfl, hb2⟩; have hr2 := hkeep hb2 (hup hr1 (.cells #[.string f0, .string f1, .string f2, .string f3, .string f4, .string f5, .string f6] 117)); have hq : (x != 0) = true := (by simp [hx]))
    | (refine wpList_store_row rfl _ _ _ rfl w.heap.size #[.int .i64 0, .int .i64 0, .int .i64 0, .int .i64 0, .string ⟨#[]⟩, .int .i64 0] rfl rfl _ _ (hup hr2 _) rfl (by kernel_rfl) (by kernel_rfl) ?_))
  exact bodyPost_ret (results_cell_tmp_rowX rfl _ _ w.heap.size _ _ _ _ _ rfl rfl (setRow_heap _ _ _ _ _ _ (hup hr2 _)) Tryz.underlying59 rfl (by kernel_rfl)) rfl ⟨rfl, below_setRow (bup (bel3 (bup (bel3 (bup (Below.refl _ _) _) hb1) _) hb2) _) (Nat.le_refl _) _⟩
set_option maxHeartbeats 2000000 in
theorem parse_ok (b Hs f0 f1 f2 f3 f4 f5 f6 nm : ByteArray) (v1 v2 v3 v4 v5 : Int) (i : Int) (w : World) (hC : Cols w) (hm : b.size ≤ maxLen) (h0 : 0 ≤ i) (h1 : i ≤ (b.size : Int) - 60)
    (hsl : ∀ w, (Instr.slice 9 (.string b) (some (.int .i64 i)) (some (.int .i64 (i + 60))) none).run Tryz.prog w = .ok (.string Hs) w)
    (HCut : Hid (∀ w, Cols w → Calls Tryz.prog 57 #[.string Hs] w fun e w' => e = .returned (.agg #[.string f0, .string f1, .string f2, .string f3, .string f4, .string f5, .string f6]) ∧ Below w.heap.size w w')) (ht : (f6.toList == [96, 10]) = true)
    (HR : Hid (∀ w, Cols w → Calls Tryz.prog 58 #[.agg #[.string f0, .string f1, .string f2, .string f3, .string f4, .string f5, .string f6]] w fun e w' => e = .returned (.tuple #[.agg #[.int .i64 0, .int .i64 v1, .int .i64 v2, .int .i64 v3, .int .i64 v4, .int .i64 v5, .int .i64 0], .int .i64 0]) ∧ Below w.heap.size w w'))
    (HT : Hid (∀ w, Calls Tryz.prog 59 #[.string f0, .string ⟨#[32]⟩] w fun e w' => e = .returned (.string nm) ∧ w' = w)) :
    Calls Tryz.prog 35 #[.string b, .int .i64 i] w fun e w' => e = .returned (.tuple #[.agg #[.int .i64 v1, .int .i64 v2, .int .i64 v3, .int .i64 v4, .string nm, .int .i64 v5], .int .i64 0]) ∧ Below w.heap.size w w' := by
  unfold maxLen at hm
  have b1 : decide (i < 0) = false := by simp; omega
  have b2 : decide ((b.size : Int) - 60 < i) = false := by simp; omega
  have hC1 : Hid (Cols (w.alloc (.cells #[.int .i64 0, .int .i64 0, .int .i64 0, .int .i64 0, .string ⟨#[]⟩, .int .i64 0] 59))) := hC.alloc _
  clear hC
  have ht2 : (f6.toList != [96, 10]) = false := by simp only [bne, ht, Bool.not_true]
  go_enter Tryz.func35, Tryz.ntmps35
  go_wp2_with (first
    | (go_at_call 57; refine (HCut.out _ hC1.out).mono ?_; rintro e w1 ⟨rfl, hb1⟩; have hr1 := hkeep hb1 (heap_alloc_new w (.cells #[.int .i64 0, .int .i64 0, .int .i64 0, .int .i64 0, .string ⟨#[]⟩, .int .i64 0] 59)))
    | (go_at_call 58; refine (HR.out _ (((hC1.out).on hb1).alloc (.cells #[.string f0, .string f1, .string f2, .string f3, .string f4, .string f5, .string f6] 117))).mono ?_; rintro e w2 ⟨rfl, hb2⟩; have hr2 := hup (hkeep hb2 (hup hr1 (.cells #[.string f0, .string f1, .string f2, .string f3, .string f4, .string f5, .string f6] 117))) (.cells #[.int .i64 0, .int .i64 v1, .int .i64 v2, .int .i64 v3, .int .i64 v4, .int .i64 v5, .int .i64 0] 120); have hf2 := hup (hkeep hb2 (heap_alloc_new w1 (.cells #[.string f0, .string f1, .string f2, .string f3, .string f4, .string f5, .string f6] 117))) (.cells #[.int .i64 0, .int .i64 v1, .int .i64 v2, .int .i64 v3, .int .i64 v4, .int .i64 v5, .int .i64 0] 120)))
  have hB : Below w.heap.size w (w2.alloc (.cells #[.int .i64 0, .int .i64 v1, .int .i64 v2, .int .i64 v3, .int .i64 v4, .int .i64 v5, .int .i64 0] 120)) := bup (bel3 (bup (bel3 (bup (Below.refl _ _) _) hb1) _) hb2) _
  have hn2 := heap_alloc_new w2 (.cells #[.int .i64 0, .int .i64 v1, .int .i64 v2, .int .i64 v3, .int .i64 v4, .int .i64 v5, .int .i64 0] 120)
  have hNR0 : w2.heap.size ≠ w.heap.size := by have h1 := hb1.size; have h2 := hb2.size; simp only [World.size_alloc] at h1 h2; omega
  have hMR0 : w1.heap.size ≠ w.heap.size := by have h1 := hb1.size; simp only [World.size_alloc] at h1; omega
  generalize w2.alloc (.cells #[.int .i64 0, .int .i64 v1, .int .i64 v2, .int .i64 v3, .int .i64 v4, .int .i64 v5, .int .i64 0] 120) = W at hr2 hf2 hB hn2 ⊢
  generalize w2.heap.size = N at hn2 hNR0 ⊢
  generalize w1.heap.size = M at hf2 hMR0 ⊢
  have hRW : RowH w.heap.size W := hr2
  have hSW : SP w N M #[.int .i64 0, .int .i64 v1, .int .i64 v2, .int .i64 v3, .int .i64 v4, .int .i64 v5, .int .i64 0] #[.string f0, .string f1, .string f2, .string f3, .string f4, .string f5, .string f6] W := ⟨hB, hn2, hf2⟩
  have hNR : N ≠ w.heap.size := hNR0
  have hMR : M ≠ w.heap.size := hMR0
  have n1 : ∀ w', SP w N M #[.int .i64 0, .int .i64 v1, .int .i64 v2, .int .i64 v3, .int .i64 v4, .int .i64 v5, .int .i64 0] #[.string f0, .string f1, .string f2, .string f3, .string f4, .string f5, .string f6] w' → w'.cell? ⟨N, 1, none⟩ = some (.int .i64 v1) := fun w' h => cell_of_row w' N 1 _ _ _ h.2.1
  have n2 : ∀ w', SP w N M #[.int .i64 0, .int .i64 v1, .int .i64 v2, .int .i64 v3, .int .i64 v4, .int .i64 v5, .int .i64 0] #[.string f0, .string f1, .string f2, .string f3, .string f4, .string f5, .string f6] w' → w'.cell? ⟨N, 2, none⟩ = some (.int .i64 v2) := fun w' h => cell_of_row w' N 2 _ _ _ h.2.1
  have n3 : ∀ w', SP w N M #[.int .i64 0, .int .i64 v1, .int .i64 v2, .int .i64 v3, .int .i64 v4, .int .i64 v5, .int .i64 0] #[.string f0, .string f1, .string f2, .string f3, .string f4, .string f5, .string f6] w' → w'.cell? ⟨N, 3, none⟩ = some (.int .i64 v3) := fun w' h => cell_of_row w' N 3 _ _ _ h.2.1
  have n4 : ∀ w', SP w N M #[.int .i64 0, .int .i64 v1, .int .i64 v2, .int .i64 v3, .int .i64 v4, .int .i64 v5, .int .i64 0] #[.string f0, .string f1, .string f2, .string f3, .string f4, .string f5, .string f6] w' → w'.cell? ⟨N, 4, none⟩ = some (.int .i64 v4) := fun w' h => cell_of_row w' N 4 _ _ _ h.2.1
  have n5 : ∀ w', SP w N M #[.int .i64 0, .int .i64 v1, .int .i64 v2, .int .i64 v3, .int .i64 v4, .int .i64 v5, .int .i64 0] #[.string f0, .string f1, .string f2, .string f3, .string f4, .string f5, .string f6] w' → w'.cell? ⟨N, 5, none⟩ = some (.int .i64 v5) := fun w' h => cell_of_row w' N 5 _ _ _ h.2.1
  have m0 : ∀ w', SP w N M #[.int .i64 0, .int .i64 v1, .int .i64 v2, .int .i64 v3, .int .i64 v4, .int .i64 v5, .int .i64 0] #[.string f0, .string f1, .string f2, .string f3, .string f4, .string f5, .string f6] w' → w'.cell? ⟨M, 0, none⟩ = some (.string f0) := fun w' h => cell_of_row w' M 0 _ _ _ h.2.2
  have HT2 : Hid (∀ wx, SP w N M #[.int .i64 0, .int .i64 v1, .int .i64 v2, .int .i64 v3, .int .i64 v4, .int .i64 v5, .int .i64 0] #[.string f0, .string f1, .string f2, .string f3, .string f4, .string f5, .string f6] wx → RowH w.heap.size wx → Calls Tryz.prog 59 #[.string f0, .string ⟨#[32]⟩] wx fun e w' => e = .returned (.string nm) ∧ SP w N M #[.int .i64 0, .int .i64 v1, .int .i64 v2, .int .i64 v3, .int .i64 v4, .int .i64 v5, .int .i64 0] #[.string f0, .string f1, .string f2, .string f3, .string f4, .string f5, .string f6] w' ∧ RowH w.heap.size w') := fun wx h1 h2 => (HT.out wx).mono fun e w' ⟨he, hw⟩ => ⟨he, by rw [hw]; exact h1, by rw [hw]; exact h2⟩
  clear hr2 hf2 hB hn2 HT hNR0 hMR0 hb1 hb2 hr1
  go_region_held3 (fun w' => SP w N M #[.int .i64 0, .int .i64 v1, .int .i64 v2, .int .i64 v3, .int .i64 v4, .int .i64 v5, .int .i64 0] #[.string f0, .string f1, .string f2, .string f3, .string f4, .string f5, .string f6] w') (first | (with_reducible assumption) | (with_reducible exact SP.drew (by with_reducible assumption)) | (with_reducible refine SP.store6 ?_ (Nat.le_refl _) hNR hMR; with_reducible assumption)) (first | (go_at_call 59; refine (HT2.out _ (by first | assumption | exact hSW.drew) (by first | assumption | exact hRW)).mono ?_; rintro e w' ⟨rfl, hS', hR'⟩; obtain ⟨r0, r1, r2, r3, r4, r5, y0, y1, y2, y3, y4, y5⟩ := hR'.cells))
  all_goals
    go_wp2
    exact bodyPost_ret (results_cell_tmp_rowX rfl _ _ w.heap.size _ _ _ _ _ rfl rfl (RowH.store6 hR') Tryz.underlying59 rfl (by kernel_rfl)) rfl ⟨rfl, (SP.store6 hS' (Nat.le_refl _) hNR hMR).1⟩
end Go.Proofs.YtnfplepaejjmfaaGreatDoor
