
-- head.writeNumbers: a contract.
import Derived.Test.YtbkfkanknfdelabDoorX3
import Derived.Test.YtbkfkanknfdelabDoorRPut
import Derived.Deep.RegionHeld3
namespace Go.Proofs.YtbkfkanknfdelabDoor
open Go.ChangeShapes Go.WideShapes Go.ChangeAt Go.RowKit
set_option linter.unusedVariables false
set_option maxRecDepth 100000

def RowF (R : Nat) (C : Array Value) (w : World) : Prop := w.heap[R]? = some (.cells C 44 (0, 0))
def SW (w : World) (cn : Array Value) (B : Nat) (cc : Array Value) (w' : World) : Prop := Below w.heap.size w w' ∧ w'.heap[w.heap.size]? = some (.cells cn 42 (0, 0)) ∧ w'.heap[B]? = some (.cells cc 38 (0, 0))
theorem SW.drew {w : World} {cn : Array Value} {B : Nat} {cc : Array Value} {w' : World} (h : SW w cn B cc w') : SW w cn B cc w'.drew := ⟨h.1.drew, h.2.1, h.2.2⟩
theorem SW.store {w : World} {cn : Array Value} {B : Nat} {cc : Array Value} {w' : World} {k : Nat} {v : Value} (h : SW w cn B cc w') (hB : B ≠ w.heap.size + 1) : SW w cn B cc (w'.setCell ⟨w.heap.size + 1, k, none⟩ v) :=
  ⟨Below.setCell h.1 (by show w.heap.size ≤ w.heap.size + 1; omega) _, (heap_setCell_other _ _ _ _ (by show w.heap.size ≠ w.heap.size + 1; omega)).trans h.2.1, (heap_setCell_other _ _ _ _ hB).trans h.2.2⟩
theorem SW.kept {w : World} {cn : Array Value} {B : Nat} {cc : Array Value} {w' w2 : World} (h : SW w cn B cc w') (b : Below w'.heap.size w' w2) : SW w cn B cc w2 := ⟨bel3 h.1 b, hkeep b h.2.1, hkeep b h.2.2⟩
def wrA (s1 s2 s3 s4 s5 : ByteArray) : Nat → Array Value
  | 0 => #[.string ⟨#[]⟩, .string ⟨#[]⟩, .string ⟨#[]⟩, .string ⟨#[]⟩, .string ⟨#[]⟩, .string ⟨#[]⟩, .string ⟨#[]⟩]
  | 1 => #[.string ⟨#[]⟩, .string ⟨#[]⟩, .string ⟨#[]⟩, .string ⟨#[]⟩, .string ⟨#[]⟩, .string ⟨#[]⟩, .string ⟨#[]⟩]
  | 2 => #[.string ⟨#[]⟩, .string s1, .string ⟨#[]⟩, .string ⟨#[]⟩, .string ⟨#[]⟩, .string ⟨#[]⟩, .string ⟨#[]⟩]
  | 3 => #[.string ⟨#[]⟩, .string s1, .string s2, .string ⟨#[]⟩, .string ⟨#[]⟩, .string ⟨#[]⟩, .string ⟨#[]⟩]
  | 4 => #[.string ⟨#[]⟩, .string s1, .string s2, .string s3, .string ⟨#[]⟩, .string ⟨#[]⟩, .string ⟨#[]⟩]
  | 5 => #[.string ⟨#[]⟩, .string s1, .string s2, .string s3, .string s4, .string ⟨#[]⟩, .string ⟨#[]⟩]
  | 6 => #[.string ⟨#[]⟩, .string s1, .string s2, .string s3, .string s4, .string s5, .string ⟨#[]⟩]
  | _ => #[.string ⟨#[]⟩, .string s1, .string s2, .string s3, .string s4, .string s5, .string ⟨#[]⟩]
set_option maxHeartbeats 4000000 in
theorem writeNumbers_c (n0 v1 v2 v3 v4 v5 n6 : Int) (s1 s2 s3 s4 s5 : ByteArray) (e1 e2 e3 e4 e5 : Int) (w : World) (hC : Cols w) (hT : Tabs w)
    (H1 : Hid (∀ w, Tabs w → Calls Tryd.prog 19 #[.int .i64 v1, .int .i64 12] w fun e w' => e = .returned (.tuple #[.string s1, .int .i64 e1]) ∧ Below w.heap.size w w'))
    (H2 : Hid (∀ w, Tabs w → Calls Tryd.prog 19 #[.int .i64 v2, .int .i64 6] w fun e w' => e = .returned (.tuple #[.string s2, .int .i64 e2]) ∧ Below w.heap.size w w'))
    (H3 : Hid (∀ w, Tabs w → Calls Tryd.prog 19 #[.int .i64 v3, .int .i64 6] w fun e w' => e = .returned (.tuple #[.string s3, .int .i64 e3]) ∧ Below w.heap.size w w'))
    (H4 : Hid (∀ w, Tabs w → Calls Tryd.prog 18 #[.int .i64 v4, .int .i64 8] w fun e w' => e = .returned (.tuple #[.string s4, .int .i64 e4]) ∧ Below w.heap.size w w'))
    (H5 : Hid (∀ w, Tabs w → Calls Tryd.prog 19 #[.int .i64 v5, .int .i64 10] w fun e w' => e = .returned (.tuple #[.string s5, .int .i64 e5]) ∧ Below w.heap.size w w')) :
    Calls Tryd.prog 12 #[.agg #[.int .i64 n0, .int .i64 v1, .int .i64 v2, .int .i64 v3, .int .i64 v4, .int .i64 v5, .int .i64 n6]] w fun e w' => (e1 = 0 ∧ e2 = 0 ∧ e3 = 0 ∧ e4 = 0 ∧ e5 = 0 ∧ e = .returned (.tuple #[.agg #[.string ⟨#[]⟩, .string s1, .string s2, .string s3, .string s4, .string s5, .string ⟨#[]⟩], .int .i64 0]) ∧ Below w.heap.size w w') ∨ (¬ (e1 = 0 ∧ e2 = 0 ∧ e3 = 0 ∧ e4 = 0 ∧ e5 = 0) ∧ (∃ x : Int, ¬ x = 0 ∧ (x = e1 ∨ x = e2 ∨ x = e3 ∨ x = e4 ∨ x = e5) ∧ e = .returned (.tuple #[.agg #[.string ⟨#[]⟩, .string ⟨#[]⟩, .string ⟨#[]⟩, .string ⟨#[]⟩, .string ⟨#[]⟩, .string ⟨#[]⟩, .string ⟨#[]⟩], .int .i64 x])) ∧ Below w.heap.size w w') := by
  have hl := ((hC.alloc (.cells #[.int .i64 n0, .int .i64 v1, .int .i64 v2, .int .i64 v3, .int .i64 v4, .int .i64 v5, .int .i64 n6] 42)).alloc (.cells #[.string ⟨#[]⟩, .string ⟨#[]⟩, .string ⟨#[]⟩, .string ⟨#[]⟩, .string ⟨#[]⟩, .string ⟨#[]⟩, .string ⟨#[]⟩] 44)).range
  have HT : Hid (Tabs w) := hT
  clear hC hT
  go_enter Tryd.func12, Tryd.ntmps12
  go_wp2_with (refine wpList_load_mid rfl _ _ rfl 0 0 rfl colL _ hl Tryd.underlying39 rfl (by kernel_rfl) ?_)
  clear hl
  go_loopw [3, 7] (fun c i wx => ∃ k : Nat, k ≤ 7 ∧ i = .int .i64 k ∧ c = .int .i64 0 ∧ wx.heap[w.heap.size]? = some (.cells #[.int .i64 n0, .int .i64 v1, .int .i64 v2, .int .i64 v3, .int .i64 v4, .int .i64 v5, .int .i64 n6] 42 (0, 0)) ∧ wx.heap[w.heap.size + 1]? = some (.cells (wrA s1 s2 s3 s4 s5 k) 44 (0, 0)) ∧ Below w.heap.size w wx ∧ (1 < k → e1 = 0) ∧ (2 < k → e2 = 0) ∧ (3 < k → e3 = 0) ∧ (4 < k → e4 = 0) ∧ (5 < k → e5 = 0)) (fun _ i _ => 7 - (intOf i).toNat)
  case atStart => exact ⟨0, by omega, rfl, rfl, hup (heap_alloc_new w _) _, heap_new2 w _ _, bup (bup (Below.refl _ _) _) _, by omega, by omega, by omega, by omega, by omega⟩
  case round =>
    obtain ⟨k, hk, rfl, rfl, hr0, hr1, hb, q1, q2, q3, q4, q5⟩ := hrel
    have hc : k = 0 ∨ k = 1 ∨ k = 2 ∨ k = 3 ∨ k = 4 ∨ k = 5 ∨ k = 6 ∨ k = 7 := by omega
    clear hk
    rcases hc with rfl | rfl | rfl | rfl | rfl | rfl | rfl | rfl
    · have hi := col_0
      have HQ : Hid ((1 < 0 → e1 = 0) ∧ (2 < 0 → e2 = 0) ∧ (3 < 0 → e3 = 0) ∧ (4 < 0 → e4 = 0) ∧ (5 < 0 → e5 = 0)) := ⟨q1, q2, q3, q4, q5⟩
      clear q1 q2 q3 q4 q5
      have hR0 := hup hr0 (.cells #[.int .i64 0, .int .i64 16, .int .i64 0] 38)
      have hR1 := hup hr1 (.cells #[.int .i64 0, .int .i64 16, .int .i64 0] 38)
      simp only [wrA] at hR1
      have hB := bup hb (.cells #[.int .i64 0, .int .i64 16, .int .i64 0] 38)
      clear hr0
      go_wp2
      go_roundw
      case rel => exact ⟨1, by omega, rfl, rfl, hR0, hR1, hB, fun h => HQ.out.1 (by omega), fun h => HQ.out.2.1 (by omega), fun h => HQ.out.2.2.1 (by omega), fun h => HQ.out.2.2.2.1 (by omega), fun h => HQ.out.2.2.2.2 (by omega)⟩
      case measure => simp [intOf]
    · have hi := col_1
      have HQ : Hid ((1 < 1 → e1 = 0) ∧ (2 < 1 → e2 = 0) ∧ (3 < 1 → e3 = 0) ∧ (4 < 1 → e4 = 0) ∧ (5 < 1 → e5 = 0)) := ⟨q1, q2, q3, q4, q5⟩
      clear q1 q2 q3 q4 q5
      have hR0 := hup hr0 (.cells #[.int .i64 16, .int .i64 12, .int .i64 10] 38)
      have hR1 := hup hr1 (.cells #[.int .i64 16, .int .i64 12, .int .i64 10] 38)
      simp only [wrA] at hR1
      have hB := bup hb (.cells #[.int .i64 16, .int .i64 12, .int .i64 10] 38)
      clear hr0
      by_cases he : e1 = 0
      · have HE : Hid (e1 = 0) := he
        have hz : (e1 != 0) = false := by simp [he]
        clear he
        go_wp2_with fail
        have hSW : SW w #[.int .i64 n0, .int .i64 v1, .int .i64 v2, .int .i64 v3, .int .i64 v4, .int .i64 v5, .int .i64 n6] wr.heap.size #[.int .i64 16, .int .i64 12, .int .i64 10] (wr.alloc (.cells #[.int .i64 16, .int .i64 12, .int .i64 10] 38)) := ⟨hB, hR0, heap_alloc_new wr _⟩
        have hBN : wr.heap.size ≠ w.heap.size + 1 := by have := (Array.getElem?_eq_some_iff.1 hr1).1; omega
        have hRF : RowF (w.heap.size + 1) #[.string ⟨#[]⟩, .string ⟨#[]⟩, .string ⟨#[]⟩, .string ⟨#[]⟩, .string ⟨#[]⟩, .string ⟨#[]⟩, .string ⟨#[]⟩] (wr.alloc (.cells #[.int .i64 16, .int .i64 12, .int .i64 10] 38)) := hR1
        clear hB hR0 hR1 hr1 hb
        generalize wr.alloc (.cells #[.int .i64 16, .int .i64 12, .int .i64 10] 38) = W at hSW hRF ⊢
        generalize wr.heap.size = B at hSW hBN ⊢
        have n1 : ∀ w', SW w #[.int .i64 n0, .int .i64 v1, .int .i64 v2, .int .i64 v3, .int .i64 v4, .int .i64 v5, .int .i64 n6] B #[.int .i64 16, .int .i64 12, .int .i64 10] w' → w'.cell? ⟨w.heap.size, 1, none⟩ = some (.int .i64 v1) := fun w' h => cell_of_row w' _ 1 _ _ _ h.2.1
        have d1 : ∀ w', SW w #[.int .i64 n0, .int .i64 v1, .int .i64 v2, .int .i64 v3, .int .i64 v4, .int .i64 v5, .int .i64 n6] B #[.int .i64 16, .int .i64 12, .int .i64 10] w' → w'.cell? ⟨B, 1, none⟩ = some (.int .i64 12) := fun w' h => cell_of_row w' _ 1 _ _ _ h.2.2
        have HP : Hid (∀ wx, SW w #[.int .i64 n0, .int .i64 v1, .int .i64 v2, .int .i64 v3, .int .i64 v4, .int .i64 v5, .int .i64 n6] B #[.int .i64 16, .int .i64 12, .int .i64 10] wx → RowF (w.heap.size + 1) #[.string ⟨#[]⟩, .string ⟨#[]⟩, .string ⟨#[]⟩, .string ⟨#[]⟩, .string ⟨#[]⟩, .string ⟨#[]⟩, .string ⟨#[]⟩] wx → Calls Tryd.prog 19 #[.int .i64 v1, .int .i64 12] wx fun e w' => e = .returned (.tuple #[.string s1, .int .i64 e1]) ∧ SW w #[.int .i64 n0, .int .i64 v1, .int .i64 v2, .int .i64 v3, .int .i64 v4, .int .i64 v5, .int .i64 n6] B #[.int .i64 16, .int .i64 12, .int .i64 10] w' ∧ RowF (w.heap.size + 1) #[.string ⟨#[]⟩, .string ⟨#[]⟩, .string ⟨#[]⟩, .string ⟨#[]⟩, .string ⟨#[]⟩, .string ⟨#[]⟩, .string ⟨#[]⟩] w') := fun wx h1 h2 => (H1.out wx (HT.out.on h1.1)).mono fun e w' ⟨he, hb⟩ => ⟨he, h1.kept hb, hkeep hb h2⟩
        go_region_held3 (fun w' => SW w #[.int .i64 n0, .int .i64 v1, .int .i64 v2, .int .i64 v3, .int .i64 v4, .int .i64 v5, .int .i64 n6] B #[.int .i64 16, .int .i64 12, .int .i64 10] w') (first | (with_reducible assumption) | (with_reducible exact SW.drew (by with_reducible assumption)) | (with_reducible refine SW.store ?_ hBN; with_reducible assumption)) (first | (go_at_call 19; refine (HP.out _ (by first | assumption | exact hSW.drew) (by first | assumption | exact hRF)).mono ?_; rintro e w1 ⟨rfl, hS', hR'⟩; have x1 := cell_of_row w1 (w.heap.size + 1) 1 _ _ _ hR'; have y1 := frozen_of_row w1 (w.heap.size + 1) 1 _ _ hR'))
        all_goals
          go_wp2
          go_roundw
          case rel => exact ⟨2, by omega, rfl, by rw [HE.out], (hS'.store hBN).2.1, (heap_setCell_same _ _ 1 _ _ _ hR').trans rfl, (hS'.store hBN).1, fun h => HE.out, fun h => HQ.out.2.1 (by omega), fun h => HQ.out.2.2.1 (by omega), fun h => HQ.out.2.2.2.1 (by omega), fun h => HQ.out.2.2.2.2 (by omega)⟩
          case measure => simp [intOf]
      · have HE : Hid (¬ e1 = 0) := he
        have hz : (e1 != 0) = true := by simp [he]
        clear he
        go_wp2_with fail
        have hSW : SW w #[.int .i64 n0, .int .i64 v1, .int .i64 v2, .int .i64 v3, .int .i64 v4, .int .i64 v5, .int .i64 n6] wr.heap.size #[.int .i64 16, .int .i64 12, .int .i64 10] (wr.alloc (.cells #[.int .i64 16, .int .i64 12, .int .i64 10] 38)) := ⟨hB, hR0, heap_alloc_new wr _⟩
        have hBN : wr.heap.size ≠ w.heap.size + 1 := by have := (Array.getElem?_eq_some_iff.1 hr1).1; omega
        have hRF : RowF (w.heap.size + 1) #[.string ⟨#[]⟩, .string ⟨#[]⟩, .string ⟨#[]⟩, .string ⟨#[]⟩, .string ⟨#[]⟩, .string ⟨#[]⟩, .string ⟨#[]⟩] (wr.alloc (.cells #[.int .i64 16, .int .i64 12, .int .i64 10] 38)) := hR1
        clear hB hR0 hR1 hr1 hb
        generalize wr.alloc (.cells #[.int .i64 16, .int .i64 12, .int .i64 10] 38) = W at hSW hRF ⊢
        generalize wr.heap.size = B at hSW hBN ⊢
        have n1 : ∀ w', SW w #[.int .i64 n0, .int .i64 v1, .int .i64 v2, .int .i64 v3, .int .i64 v4, .int .i64 v5, .int .i64 n6] B #[.int .i64 16, .int .i64 12, .int .i64 10] w' → w'.cell? ⟨w.heap.size, 1, none⟩ = some (.int .i64 v1) := fun w' h => cell_of_row w' _ 1 _ _ _ h.2.1
        have d1 : ∀ w', SW w #[.int .i64 n0, .int .i64 v1, .int .i64 v2, .int .i64 v3, .int .i64 v4, .int .i64 v5, .int .i64 n6] B #[.int .i64 16, .int .i64 12, .int .i64 10] w' → w'.cell? ⟨B, 1, none⟩ = some (.int .i64 12) := fun w' h => cell_of_row w' _ 1 _ _ _ h.2.2
        have HP : Hid (∀ wx, SW w #[.int .i64 n0, .int .i64 v1, .int .i64 v2, .int .i64 v3, .int .i64 v4, .int .i64 v5, .int .i64 n6] B #[.int .i64 16, .int .i64 12, .int .i64 10] wx → RowF (w.heap.size + 1) #[.string ⟨#[]⟩, .string ⟨#[]⟩, .string ⟨#[]⟩, .string ⟨#[]⟩, .string ⟨#[]⟩, .string ⟨#[]⟩, .string ⟨#[]⟩] wx → Calls Tryd.prog 19 #[.int .i64 v1, .int .i64 12] wx fun e w' => e = .returned (.tuple #[.string s1, .int .i64 e1]) ∧ SW w #[.int .i64 n0, .int .i64 v1, .int .i64 v2, .int .i64 v3, .int .i64 v4, .int .i64 v5, .int .i64 n6] B #[.int .i64 16, .int .i64 12, .int .i64 10] w' ∧ RowF (w.heap.size + 1) #[.string ⟨#[]⟩, .string ⟨#[]⟩, .string ⟨#[]⟩, .string ⟨#[]⟩, .string ⟨#[]⟩, .string ⟨#[]⟩, .string ⟨#[]⟩] w') := fun wx h1 h2 => (H1.out wx (HT.out.on h1.1)).mono fun e w' ⟨he, hb⟩ => ⟨he, h1.kept hb, hkeep hb h2⟩
        go_region_held3 (fun w' => SW w #[.int .i64 n0, .int .i64 v1, .int .i64 v2, .int .i64 v3, .int .i64 v4, .int .i64 v5, .int .i64 n6] B #[.int .i64 16, .int .i64 12, .int .i64 10] w') (first | (with_reducible assumption) | (with_reducible exact SW.drew (by with_reducible assumption)) | (with_reducible refine SW.store ?_ hBN; with_reducible assumption)) (first | (go_at_call 19; refine (HP.out _ (by first | assumption | exact hSW.drew) (by first | assumption | exact hRF)).mono ?_; rintro e w1 ⟨rfl, hS', hR'⟩; have x1 := cell_of_row w1 (w.heap.size + 1) 1 _ _ _ hR'; have y1 := frozen_of_row w1 (w.heap.size + 1) 1 _ _ hR'))
        all_goals
          go_wp2_with (refine wpList_store_row rfl _ _ _ rfl (w.heap.size + 1) #[.string ⟨#[]⟩, .string ⟨#[]⟩, .string ⟨#[]⟩, .string ⟨#[]⟩, .string ⟨#[]⟩, .string ⟨#[]⟩, .string ⟨#[]⟩] rfl rfl _ _ (heap_setCell_same _ _ 1 _ _ _ hR') rfl (by kernel_rfl) (by kernel_rfl) ?_)
          exact bodyPost_ret (results_cell_tmp_row rfl _ _ (w.heap.size + 1) _ _ _ _ _ rfl rfl (setRow_heap _ _ _ _ _ _ (heap_setCell_same _ _ 1 _ _ _ hR')) Tryd.underlying44 rfl (by kernel_rfl)) rfl (Or.inr ⟨fun h => HE.out h.1, ⟨_, HE.out, Or.inl rfl, rfl⟩, below_setRow (hS'.store hBN).1 (by omega) _⟩)
    · have hi := col_2
      have HQ : Hid ((1 < 2 → e1 = 0) ∧ (2 < 2 → e2 = 0) ∧ (3 < 2 → e3 = 0) ∧ (4 < 2 → e4 = 0) ∧ (5 < 2 → e5 = 0)) := ⟨q1, q2, q3, q4, q5⟩
      clear q1 q2 q3 q4 q5
      have hR0 := hup hr0 (.cells #[.int .i64 28, .int .i64 6, .int .i64 10] 38)
      have hR1 := hup hr1 (.cells #[.int .i64 28, .int .i64 6, .int .i64 10] 38)
      simp only [wrA] at hR1
      have hB := bup hb (.cells #[.int .i64 28, .int .i64 6, .int .i64 10] 38)
      clear hr0
      by_cases he : e2 = 0
      · have HE : Hid (e2 = 0) := he
        have hz : (e2 != 0) = false := by simp [he]
        clear he
        go_wp2_with fail
        have hSW : SW w #[.int .i64 n0, .int .i64 v1, .int .i64 v2, .int .i64 v3, .int .i64 v4, .int .i64 v5, .int .i64 n6] wr.heap.size #[.int .i64 28, .int .i64 6, .int .i64 10] (wr.alloc (.cells #[.int .i64 28, .int .i64 6, .int .i64 10] 38)) := ⟨hB, hR0, heap_alloc_new wr _⟩
        have hBN : wr.heap.size ≠ w.heap.size + 1 := by have := (Array.getElem?_eq_some_iff.1 hr1).1; omega
        have hRF : RowF (w.heap.size + 1) #[.string ⟨#[]⟩, .string s1, .string ⟨#[]⟩, .string ⟨#[]⟩, .string ⟨#[]⟩, .string ⟨#[]⟩, .string ⟨#[]⟩] (wr.alloc (.cells #[.int .i64 28, .int .i64 6, .int .i64 10] 38)) := hR1
        clear hB hR0 hR1 hr1 hb
        generalize wr.alloc (.cells #[.int .i64 28, .int .i64 6, .int .i64 10] 38) = W at hSW hRF ⊢
        generalize wr.heap.size = B at hSW hBN ⊢
        have n1 : ∀ w', SW w #[.int .i64 n0, .int .i64 v1, .int .i64 v2, .int .i64 v3, .int .i64 v4, .int .i64 v5, .int .i64 n6] B #[.int .i64 28, .int .i64 6, .int .i64 10] w' → w'.cell? ⟨w.heap.size, 2, none⟩ = some (.int .i64 v2) := fun w' h => cell_of_row w' _ 2 _ _ _ h.2.1
        have d1 : ∀ w', SW w #[.int .i64 n0, .int .i64 v1, .int .i64 v2, .int .i64 v3, .int .i64 v4, .int .i64 v5, .int .i64 n6] B #[.int .i64 28, .int .i64 6, .int .i64 10] w' → w'.cell? ⟨B, 1, none⟩ = some (.int .i64 6) := fun w' h => cell_of_row w' _ 1 _ _ _ h.2.2
        have HP : Hid (∀ wx, SW w #[.int .i64 n0, .int .i64 v1, .int .i64 v2, .int .i64 v3, .int .i64 v4, .int .i64 v5, .int .i64 n6] B #[.int .i64 28, .int .i64 6, .int .i64 10] wx → RowF (w.heap.size + 1) #[.string ⟨#[]⟩, .string s1, .string ⟨#[]⟩, .string ⟨#[]⟩, .string ⟨#[]⟩, .string ⟨#[]⟩, .string ⟨#[]⟩] wx → Calls Tryd.prog 19 #[.int .i64 v2, .int .i64 6] wx fun e w' => e = .returned (.tuple #[.string s2, .int .i64 e2]) ∧ SW w #[.int .i64 n0, .int .i64 v1, .int .i64 v2, .int .i64 v3, .int .i64 v4, .int .i64 v5, .int .i64 n6] B #[.int .i64 28, .int .i64 6, .int .i64 10] w' ∧ RowF (w.heap.size + 1) #[.string ⟨#[]⟩, .string s1, .string ⟨#[]⟩, .string ⟨#[]⟩, .string ⟨#[]⟩, .string ⟨#[]⟩, .string ⟨#[]⟩] w') := fun wx h1 h2 => (H2.out wx (HT.out.on h1.1)).mono fun e w' ⟨he, hb⟩ => ⟨he, h1.kept hb, hkeep hb h2⟩
        go_region_held3 (fun w' => SW w #[.int .i64 n0, .int .i64 v1, .int .i64 v2, .int .i64 v3, .int .i64 v4, .int .i64 v5, .int .i64 n6] B #[.int .i64 28, .int .i64 6, .int .i64 10] w') (first | (with_reducible assumption) | (with_reducible exact SW.drew (by with_reducible assumption)) | (with_reducible refine SW.store ?_ hBN; with_reducible assumption)) (first | (go_at_call 19; refine (HP.out _ (by first | assumption | exact hSW.drew) (by first | assumption | exact hRF)).mono ?_; rintro e w1 ⟨rfl, hS', hR'⟩; have x1 := cell_of_row w1 (w.heap.size + 1) 2 _ _ _ hR'; have y1 := frozen_of_row w1 (w.heap.size + 1) 2 _ _ hR'))
        all_goals
          go_wp2
          go_roundw
          case rel => exact ⟨3, by omega, rfl, by rw [HE.out], (hS'.store hBN).2.1, (heap_setCell_same _ _ 2 _ _ _ hR').trans rfl, (hS'.store hBN).1, fun h => HQ.out.1 (by omega), fun h => HE.out, fun h => HQ.out.2.2.1 (by omega), fun h => HQ.out.2.2.2.1 (by omega), fun h => HQ.out.2.2.2.2 (by omega)⟩
          case measure => simp [intOf]
      · have HE : Hid (¬ e2 = 0) := he
        have hz : (e2 != 0) = true := by simp [he]
        clear he
        go_wp2_with fail
        have hSW : SW w #[.int .i64 n0, .int .i64 v1, .int .i64 v2, .int .i64 v3, .int .i64 v4, .int .i64 v5, .int .i64 n6] wr.heap.size #[.int .i64 28, .int .i64 6, .int .i64 10] (wr.alloc (.cells #[.int .i64 28, .int .i64 6, .int .i64 10] 38)) := ⟨hB, hR0, heap_alloc_new wr _⟩
        have hBN : wr.heap.size ≠ w.heap.size + 1 := by have := (Array.getElem?_eq_some_iff.1 hr1).1; omega
        have hRF : RowF (w.heap.size + 1) #[.string ⟨#[]⟩, .string s1, .string ⟨#[]⟩, .string ⟨#[]⟩, .string ⟨#[]⟩, .string ⟨#[]⟩, .string ⟨#[]⟩] (wr.alloc (.cells #[.int .i64 28, .int .i64 6, .int .i64 10] 38)) := hR1
        clear hB hR0 hR1 hr1 hb
        generalize wr.alloc (.cells #[.int .i64 28, .int .i64 6, .int .i64 10] 38) = W at hSW hRF ⊢
        generalize wr.heap.size = B at hSW hBN ⊢
        have n1 : ∀ w', SW w #[.int .i64 n0, .int .i64 v1, .int .i64 v2, .int .i64 v3, .int .i64 v4, .int .i64 v5, .int .i64 n6] B #[.int .i64 28, .int .i64 6, .int .i64 10] w' → w'.cell? ⟨w.heap.size, 2, none⟩ = some (.int .i64 v2) := fun w' h => cell_of_row w' _ 2 _ _ _ h.2.1
        have d1 : ∀ w', SW w #[.int .i64 n0, .int .i64 v1, .int .i64 v2, .int .i64 v3, .int .i64 v4, .int .i64 v5, .int .i64 n6] B #[.int .i64 28, .int .i64 6, .int .i64 10] w' → w'.cell? ⟨B, 1, none⟩ = some (.int .i64 6) := fun w' h => cell_of_row w' _ 1 _ _ _ h.2.2
        have HP : Hid (∀ wx, SW w #[.int .i64 n0, .int .i64 v1, .int .i64 v2, .int .i64 v3, .int .i64 v4, .int .i64 v5, .int .i64 n6] B #[.int .i64 28, .int .i64 6, .int .i64 10] wx → RowF (w.heap.size + 1) #[.string ⟨#[]⟩, .string s1, .string ⟨#[]⟩, .string ⟨#[]⟩, .string ⟨#[]⟩, .string ⟨#[]⟩, .string ⟨#[]⟩] wx → Calls Tryd.prog 19 #[.int .i64 v2, .int .i64 6] wx fun e w' => e = .returned (.tuple #[.string s2, .int .i64 e2]) ∧ SW w #[.int .i64 n0, .int .i64 v1, .int .i64 v2, .int .i64 v3, .int .i64 v4, .int .i64 v5, .int .i64 n6] B #[.int .i64 28, .int .i64 6, .int .i64 10] w' ∧ RowF (w.heap.size + 1) #[.string ⟨#[]⟩, .string s1, .string ⟨#[]⟩, .string ⟨#[]⟩, .string ⟨#[]⟩, .string ⟨#[]⟩, .string ⟨#[]⟩] w') := fun wx h1 h2 => (H2.out wx (HT.out.on h1.1)).mono fun e w' ⟨he, hb⟩ => ⟨he, h1.kept hb, hkeep hb h2⟩
        go_region_held3 (fun w' => SW w #[.int .i64 n0, .int .i64 v1, .int .i64 v2, .int .i64 v3, .int .i64 v4, .int .i64 v5, .int .i64 n6] B #[.int .i64 28, .int .i64 6, .int .i64 10] w') (first | (with_reducible assumption) | (with_reducible exact SW.drew (by with_reducible assumption)) | (with_reducible refine SW.store ?_ hBN; with_reducible assumption)) (first | (go_at_call 19; refine (HP.out _ (by first | assumption | exact hSW.drew) (by first | assumption | exact hRF)).mono ?_; rintro e w1 ⟨rfl, hS', hR'⟩; have x1 := cell_of_row w1 (w.heap.size + 1) 2 _ _ _ hR'; have y1 := frozen_of_row w1 (w.heap.size + 1) 2 _ _ hR'))
        all_goals
          go_wp2_with (refine wpList_store_row rfl _ _ _ rfl (w.heap.size + 1) #[.string ⟨#[]⟩, .string ⟨#[]⟩, .string ⟨#[]⟩, .string ⟨#[]⟩, .string ⟨#[]⟩, .string ⟨#[]⟩, .string ⟨#[]⟩] rfl rfl _ _ (heap_setCell_same _ _ 2 _ _ _ hR') rfl (by kernel_rfl) (by kernel_rfl) ?_)
          exact bodyPost_ret (results_cell_tmp_row rfl _ _ (w.heap.size + 1) _ _ _ _ _ rfl rfl (setRow_heap _ _ _ _ _ _ (heap_setCell_same _ _ 2 _ _ _ hR')) Tryd.underlying44 rfl (by kernel_rfl)) rfl (Or.inr ⟨fun h => HE.out h.2.1, ⟨_, HE.out, Or.inr (Or.inl rfl), rfl⟩, below_setRow (hS'.store hBN).1 (by omega) _⟩)
    · have hi := col_3
      have HQ : Hid ((1 < 3 → e1 = 0) ∧ (2 < 3 → e2 = 0) ∧ (3 < 3 → e3 = 0) ∧ (4 < 3 → e4 = 0) ∧ (5 < 3 → e5 = 0)) := ⟨q1, q2, q3, q4, q5⟩
      clear q1 q2 q3 q4 q5
      have hR0 := hup hr0 (.cells #[.int .i64 34, .int .i64 6, .int .i64 10] 38)
      have hR1 := hup hr1 (.cells #[.int .i64 34, .int .i64 6, .int .i64 10] 38)
      simp only [wrA] at hR1
      have hB := bup hb (.cells #[.int .i64 34, .int .i64 6, .int .i64 10] 38)
      clear hr0
      by_cases he : e3 = 0
      · have HE : Hid (e3 = 0) := he
        have hz : (e3 != 0) = false := by simp [he]
        clear he
        go_wp2_with fail
        have hSW : SW w #[.int .i64 n0, .int .i64 v1, .int .i64 v2, .int .i64 v3, .int .i64 v4, .int .i64 v5, .int .i64 n6] wr.heap.size #[.int .i64 34, .int .i64 6, .int .i64 10] (wr.alloc (.cells #[.int .i64 34, .int .i64 6, .int .i64 10] 38)) := ⟨hB, hR0, heap_alloc_new wr _⟩
        have hBN : wr.heap.size ≠ w.heap.size + 1 := by have := (Array.getElem?_eq_some_iff.1 hr1).1; omega
        have hRF : RowF (w.heap.size + 1) #[.string ⟨#[]⟩, .string s1, .string s2, .string ⟨#[]⟩, .string ⟨#[]⟩, .string ⟨#[]⟩, .string ⟨#[]⟩] (wr.alloc (.cells #[.int .i64 34, .int .i64 6, .int .i64 10] 38)) := hR1
        clear hB hR0 hR1 hr1 hb
        generalize wr.alloc (.cells #[.int .i64 34, .int .i64 6, .int .i64 10] 38) = W at hSW hRF ⊢
        generalize wr.heap.size = B at hSW hBN ⊢
        have n1 : ∀ w', SW w #[.int .i64 n0, .int .i64 v1, .int .i64 v2, .int .i64 v3, .int .i64 v4, .int .i64 v5, .int .i64 n6] B #[.int .i64 34, .int .i64 6, .int .i64 10] w' → w'.cell? ⟨w.heap.size, 3, none⟩ = some (.int .i64 v3) := fun w' h => cell_of_row w' _ 3 _ _ _ h.2.1
        have d1 : ∀ w', SW w #[.int .i64 n0, .int .i64 v1, .int .i64 v2, .int .i64 v3, .int .i64 v4, .int .i64 v5, .int .i64 n6] B #[.int .i64 34, .int .i64 6, .int .i64 10] w' → w'.cell? ⟨B, 1, none⟩ = some (.int .i64 6) := fun w' h => cell_of_row w' _ 1 _ _ _ h.2.2
        have HP : Hid (∀ wx, SW w #[.int .i64 n0, .int .i64 v1, .int .i64 v2, .int .i64 v3, .int .i64 v4, .int .i64 v5, .int .i64 n6] B #[.int .i64 34, .int .i64 6, .int .i64 10] wx → RowF (w.heap.size + 1) #[.string ⟨#[]⟩, .string s1, .string s2, .string ⟨#[]⟩, .string ⟨#[]⟩, .string ⟨#[]⟩, .string ⟨#[]⟩] wx → Calls Tryd.prog 19 #[.int .i64 v3, .int .i64 6] wx fun e w' => e = .returned (.tuple #[.string s3, .int .i64 e3]) ∧ SW w #[.int .i64 n0, .int .i64 v1, .int .i64 v2, .int .i64 v3, .int .i64 v4, .int .i64 v5, .int .i64 n6] B #[.int .i64 34, .int .i64 6, .int .i64 10] w' ∧ RowF (w.heap.size + 1) #[.string ⟨#[]⟩, .string s1, .string s2, .string ⟨#[]⟩, .string ⟨#[]⟩, .string ⟨#[]⟩, .string ⟨#[]⟩] w') := fun wx h1 h2 => (H3.out wx (HT.out.on h1.1)).mono fun e w' ⟨he, hb⟩ => ⟨he, h1.kept hb, hkeep hb h2⟩
        go_region_held3 (fun w' => SW w #[.int .i64 n0, .int .i64 v1, .int .i64 v2, .int .i64 v3, .int .i64 v4, .int .i64 v5, .int .i64 n6] B #[.int .i64 34, .int .i64 6, .int .i64 10] w') (first | (with_reducible assumption) | (with_reducible exact SW.drew (by with_reducible assumption)) | (with_reducible refine SW.store ?_ hBN; with_reducible assumption)) (first | (go_at_call 19; refine (HP.out _ (by first | assumption | exact hSW.drew) (by first | assumption | exact hRF)).mono ?_; rintro e w1 ⟨rfl, hS', hR'⟩; have x1 := cell_of_row w1 (w.heap.size + 1) 3 _ _ _ hR'; have y1 := frozen_of_row w1 (w.heap.size + 1) 3 _ _ hR'))
        all_goals
          go_wp2
          go_roundw
          case rel => exact ⟨4, by omega, rfl, by rw [HE.out], (hS'.store hBN).2.1, (heap_setCell_same _ _ 3 _ _ _ hR').trans rfl, (hS'.store hBN).1, fun h => HQ.out.1 (by omega), fun h => HQ.out.2.1 (by omega), fun h => HE.out, fun h => HQ.out.2.2.2.1 (by omega), fun h => HQ.out.2.2.2.2 (by omega)⟩
          case measure => simp [intOf]
      · have HE : Hid (¬ e3 = 0) := he
        have hz : (e3 != 0) = true := by simp [he]
        clear he
        go_wp2_with fail
        have hSW : SW w #[.int .i64 n0, .int .i64 v1, .int .i64 v2, .int .i64 v3, .int .i64 v4, .int .i64 v5, .int .i64 n6] wr.heap.size #[.int .i64 34, .int .i64 6, .int .i64 10] (wr.alloc (.cells #[.int .i64 34, .int .i64 6, .int .i64 10] 38)) := ⟨hB, hR0, heap_alloc_new wr _⟩
        have hBN : wr.heap.size ≠ w.heap.size + 1 := by have := (Array.getElem?_eq_some_iff.1 hr1).1; omega
        have hRF : RowF (w.heap.size + 1) #[.string ⟨#[]⟩, .string s1, .string s2, .string ⟨#[]⟩, .string ⟨#[]⟩, .string ⟨#[]⟩, .string ⟨#[]⟩] (wr.alloc (.cells #[.int .i64 34, .int .i64 6, .int .i64 10] 38)) := hR1
        clear hB hR0 hR1 hr1 hb
        generalize wr.alloc (.cells #[.int .i64 34, .int .i64 6, .int .i64 10] 38) = W at hSW hRF ⊢
        generalize wr.heap.size = B at hSW hBN ⊢
        have n1 : ∀ w', SW w #[.int .i64 n0, .int .i64 v1, .int .i64 v2, .int .i64 v3, .int .i64 v4, .int .i64 v5, .int .i64 n6] B #[.int .i64 34, .int .i64 6, .int .i64 10] w' → w'.cell? ⟨w.heap.size, 3, none⟩ = some (.int .i64 v3) := fun w' h => cell_of_row w' _ 3 _ _ _ h.2.1
        have d1 : ∀ w', SW w #[.int .i64 n0, .int .i64 v1, .int .i64 v2, .int .i64 v3, .int .i64 v4, .int .i64 v5, .int .i64 n6] B #[.int .i64 34, .int .i64 6, .int .i64 10] w' → w'.cell? ⟨B, 1, none⟩ = some (.int .i64 6) := fun w' h => cell_of_row w' _ 1 _ _ _ h.2.2
        have HP : Hid (∀ wx, SW w #[.int .i64 n0, .int .i64 v1, .int .i64 v2, .int .i64 v3, .int .i64 v4, .int .i64 v5, .int .i64 n6] B #[.int .i64 34, .int .i64 6, .int .i64 10] wx → RowF (w.heap.size + 1) #[.string ⟨#[]⟩, .string s1, .string s2, .string ⟨#[]⟩, .string ⟨#[]⟩, .string ⟨#[]⟩, .string ⟨#[]⟩] wx → Calls Tryd.prog 19 #[.int .i64 v3, .int .i64 6] wx fun e w' => e = .returned (.tuple #[.string s3, .int .i64 e3]) ∧ SW w #[.int .i64 n0, .int .i64 v1, .int .i64 v2, .int .i64 v3, .int .i64 v4, .int .i64 v5, .int .i64 n6] B #[.int .i64 34, .int .i64 6, .int .i64 10] w' ∧ RowF (w.heap.size + 1) #[.string ⟨#[]⟩, .string s1, .string s2, .string ⟨#[]⟩, .string ⟨#[]⟩, .string ⟨#[]⟩, .string ⟨#[]⟩] w') := fun wx h1 h2 => (H3.out wx (HT.out.on h1.1)).mono fun e w' ⟨he, hb⟩ => ⟨he, h1.kept hb, hkeep hb h2⟩
        go_region_held3 (fun w' => SW w #[.int .i64 n0, .int .i64 v1, .int .i64 v2, .int .i64 v3, .int .i64 v4, .int .i64 v5, .int .i64 n6] B #[.int .i64 34, .int .i64 6, .int .i64 10] w') (first | (with_reducible assumption) | (with_reducible exact SW.drew (by with_reducible assumption)) | (with_reducible refine SW.store ?_ hBN; with_reducible assumption)) (first | (go_at_call 19; refine (HP.out _ (by first | assumption | exact hSW.drew) (by first | assumption | exact hRF)).mono ?_; rintro e w1 ⟨rfl, hS', hR'⟩; have x1 := cell_of_row w1 (w.heap.size + 1) 3 _ _ _ hR'; have y1 := frozen_of_row w1 (w.heap.size + 1) 3 _ _ hR'))
        all_goals
          go_wp2_with (refine wpList_store_row rfl _ _ _ rfl (w.heap.size + 1) #[.string ⟨#[]⟩, .string ⟨#[]⟩, .string ⟨#[]⟩, .string ⟨#[]⟩, .string ⟨#[]⟩, .string ⟨#[]⟩, .string ⟨#[]⟩] rfl rfl _ _ (heap_setCell_same _ _ 3 _ _ _ hR') rfl (by kernel_rfl) (by kernel_rfl) ?_)
          exact bodyPost_ret (results_cell_tmp_row rfl _ _ (w.heap.size + 1) _ _ _ _ _ rfl rfl (setRow_heap _ _ _ _ _ _ (heap_setCell_same _ _ 3 _ _ _ hR')) Tryd.underlying44 rfl (by kernel_rfl)) rfl (Or.inr ⟨fun h => HE.out h.2.2.1, ⟨_, HE.out, Or.inr (Or.inr (Or.inl rfl)), rfl⟩, below_setRow (hS'.store hBN).1 (by omega) _⟩)
    · have hi := col_4
      have HQ : Hid ((1 < 4 → e1 = 0) ∧ (2 < 4 → e2 = 0) ∧ (3 < 4 → e3 = 0) ∧ (4 < 4 → e4 = 0) ∧ (5 < 4 → e5 = 0)) := ⟨q1, q2, q3, q4, q5⟩
      clear q1 q2 q3 q4 q5
      have hR0 := hup hr0 (.cells #[.int .i64 40, .int .i64 8, .int .i64 8] 38)
      have hR1 := hup hr1 (.cells #[.int .i64 40, .int .i64 8, .int .i64 8] 38)
      simp only [wrA] at hR1
      have hB := bup hb (.cells #[.int .i64 40, .int .i64 8, .int .i64 8] 38)
      clear hr0
      by_cases he : e4 = 0
      · have HE : Hid (e4 = 0) := he
        have hz : (e4 != 0) = false := by simp [he]
        clear he
        go_wp2_with fail
        have hSW : SW w #[.int .i64 n0, .int .i64 v1, .int .i64 v2, .int .i64 v3, .int .i64 v4, .int .i64 v5, .int .i64 n6] wr.heap.size #[.int .i64 40, .int .i64 8, .int .i64 8] (wr.alloc (.cells #[.int .i64 40, .int .i64 8, .int .i64 8] 38)) := ⟨hB, hR0, heap_alloc_new wr _⟩
        have hBN : wr.heap.size ≠ w.heap.size + 1 := by have := (Array.getElem?_eq_some_iff.1 hr1).1; omega
        have hRF : RowF (w.heap.size + 1) #[.string ⟨#[]⟩, .string s1, .string s2, .string s3, .string ⟨#[]⟩, .string ⟨#[]⟩, .string ⟨#[]⟩] (wr.alloc (.cells #[.int .i64 40, .int .i64 8, .int .i64 8] 38)) := hR1
        clear hB hR0 hR1 hr1 hb
        generalize wr.alloc (.cells #[.int .i64 40, .int .i64 8, .int .i64 8] 38) = W at hSW hRF ⊢
        generalize wr.heap.size = B at hSW hBN ⊢
        have n1 : ∀ w', SW w #[.int .i64 n0, .int .i64 v1, .int .i64 v2, .int .i64 v3, .int .i64 v4, .int .i64 v5, .int .i64 n6] B #[.int .i64 40, .int .i64 8, .int .i64 8] w' → w'.cell? ⟨w.heap.size, 4, none⟩ = some (.int .i64 v4) := fun w' h => cell_of_row w' _ 4 _ _ _ h.2.1
        have d1 : ∀ w', SW w #[.int .i64 n0, .int .i64 v1, .int .i64 v2, .int .i64 v3, .int .i64 v4, .int .i64 v5, .int .i64 n6] B #[.int .i64 40, .int .i64 8, .int .i64 8] w' → w'.cell? ⟨B, 1, none⟩ = some (.int .i64 8) := fun w' h => cell_of_row w' _ 1 _ _ _ h.2.2
        have HP : Hid (∀ wx, SW w #[.int .i64 n0, .int .i64 v1, .int .i64 v2, .int .i64 v3, .int .i64 v4, .int .i64 v5, .int .i64 n6] B #[.int .i64 40, .int .i64 8, .int .i64 8] wx → RowF (w.heap.size + 1) #[.string ⟨#[]⟩, .string s1, .string s2, .string s3, .string ⟨#[]⟩, .string ⟨#[]⟩, .string ⟨#[]⟩] wx → Calls Tryd.prog 18 #[.int .i64 v4, .int .i64 8] wx fun e w' => e = .returned (.tuple #[.string s4, .int .i64 e4]) ∧ SW w #[.int .i64 n0, .int .i64 v1, .int .i64 v2, .int .i64 v3, .int .i64 v4, .int .i64 v5, .int .i64 n6] B #[.int .i64 40, .int .i64 8, .int .i64 8] w' ∧ RowF (w.heap.size + 1) #[.string ⟨#[]⟩, .string s1, .string s2, .string s3, .string ⟨#[]⟩, .string ⟨#[]⟩, .string ⟨#[]⟩] w') := fun wx h1 h2 => (H4.out wx (HT.out.on h1.1)).mono fun e w' ⟨he, hb⟩ => ⟨he, h1.kept hb, hkeep hb h2⟩
        go_region_held3 (fun w' => SW w #[.int .i64 n0, .int .i64 v1, .int .i64 v2, .int .i64 v3, .int .i64 v4, .int .i64 v5, .int .i64 n6] B #[.int .i64 40, .int .i64 8, .int .i64 8] w') (first | (with_reducible assumption) | (with_reducible exact SW.drew (by with_reducible assumption)) | (with_reducible refine SW.store ?_ hBN; with_reducible assumption)) (first | (go_at_call 18; refine (HP.out _ (by first | assumption | exact hSW.drew) (by first | assumption | exact hRF)).mono ?_; rintro e w1 ⟨rfl, hS', hR'⟩; have x1 := cell_of_row w1 (w.heap.size + 1) 4 _ _ _ hR'; have y1 := frozen_of_row w1 (w.heap.size + 1) 4 _ _ hR'))
        all_goals
          go_wp2
          go_roundw
          case rel => exact ⟨5, by omega, rfl, by rw [HE.out], (hS'.store hBN).2.1, (heap_setCell_same _ _ 4 _ _ _ hR').trans rfl, (hS'.store hBN).1, fun h => HQ.out.1 (by omega), fun h => HQ.out.2.1 (by omega), fun h => HQ.out.2.2.1 (by omega), fun h => HE.out, fun h => HQ.out.2.2.2.2 (by omega)⟩
          case measure => simp [intOf]
      · have HE : Hid (¬ e4 = 0) := he
        have hz : (e4 != 0) = true := by simp [he]
        clear he
        go_wp2_with fail
        have hSW : SW w #[.int .i64 n0, .int .i64 v1, .int .i64 v2, .int .i64 v3, .int .i64 v4, .int .i64 v5, .int .i64 n6] wr.heap.size #[.int .i64 40, .int .i64 8, .int .i64 8] (wr.alloc (.cells #[.int .i64 40, .int .i64 8, .int .i64 8] 38)) := ⟨hB, hR0, heap_alloc_new wr _⟩
        have hBN : wr.heap.size ≠ w.heap.size + 1 := by have := (Array.getElem?_eq_some_iff.1 hr1).1; omega
        have hRF : RowF (w.heap.size + 1) #[.string ⟨#[]⟩, .string s1, .string s2, .string s3, .string ⟨#[]⟩, .string ⟨#[]⟩, .string ⟨#[]⟩] (wr.alloc (.cells #[.int .i64 40, .int .i64 8, .int .i64 8] 38)) := hR1
        clear hB hR0 hR1 hr1 hb
        generalize wr.alloc (.cells #[.int .i64 40, .int .i64 8, .int .i64 8] 38) = W at hSW hRF ⊢
        generalize wr.heap.size = B at hSW hBN ⊢
        have n1 : ∀ w', SW w #[.int .i64 n0, .int .i64 v1, .int .i64 v2, .int .i64 v3, .int .i64 v4, .int .i64 v5, .int .i64 n6] B #[.int .i64 40, .int .i64 8, .int .i64 8] w' → w'.cell? ⟨w.heap.size, 4, none⟩ = some (.int .i64 v4) := fun w' h => cell_of_row w' _ 4 _ _ _ h.2.1
        have d1 : ∀ w', SW w #[.int .i64 n0, .int .i64 v1, .int .i64 v2, .int .i64 v3, .int .i64 v4, .int .i64 v5, .int .i64 n6] B #[.int .i64 40, .int .i64 8, .int .i64 8] w' → w'.cell? ⟨B, 1, none⟩ = some (.int .i64 8) := fun w' h => cell_of_row w' _ 1 _ _ _ h.2.2
        have HP : Hid (∀ wx, SW w #[.int .i64 n0, .int .i64 v1, .int .i64 v2, .int .i64 v3, .int .i64 v4, .int .i64 v5, .int .i64 n6] B #[.int .i64 40, .int .i64 8, .int .i64 8] wx → RowF (w.heap.size + 1) #[.string ⟨#[]⟩, .string s1, .string s2, .string s3, .string ⟨#[]⟩, .string ⟨#[]⟩, .string ⟨#[]⟩] wx → Calls Tryd.prog 18 #[.int .i64 v4, .int .i64 8] wx fun e w' => e = .returned (.tuple #[.string s4, .int .i64 e4]) ∧ SW w #[.int .i64 n0, .int .i64 v1, .int .i64 v2, .int .i64 v3, .int .i64 v4, .int .i64 v5, .int .i64 n6] B #[.int .i64 40, .int .i64 8, .int .i64 8] w' ∧ RowF (w.heap.size + 1) #[.string ⟨#[]⟩, .string s1, .string s2, .string s3, .string ⟨#[]⟩, .string ⟨#[]⟩, .string ⟨#[]⟩] w') := fun wx h1 h2 => (H4.out wx (HT.out.on h1.1)).mono fun e w' ⟨he, hb⟩ => ⟨he, h1.kept hb, hkeep hb h2⟩
        go_region_held3 (fun w' => SW w #[.int .i64 n0, .int .i64 v1, .int .i64 v2, .int .i64 v3, .int .i64 v4, .int .i64 v5, .int .i64 n6] B #[.int .i64 40, .int .i64 8, .int .i64 8] w') (first | (with_reducible assumption) | (with_reducible exact SW.drew (by with_reducible assumption)) | (with_reducible refine SW.store ?_ hBN; with_reducible assumption)) (first | (go_at_call 18; refine (HP.out _ (by first | assumption | exact hSW.drew) (by first | assumption | exact hRF)).mono ?_; rintro e w1 ⟨rfl, hS', hR'⟩; have x1 := cell_of_row w1 (w.heap.size + 1) 4 _ _ _ hR'; have y1 := frozen_of_row w1 (w.heap.size + 1) 4 _ _ hR'))
        all_goals
          go_wp2_with (refine wpList_store_row rfl _ _ _ rfl (w.heap.size + 1) #[.string ⟨#[]⟩, .string ⟨#[]⟩, .string ⟨#[]⟩, .string ⟨#[]⟩, .string ⟨#[]⟩, .string ⟨#[]⟩, .string ⟨#[]⟩] rfl rfl _ _ (heap_setCell_same _ _ 4 _ _ _ hR') rfl (by kernel_rfl) (by kernel_rfl) ?_)
          exact bodyPost_ret (results_cell_tmp_row rfl _ _ (w.heap.size + 1) _ _ _ _ _ rfl rfl (setRow_heap _ _ _ _ _ _ (heap_setCell_same _ _ 4 _ _ _ hR')) Tryd.underlying44 rfl (by kernel_rfl)) rfl (Or.inr ⟨fun h => HE.out h.2.2.2.1, ⟨_, HE.out, Or.inr (Or.inr (Or.inr (Or.inl rfl))), rfl⟩, below_setRow (hS'.store hBN).1 (by omega) _⟩)
    · have hi := col_5
      have HQ : Hid ((1 < 5 → e1 = 0) ∧ (2 < 5 → e2 = 0) ∧ (3 < 5 → e3 = 0) ∧ (4 < 5 → e4 = 0) ∧ (5 < 5 → e5 = 0)) := ⟨q1, q2, q3, q4, q5⟩
      clear q1 q2 q3 q4 q5
      have hR0 := hup hr0 (.cells #[.int .i64 48, .int .i64 10, .int .i64 10] 38)
      have hR1 := hup hr1 (.cells #[.int .i64 48, .int .i64 10, .int .i64 10] 38)
      simp only [wrA] at hR1
      have hB := bup hb (.cells #[.int .i64 48, .int .i64 10, .int .i64 10] 38)
      clear hr0
      by_cases he : e5 = 0
      · have HE : Hid (e5 = 0) := he
        have hz : (e5 != 0) = false := by simp [he]
        clear he
        go_wp2_with fail
        have hSW : SW w #[.int .i64 n0, .int .i64 v1, .int .i64 v2, .int .i64 v3, .int .i64 v4, .int .i64 v5, .int .i64 n6] wr.heap.size #[.int .i64 48, .int .i64 10, .int .i64 10] (wr.alloc (.cells #[.int .i64 48, .int .i64 10, .int .i64 10] 38)) := ⟨hB, hR0, heap_alloc_new wr _⟩
        have hBN : wr.heap.size ≠ w.heap.size + 1 := by have := (Array.getElem?_eq_some_iff.1 hr1).1; omega
        have hRF : RowF (w.heap.size + 1) #[.string ⟨#[]⟩, .string s1, .string s2, .string s3, .string s4, .string ⟨#[]⟩, .string ⟨#[]⟩] (wr.alloc (.cells #[.int .i64 48, .int .i64 10, .int .i64 10] 38)) := hR1
        clear hB hR0 hR1 hr1 hb
        generalize wr.alloc (.cells #[.int .i64 48, .int .i64 10, .int .i64 10] 38) = W at hSW hRF ⊢
        generalize wr.heap.size = B at hSW hBN ⊢
        have n1 : ∀ w', SW w #[.int .i64 n0, .int .i64 v1, .int .i64 v2, .int .i64 v3, .int .i64 v4, .int .i64 v5, .int .i64 n6] B #[.int .i64 48, .int .i64 10, .int .i64 10] w' → w'.cell? ⟨w.heap.size, 5, none⟩ = some (.int .i64 v5) := fun w' h => cell_of_row w' _ 5 _ _ _ h.2.1
        have d1 : ∀ w', SW w #[.int .i64 n0, .int .i64 v1, .int .i64 v2, .int .i64 v3, .int .i64 v4, .int .i64 v5, .int .i64 n6] B #[.int .i64 48, .int .i64 10, .int .i64 10] w' → w'.cell? ⟨B, 1, none⟩ = some (.int .i64 10) := fun w' h => cell_of_row w' _ 1 _ _ _ h.2.2
        have HP : Hid (∀ wx, SW w #[.int .i64 n0, .int .i64 v1, .int .i64 v2, .int .i64 v3, .int .i64 v4, .int .i64 v5, .int .i64 n6] B #[.int .i64 48, .int .i64 10, .int .i64 10] wx → RowF (w.heap.size + 1) #[.string ⟨#[]⟩, .string s1, .string s2, .string s3, .string s4, .string ⟨#[]⟩, .string ⟨#[]⟩] wx → Calls Tryd.prog 19 #[.int .i64 v5, .int .i64 10] wx fun e w' => e = .returned (.tuple #[.string s5, .int .i64 e5]) ∧ SW w #[.int .i64 n0, .int .i64 v1, .int .i64 v2, .int .i64 v3, .int .i64 v4, .int .i64 v5, .int .i64 n6] B #[.int .i64 48, .int .i64 10, .int .i64 10] w' ∧ RowF (w.heap.size + 1) #[.string ⟨#[]⟩, .string s1, .string s2, .string s3, .string s4, .string ⟨#[]⟩, .string ⟨#[]⟩] w') := fun wx h1 h2 => (H5.out wx (HT.out.on h1.1)).mono fun e w' ⟨he, hb⟩ => ⟨he, h1.kept hb, hkeep hb h2⟩
        go_region_held3 (fun w' => SW w #[.int .i64 n0, .int .i64 v1, .int .i64 v2, .int .i64 v3, .int .i64 v4, .int .i64 v5, .int .i64 n6] B #[.int .i64 48, .int .i64 10, .int .i64 10] w') (first | (with_reducible assumption) | (with_reducible exact SW.drew (by with_reducible assumption)) | (with_reducible refine SW.store ?_ hBN; with_reducible assumption)) (first | (go_at_call 19; refine (HP.out _ (by first | assumption | exact hSW.drew) (by first | assumption | exact hRF)).mono ?_; rintro e w1 ⟨rfl, hS', hR'⟩; have x1 := cell_of_row w1 (w.heap.size + 1) 5 _ _ _ hR'; have y1 := frozen_of_row w1 (w.heap.size + 1) 5 _ _ hR'))
        all_goals
          go_wp2
          go_roundw
          case rel => exact ⟨6, by omega, rfl, by rw [HE.out], (hS'.store hBN).2.1, (heap_setCell_same _ _ 5 _ _ _ hR').trans rfl, (hS'.store hBN).1, fun h => HQ.out.1 (by omega), fun h => HQ.out.2.1 (by omega), fun h => HQ.out.2.2.1 (by omega), fun h => HQ.out.2.2.2.1 (by omega), fun h => HE.out⟩
          case measure => simp [intOf]
      · have HE : Hid (¬ e5 = 0) := he
        have hz : (e5 != 0) = true := by simp [he]
        clear he
        go_wp2_with fail
        have hSW : SW w #[.int .i64 n0, .int .i64 v1, .int .i64 v2, .int .i64 v3, .int .i64 v4, .int .i64 v5, .int .i64 n6] wr.heap.size #[.int .i64 48, .int .i64 10, .int .i64 10] (wr.alloc (.cells #[.int .i64 48, .int .i64 10, .int .i64 10] 38)) := ⟨hB, hR0, heap_alloc_new wr _⟩
        have hBN : wr.heap.size ≠ w.heap.size + 1 := by have := (Array.getElem?_eq_some_iff.1 hr1).1; omega
        have hRF : RowF (w.heap.size + 1) #[.string ⟨#[]⟩, .string s1, .string s2, .string s3, .string s4, .string ⟨#[]⟩, .string ⟨#[]⟩] (wr.alloc (.cells #[.int .i64 48, .int .i64 10, .int .i64 10] 38)) := hR1
        clear hB hR0 hR1 hr1 hb
        generalize wr.alloc (.cells #[.int .i64 48, .int .i64 10, .int .i64 10] 38) = W at hSW hRF ⊢
        generalize wr.heap.size = B at hSW hBN ⊢
        have n1 : ∀ w', SW w #[.int .i64 n0, .int .i64 v1, .int .i64 v2, .int .i64 v3, .int .i64 v4, .int .i64 v5, .int .i64 n6] B #[.int .i64 48, .int .i64 10, .int .i64 10] w' → w'.cell? ⟨w.heap.size, 5, none⟩ = some (.int .i64 v5) := fun w' h => cell_of_row w' _ 5 _ _ _ h.2.1
        have d1 : ∀ w', SW w #[.int .i64 n0, .int .i64 v1, .int .i64 v2, .int .i64 v3, .int .i64 v4, .int .i64 v5, .int .i64 n6] B #[.int .i64 48, .int .i64 10, .int .i64 10] w' → w'.cell? ⟨B, 1, none⟩ = some (.int .i64 10) := fun w' h => cell_of_row w' _ 1 _ _ _ h.2.2
        have HP : Hid (∀ wx, SW w #[.int .i64 n0, .int .i64 v1, .int .i64 v2, .int .i64 v3, .int .i64 v4, .int .i64 v5, .int .i64 n6] B #[.int .i64 48, .int .i64 10, .int .i64 10] wx → RowF (w.heap.size + 1) #[.string ⟨#[]⟩, .string s1, .string s2, .string s3, .string s4, .string ⟨#[]⟩, .string ⟨#[]⟩] wx → Calls Tryd.prog 19 #[.int .i64 v5, .int .i64 10] wx fun e w' => e = .returned (.tuple #[.string s5, .int .i64 e5]) ∧ SW w #[.int .i64 n0, .int .i64 v1, .int .i64 v2, .int .i64 v3, .int .i64 v4, .int .i64 v5, .int .i64 n6] B #[.int .i64 48, .int .i64 10, .int .i64 10] w' ∧ RowF (w.heap.size + 1) #[.string ⟨#[]⟩, .string s1, .string s2, .string s3, .string s4, .string ⟨#[]⟩, .string ⟨#[]⟩] w') := fun wx h1 h2 => (H5.out wx (HT.out.on h1.1)).mono fun e w' ⟨he, hb⟩ => ⟨he, h1.kept hb, hkeep hb h2⟩
        go_region_held3 (fun w' => SW w #[.int .i64 n0, .int .i64 v1, .int .i64 v2, .int .i64 v3, .int .i64 v4, .int .i64 v5, .int .i64 n6] B #[.int .i64 48, .int .i64 10, .int .i64 10] w') (first | (with_reducible assumption) | (with_reducible exact SW.drew (by with_reducible assumption)) | (with_reducible refine SW.store ?_ hBN; with_reducible assumption)) (first | (go_at_call 19; refine (HP.out _ (by first | assumption | exact hSW.drew) (by first | assumption | exact hRF)).mono ?_; rintro e w1 ⟨rfl, hS', hR'⟩; have x1 := cell_of_row w1 (w.heap.size + 1) 5 _ _ _ hR'; have y1 := frozen_of_row w1 (w.heap.size + 1) 5 _ _ hR'))
        all_goals
          go_wp2_with (refine wpList_store_row rfl _ _ _ rfl (w.heap.size + 1) #[.string ⟨#[]⟩, .string ⟨#[]⟩, .string ⟨#[]⟩, .string ⟨#[]⟩, .string ⟨#[]⟩, .string ⟨#[]⟩, .string ⟨#[]⟩] rfl rfl _ _ (heap_setCell_same _ _ 5 _ _ _ hR') rfl (by kernel_rfl) (by kernel_rfl) ?_)
          exact bodyPost_ret (results_cell_tmp_row rfl _ _ (w.heap.size + 1) _ _ _ _ _ rfl rfl (setRow_heap _ _ _ _ _ _ (heap_setCell_same _ _ 5 _ _ _ hR')) Tryd.underlying44 rfl (by kernel_rfl)) rfl (Or.inr ⟨fun h => HE.out h.2.2.2.2, ⟨_, HE.out, Or.inr (Or.inr (Or.inr (Or.inr rfl))), rfl⟩, below_setRow (hS'.store hBN).1 (by omega) _⟩)
    · have hi := col_6
      have HQ : Hid ((1 < 6 → e1 = 0) ∧ (2 < 6 → e2 = 0) ∧ (3 < 6 → e3 = 0) ∧ (4 < 6 → e4 = 0) ∧ (5 < 6 → e5 = 0)) := ⟨q1, q2, q3, q4, q5⟩
      clear q1 q2 q3 q4 q5
      have hR0 := hup hr0 (.cells #[.int .i64 58, .int .i64 2, .int .i64 0] 38)
      have hR1 := hup hr1 (.cells #[.int .i64 58, .int .i64 2, .int .i64 0] 38)
      simp only [wrA] at hR1
      have hB := bup hb (.cells #[.int .i64 58, .int .i64 2, .int .i64 0] 38)
      clear hr0
      go_wp2
      go_roundw
      case rel => exact ⟨7, by omega, rfl, rfl, hR0, hR1, hB, fun h => HQ.out.1 (by omega), fun h => HQ.out.2.1 (by omega), fun h => HQ.out.2.2.1 (by omega), fun h => HQ.out.2.2.2.1 (by omega), fun h => HQ.out.2.2.2.2 (by omega)⟩
      case measure => simp [intOf]
    · have HQ : Hid (e1 = 0 ∧ e2 = 0 ∧ e3 = 0 ∧ e4 = 0 ∧ e5 = 0) := ⟨q1 (by omega), q2 (by omega), q3 (by omega), q4 (by omega), q5 (by omega)⟩
      clear q1 q2 q3 q4 q5
      simp only [wrA] at hr1
      go_wp2_with (first
        | (refine wpList_load_row rfl _ _ rfl (w.heap.size + 1) rfl _ _ _ _ hr1 Tryd.underlying44 rfl (by kernel_rfl) ?_)
        | (refine wpList_store_row rfl _ _ _ rfl (w.heap.size + 1) #[.string ⟨#[]⟩, .string s1, .string s2, .string s3, .string s4, .string s5, .string ⟨#[]⟩] rfl rfl _ _ hr1 rfl (by kernel_rfl) (by kernel_rfl) ?_))
      exact bodyPost_ret (results_cell_tmp_row rfl _ _ (w.heap.size + 1) _ _ _ _ _ rfl rfl (setRow_heap _ _ _ _ _ _ hr1) Tryd.underlying44 rfl (by kernel_rfl)) rfl (Or.inl ⟨HQ.out.1, HQ.out.2.1, HQ.out.2.2.1, HQ.out.2.2.2.1, HQ.out.2.2.2.2, rfl, below_setRow hb (by omega) _⟩)
end Go.Proofs.YtbkfkanknfdelabDoor
