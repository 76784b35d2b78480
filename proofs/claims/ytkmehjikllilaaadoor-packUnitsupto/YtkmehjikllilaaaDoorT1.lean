
-- syms: the columns of a class, one number of an entry, a name: contracts.
import Derived.Test.YtkmehjikllilaaaDoorN4
import Derived.Test.YtkmehjikllilaaaDoorC2
import Derived.Test.YtkmehjikllilaaaDoorS3
import Derived.Test.YtkmehjikllilaaaDoorH0
import Derived.Test.YtkmehjikllilaaaDoorY0
namespace Go.Proofs.YtkmehjikllilaaaDoor
open Go.ChangeShapes Go.WideShapes Go.ChangeAt Go.RowKit
set_option linter.unusedVariables false
set_option maxRecDepth 100000
def col32 : Array Value := #[.int .u64 16, .int .i64 0, .int .i64 4, .int .i64 4, .int .i64 4, .int .i64 8, .int .i64 4, .int .i64 12, .int .i64 1, .int .i64 13, .int .i64 1, .int .i64 14, .int .i64 2]
def col64 : Array Value := #[.int .u64 24, .int .i64 0, .int .i64 4, .int .i64 8, .int .i64 8, .int .i64 16, .int .i64 8, .int .i64 4, .int .i64 1, .int .i64 5, .int .i64 1, .int .i64 6, .int .i64 2]
set_option maxHeartbeats 2000000 in
theorem columns_32 (w : World) : Calls Tryd.prog 22 #[.int .i64 32] w fun r w' => r = .returned (.agg col32) ∧ Below w.heap.size w w' := by
  go_enter Tryd.func22, Tryd.ntmps22
  go_wp2_with (refine wpList_store_row rfl _ _ _ rfl w.heap.size col32 rfl rfl _ _ (heap_alloc_new w _) rfl (by kernel_rfl) (by kernel_rfl) ?_)
  exact bodyPost_ret (results_cell_row rfl _ _ w.heap.size _ col32 _ _ rfl (setRow_heap _ _ _ _ _ _ (heap_alloc_new w _)) Tryd.underlying69 rfl (by kernel_rfl)) rfl ⟨rfl, below_setRow (Below.alloc (Below.refl _ _) (Nat.le_refl _) _) (Nat.le_refl _) _⟩
set_option maxHeartbeats 2000000 in
theorem columns_64 (w : World) : Calls Tryd.prog 22 #[.int .i64 64] w fun r w' => r = .returned (.agg col64) ∧ Below w.heap.size w w' := by
  go_enter Tryd.func22, Tryd.ntmps22
  go_wp2_with (refine wpList_store_row rfl _ _ _ rfl w.heap.size col64 rfl rfl _ _ (heap_alloc_new w _) rfl (by kernel_rfl) (by kernel_rfl) ?_)
  exact bodyPost_ret (results_cell_row rfl _ _ w.heap.size _ col64 _ _ rfl (setRow_heap _ _ _ _ _ _ (heap_alloc_new w _)) Tryd.underlying69 rfl (by kernel_rfl)) rfl ⟨rfl, below_setRow (Below.alloc (Below.refl _ _) (Nat.le_refl _) _) (Nat.le_refl _) _⟩
theorem load_any (s : ByteArray) (a K : Nat) (o : Int) (w : World) (ho : o = 0 ∨ o = 1) (hK : K = 1 ∨ K = 2 ∨ K = 4 ∨ K = 8) (ha : a + K ≤ s.size) (hm : s.size ≤ maxLen) :
    Calls Tryd.prog 63 #[.string s, .int .i64 a, .int .i64 K, .int .i64 o] w fun e w' => e = .returned (.tuple #[.int .u64 (num s a K o), .int .i64 0]) ∧ Dr w w' := by
  rcases hK with rfl | hK
  · rcases ho with rfl | rfl
    · exact num_load_little_1 s a 0 w rfl rfl ha hm
    · exact num_load_big_1 s a 1 w rfl rfl ha hm
  · exact load_c s a K o w ho hK ha hm
theorem snumber_c (s : ByteArray) (k : Nat) (a K : Nat) (o : Int) (w : World) (ho : o = 0 ∨ o = 1) (hK : K = 1 ∨ K = 2 ∨ K = 4 ∨ K = 8) (ha : a + K ≤ s.size) (hm : s.size ≤ maxLen) (hO : w.cell? ⟨k, 13, none⟩ = some (.int .i64 o)) :
    Calls Tryd.prog 57 #[.pointer (some ⟨k, 0, none⟩), .string s, .agg #[.int .i64 a, .int .i64 K]] w fun r w' => r = .returned (.int .u64 (num s a K o)) ∧ Below w.heap.size w w' := by
  have hk := lt_of_cell hO
  have hO' : (w.alloc (.cells #[.int .i64 a, .int .i64 K] 67)).cell? ⟨k, 13, none⟩ = some (.int .i64 o) := by rw [World.cell?_alloc_past _ _ _ hk]; exact hO
  have HL := fun w => load_any s a K o w ho hK ha hm
  have HL2 : Hid (∀ w, Calls Tryd.prog 63 #[.string s, .int .i64 a, .int .i64 K, .int .i64 o] w fun e w' => e = .returned (.tuple #[.int .u64 (num s a K o), .int .i64 0]) ∧ Dr w w') := HL
  clear HL ha hm hK ho
  go_enter Tryd.func57, Tryd.ntmps57
  go_wp2_with fail
  go_quiet ((go_at_call 63; exact Calls.quiet_of (HL2.out _)))
  go_wp2
  go_ret
  exact ⟨rfl, below_drewN (Below.alloc (Below.refl _ _) (Nat.le_refl _) _) _⟩
theorem below_of_same {w w' : World} (h : w' = w) : Below w.heap.size w w' := by rw [h]; exact Below.refl _ _
theorem nameAt_ok (t nm : ByteArray) (k p : Nat) (w : World) (hp : p < 4294967296) (hm : t.size ≤ maxLen) (hT : w.cell? ⟨k, 15, none⟩ = some (.string t)) (h : nameOf t p = some nm) :
    Calls Tryd.prog 56 #[.pointer (some ⟨k, 0, none⟩), .int .i64 p] w fun r w' => r = .returned (.tuple #[.string nm, .int .i64 0]) ∧ Below w.heap.size w w' := by
  unfold nameOf at h
  by_cases h0 : p = 0
  · rw [if_pos h0] at h
    obtain rfl := Option.some.inj h
    subst h0
    go_enter Tryd.func56, Tryd.ntmps56
    go_wp2
    go_ret2
    exact ⟨rfl, Below.refl _ _⟩
  · rw [if_neg h0] at h
    have hp0 : ((p : Int) == 0) = false := beq_eq_false_iff_ne.2 (by omega)
    have HS : Hid (∀ w : World, Calls Tryd.prog 62 #[.string t, .int .i64 p] w fun r w' => r = .returned (.tuple #[.string nm, .int .i64 0]) ∧ Below w.heap.size w w') := by
      intro w
      rcases str_or t p with ⟨j, hj⟩ | hj
      · rw [strAt_some hj] at h
        obtain rfl := Option.some.inj h
        exact Str_ok t p _ w fun w => (textAt_ok t p j w hj hm).mono fun r w' ⟨h1, h2⟩ => ⟨h1, below_of_same h2⟩
      · rw [strAt_none hj] at h; cases h
    clear h
    go_enter Tryd.func56, Tryd.ntmps56
    go_wp2_with (first | (go_at_call 62; refine (HS.out _).mono ?_; rintro r w1 ⟨rfl, hb1⟩))
    go_ret2
    exact ⟨rfl, hb1⟩
theorem nameAt_no (t : ByteArray) (k p : Nat) (w : World) (hp : p < 4294967296) (hm : t.size ≤ maxLen) (hT : w.cell? ⟨k, 15, none⟩ = some (.string t)) (h : nameOf t p = none) :
    Calls Tryd.prog 56 #[.pointer (some ⟨k, 0, none⟩), .int .i64 p] w fun r w' => r = .returned (.tuple #[.string .empty, .int .i64 56]) ∧ Below w.heap.size w w' := by
  unfold nameOf at h
  by_cases h0 : p = 0
  · rw [if_pos h0] at h; cases h
  · rw [if_neg h0] at h
    have hp0 : ((p : Int) == 0) = false := beq_eq_false_iff_ne.2 (by omega)
    have HS : Hid (∀ w : World, Calls Tryd.prog 62 #[.string t, .int .i64 p] w fun r w' => r = .returned (.tuple #[.string .empty, .int .i64 56]) ∧ Below w.heap.size w w') := by
      intro w
      rcases str_or t p with ⟨j, hj⟩ | hj
      · rw [strAt_some hj] at h; cases h
      · refine Str_no t p 56 w fun w => ?_
        by_cases hps : p < t.size
        · exact (textAt_none t p w hps hj hm).mono fun r w' ⟨h1, h2⟩ => ⟨h1, below_of_same h2⟩
        · exact (textAt_out t p w (Or.inr (by omega)) hm).mono fun r w' ⟨h1, h2⟩ => ⟨h1, below_of_same h2⟩
    clear h
    go_enter Tryd.func56, Tryd.ntmps56
    go_wp2_with (first | (go_at_call 62; refine (HS.out _).mono ?_; rintro r w1 ⟨rfl, hb1⟩))
    go_ret2
    exact ⟨rfl, hb1⟩
end Go.Proofs.YtkmehjikllilaaaDoor
