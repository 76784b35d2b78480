
-- elf: one number of a part, by num.Load: contracts.
import Derived.Test.YtoikagccopglkaaDoorF2
import Derived.Test.YtoikagccopglkaaDoorE0
import Derived.Test.YtoikagccopglkaaDoorN3
import Derived.Laws.NewBlocks
namespace Go.Proofs.YtoikagccopglkaaDoor
open Go.ChangeShapes Go.WideShapes Go.ChangeAt Go.RowKit
set_option linter.unusedVariables false
set_option maxRecDepth 100000

theorem load_c (s : ByteArray) (a K : Nat) (o : Int) (w : World) (ho : o = 0 ∨ o = 1) (hK : K = 2 ∨ K = 4 ∨ K = 8) (ha : a + K ≤ s.size) (hm : s.size ≤ maxLen) :
    Calls Tryd.prog 33 #[.string s, .int .i64 a, .int .i64 K, .int .i64 o] w fun e w' => e = .returned (.tuple #[.int .u64 (num s a K o), .int .i64 0]) ∧ Dr w w' := by
  rcases ho with rfl | rfl
  · rcases hK with rfl | rfl | rfl
    · exact num_load_little_2 s a 0 w rfl rfl ha hm
    · exact num_load_little_4 s a 0 w rfl rfl ha hm
    · exact num_load_little_8 s a 0 w rfl rfl ha hm
  · rcases hK with rfl | rfl | rfl
    · exact num_load_big_2 s a 1 w rfl rfl ha hm
    · exact num_load_big_4 s a 1 w rfl rfl ha hm
    · exact num_load_big_8 s a 1 w rfl rfl ha hm
theorem lt_of_cell {w : World} {k i : Nat} {v : Value} (h : w.cell? ⟨k, i, none⟩ = some v) : k < w.heap.size := by
  by_cases hk : k < w.heap.size
  · exact hk
  · have : w.heap[k]? = none := by simp; omega
    simp [World.cell?, this] at h
theorem number_c (s : ByteArray) (k : Nat) (a K : Nat) (o : Int) (w : World) (ho : o = 0 ∨ o = 1) (hK : K = 2 ∨ K = 4 ∨ K = 8) (ha : a + K ≤ s.size) (hm : s.size ≤ maxLen) (hO : w.cell? ⟨k, 32, none⟩ = some (.int .i64 o)) :
    Calls Tryd.prog 29 #[.pointer (some ⟨k, 0, none⟩), .string s, .agg #[.int .i64 a, .int .i64 K]] w fun r w' => r = .returned (.int .u64 (num s a K o)) ∧ Below w.heap.size w w' := by
  have hk := lt_of_cell hO
  have hO' : (w.alloc (.cells #[.int .i64 a, .int .i64 K] 54)).cell? ⟨k, 32, none⟩ = some (.int .i64 o) := by rw [World.cell?_alloc_past _ _ _ hk]; exact hO
  have HL := fun w => load_c s a K o w ho hK ha hm
  have HL2 : Hid (∀ w, Calls Tryd.prog 33 #[.string s, .int .i64 a, .int .i64 K, .int .i64 o] w fun e w' => e = .returned (.tuple #[.int .u64 (num s a K o), .int .i64 0]) ∧ Dr w w') := HL
  clear HL ha hm hK ho
  go_enter Tryd.func29, Tryd.ntmps29
  go_wp2_with fail
  go_quiet ((go_at_call 33; exact Calls.quiet_of (HL2.out _)))
  go_wp2_with (first | (go_at_call 20; refine (require_ok _ _ _ rfl).mono ?_; rintro r w1 ⟨rfl, hw⟩; subst w1))
  go_ret
  exact ⟨rfl, below_drewN (Below.alloc (Below.refl _ _) (Nat.le_refl _) _) _⟩
end Go.Proofs.YtoikagccopglkaaDoor
