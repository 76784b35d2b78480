
-- elf.Content and elf.Str: contracts.
import Derived.Test.YtkmehjikllilaaaDoorS1
import Derived.Test.YtkmehjikllilaaaDoorW1
import Derived.Test.YtkmehjikllilaaaDoorC2
import Derived.Laws.NewBlocks
import Derived.Laws.Rows
import Derived.RegionTactic
import Derived.Deep.RegionWith
namespace Go.Proofs.YtkmehjikllilaaaDoor
open Go.ChangeShapes Go.WideShapes Go.ChangeAt Go.RowKit
set_option linter.unusedVariables false
set_option maxRecDepth 100000
/-- a section's eight numbers -/
def sec (a b c d e f g h : Int) : Array Value := #[.int .i64 a, .int .i64 b, .int .u64 c, .int .i64 d, .int .i64 e, .int .u64 f, .int .u64 g, .int .u64 h]
theorem content_room (s : ByteArray) (a b c d e f g h : Int) (w : World) (hb : b = 8) :
    Calls Tryd.prog 55 #[.string s, .agg #[.int .i64 a, .int .i64 b, .int .u64 c, .int .i64 d, .int .i64 e, .int .u64 f, .int .u64 g, .int .u64 h]] w fun r w' => r = .returned (.string .empty) ∧ Below w.heap.size w w' := by
  subst hb
  go_enter Tryd.func55, Tryd.ntmps55
  go_wp2
  go_ret
  exact ⟨rfl, Below.alloc (Below.refl _ _) (Nat.le_refl _) _⟩
theorem content_ok (s : ByteArray) (a b c d e h : Int) (f g : Nat) (w : World) (hb : (b == 8) = false) (hp : f ≤ s.size) (hn : g ≤ s.size - f) (hm : s.size ≤ maxLen) :
    Calls Tryd.prog 55 #[.string s, .agg #[.int .i64 a, .int .i64 b, .int .u64 c, .int .i64 d, .int .i64 e, .int .u64 f, .int .u64 g, .int .u64 h]] w fun r w' => r = .returned (.string (s.extract f (f + g))) ∧ Below w.heap.size w w' := by
  have HP := Hid.mk' (fun w => piece_ok s f g w hp hn hm)
  clear hp hn hm
  go_enter Tryd.func55, Tryd.ntmps55
  go_wp2_with (go_at_call 52; refine (HP.out _).mono ?_; rintro r w1 ⟨rfl, hw⟩; subst w1)
  go_ret
  exact ⟨rfl, Below.alloc (Below.refl _ _) (Nat.le_refl _) _⟩
theorem content_no (s : ByteArray) (a b c d e h : Int) (f g : Nat) (w : World) (hb : (b == 8) = false) (hf : f < 18446744073709551616) (hg : g < 18446744073709551616) (hn : ¬ (f ≤ s.size ∧ g ≤ s.size - f)) (hm : s.size ≤ maxLen) :
    Calls Tryd.prog 55 #[.string s, .agg #[.int .i64 a, .int .i64 b, .int .u64 c, .int .i64 d, .int .i64 e, .int .u64 f, .int .u64 g, .int .u64 h]] w fun r w' => r = .panicked (gives 54) ∧ Below w.heap.size w w' := by
  have HP := Hid.mk' (fun w => piece_no s f g w hf hg hn hm)
  clear hf hg hn hm
  go_enter Tryd.func55, Tryd.ntmps55
  go_wp2_with (go_at_call 52; refine (HP.out _).mono ?_; rintro r w1 ⟨rfl, hw⟩; subst w1)
  exact ⟨rfl, rfl, Below.alloc (Below.refl _ _) (Nat.le_refl _) _⟩
theorem cell_kept {w w1 : World} {v : Value} {t : TypeId} (hb : Below (w.alloc (.cells #[v] t)).heap.size (w.alloc (.cells #[v] t)) w1) : w1.cell? ⟨w.heap.size, 0, none⟩ = some v := by
  rw [size_alloc] at hb
  rw [hb.cell (Nat.lt_succ_self _)]; exact cell_of_row _ _ 0 _ _ _ (heap_alloc_new w _)
theorem frozen_kept {w w1 : World} {v : Value} {t : TypeId} (hb : Below (w.alloc (.cells #[v] t)).heap.size (w.alloc (.cells #[v] t)) w1) : w1.frozen? ⟨w.heap.size, 0, none⟩ = false := by
  rw [size_alloc] at hb
  rw [hb.frozen (Nat.lt_succ_self _)]; exact frozen_of_row _ _ 0 _ _ (heap_alloc_new w _)
theorem below_kept {w w1 : World} {o : Obj} (hb : Below (w.alloc o).heap.size (w.alloc o) w1) : Below w.heap.size w w1 :=
  (Below.alloc (Below.refl _ _) (Nat.le_refl _) _).trans (hb.mono (by rw [size_alloc]; exact Nat.le_succ _))
theorem Str_ok (s : ByteArray) (off : Int) (v : ByteArray) (w : World)
    (hC : ∀ w : World, Calls Tryd.prog 65 #[.string s, .int .i64 off] w fun r w' => r = .returned (.string v) ∧ Below w.heap.size w w') :
    Calls Tryd.prog 62 #[.string s, .int .i64 off] w fun r w' => r = .returned (.tuple #[.string v, .int .i64 0]) ∧ Below w.heap.size w w' := by
  have hmf : ∀ (fn : Fn) (first cap : Array Value) (w : World), (Instr.makeFunc fn first cap).run Tryd.prog w = .ok (.func fn first cap) w := fun _ _ _ _ => rfl
  have HP := Hid.mk' hC
  clear hC
  go_enter_defers Tryd.func62, Tryd.ntmps62
  go_wp2_with (first | (go_at_call 65; refine (HP.out _).mono ?_; rintro r w1 ⟨rfl, hb⟩; have hc : w1.cell? ⟨w.heap.size, 0, none⟩ = some (.int .i64 0) := cell_kept hb; have hz : w1.frozen? ⟨w.heap.size, 0, none⟩ = false := frozen_kept hb))
  have hc2 : (w1.setCell ⟨w.heap.size, 0, none⟩ (.int .i64 0)).cell? ⟨w.heap.size, 0, none⟩ = some (.int .i64 0) := World.cell?_setCell_same _ _ _ hc
  have hz2 : (w1.setCell ⟨w.heap.size, 0, none⟩ (.int .i64 0)).frozen? ⟨w.heap.size, 0, none⟩ = false := (World.frozen?_setCell _ _ _ _).trans hz
  have hs : ((w1.setCell ⟨w.heap.size, 0, none⟩ (.int .i64 0)).setCell ⟨w.heap.size, 0, none⟩ (.int .i64 0)).cell? ⟨w.heap.size, 0, none⟩ = some (.int .i64 0) := World.cell?_setCell_same _ _ _ hc2
  have hB : Below w.heap.size w ((w1.setCell ⟨w.heap.size, 0, none⟩ (.int .i64 0)).setCell ⟨w.heap.size, 0, none⟩ (.int .i64 0)) := Below.setCell (Below.setCell (below_kept hb) (Nat.le_refl _) _) (Nat.le_refl _) _
  refine leaves_cons (f := 64) (args := #[.pointer (some ⟨w.heap.size, 0, none⟩)]) (by simp) (by simp [go_sem]) ?_
  refine (idle_Str ⟨w.heap.size, 0, none⟩ _ _ hc2 hz2).mono ?_
  rintro r u' w'' ⟨rfl, rfl, rfl⟩
  generalize ((w1.setCell ⟨w.heap.size, 0, none⟩ (.int .i64 0)).setCell ⟨w.heap.size, 0, none⟩ (.int .i64 0)) = wz at hs hB
  simp [Leaves, settle, results, Tryd.results62, go_sem, hs]
  exact hB
theorem Str_no (s : ByteArray) (off : Int) (e : Int) (w : World)
    (hC : ∀ w : World, Calls Tryd.prog 65 #[.string s, .int .i64 off] w fun r w' => r = .panicked (gives e) ∧ Below w.heap.size w w') :
    Calls Tryd.prog 62 #[.string s, .int .i64 off] w fun r w' => r = .returned (.tuple #[.string .empty, .int .i64 e]) ∧ Below w.heap.size w w' := by
  have hmf : ∀ (fn : Fn) (first cap : Array Value) (w : World), (Instr.makeFunc fn first cap).run Tryd.prog w = .ok (.func fn first cap) w := fun _ _ _ _ => rfl
  have HP := Hid.mk' hC
  clear hC
  go_enter_defers Tryd.func62, Tryd.ntmps62
  go_wp2_with (first | (go_at_call 65; refine (HP.out _).mono ?_; rintro r w1 ⟨rfl, hb⟩; have hc : w1.cell? ⟨w.heap.size, 0, none⟩ = some (.int .i64 0) := cell_kept hb; have hz : w1.frozen? ⟨w.heap.size, 0, none⟩ = false := frozen_kept hb))
  have hs : (w1.setCell ⟨w.heap.size, 0, none⟩ (.int .i64 e)).cell? ⟨w.heap.size, 0, none⟩ = some (.int .i64 e) := World.cell?_setCell_same _ _ _ hc
  have hB : Below w.heap.size w (w1.setCell ⟨w.heap.size, 0, none⟩ (.int .i64 e)) := Below.setCell (below_kept hb) (Nat.le_refl _) _
  refine leaves_cons (f := 64) (args := #[.pointer (some ⟨w.heap.size, 0, none⟩)]) (by simp) (by simp [go_sem]) ?_
  refine (catch_Str ⟨w.heap.size, 0, none⟩ _ _ _ hc hz).mono ?_
  rintro r u' w'' ⟨rfl, rfl, rfl⟩
  generalize (w1.setCell ⟨w.heap.size, 0, none⟩ (.int .i64 e)) = wz at hs hB
  simp [Leaves, settle, results, Tryd.results62, go_sem, hs]
  exact ⟨rfl, hB⟩
end Go.Proofs.YtkmehjikllilaaaDoor
