
-- elf.Sections: contracts.
import Derived.Test.YtoikagccopglkaaDoorG2
import Derived.Test.YtoikagccopglkaaDoorA5
namespace Go.Proofs.YtoikagccopglkaaDoor
open Go.ChangeShapes Go.WideShapes Go.ChangeAt Go.RowKit
set_option linter.unusedVariables false
set_option maxRecDepth 100000
theorem kept_cell {w w1 : World} {v : Value} {t : TypeId} (hb : Below (w.alloc (.cells #[v] t)).heap.size (w.alloc (.cells #[v] t)) w1) : w1.cell? ⟨w.heap.size, 0, none⟩ = some v := by
  rw [size_alloc] at hb
  rw [hb.cell (Nat.lt_succ_self _)]; exact cell_of_row _ _ 0 _ _ _ (heap_alloc_new w _)
theorem kept_frozen {w w1 : World} {v : Value} {t : TypeId} (hb : Below (w.alloc (.cells #[v] t)).heap.size (w.alloc (.cells #[v] t)) w1) : w1.frozen? ⟨w.heap.size, 0, none⟩ = false := by
  rw [size_alloc] at hb
  rw [hb.frozen (Nat.lt_succ_self _)]; exact frozen_of_row _ _ 0 _ _ (heap_alloc_new w _)
theorem kept_below {w w1 : World} {o : Obj} (hb : Below (w.alloc o).heap.size (w.alloc o) w1) : Below w.heap.size w w1 :=
  (Below.alloc (Below.refl _ _) (Nat.le_refl _) _).trans (hb.mono (by rw [size_alloc]; exact Nat.le_succ _))
theorem Sections_no (b : ByteArray) (e : Int) (w : World) (hM : Magic w) (hT : ∀ w : World, Magic w → Calls Tryd.prog 12 #[.string b] w fun r w' => r = .panicked (gives e) ∧ Below w.heap.size w w') :
    Calls Tryd.prog 4 #[.string b] w fun r w' => r = .returned (.tuple #[.slice none 0 0, .int .i64 e]) ∧ Below w.heap.size w w' := by
  have hmf : ∀ (fn : Fn) (first cap : Array Value) (w : World), (Instr.makeFunc fn first cap).run Tryd.prog w = .ok (.func fn first cap) w := fun _ _ _ _ => rfl
  have HT := Hid.mk' hT
  have hM1 : Magic (w.alloc (.cells #[.int .i64 0] 23)) := hM.kept (Below.alloc (Below.refl _ _) (Nat.le_refl _) _)
  clear hT
  go_enter_defers Tryd.func4, Tryd.ntmps4
  go_wp2_with (first | (go_at_call 12; refine (HT.out _ hM1).mono ?_; rintro r w1 ⟨rfl, hb⟩; have hc : w1.cell? ⟨w.heap.size, 0, none⟩ = some (.int .i64 0) := kept_cell hb; have hz : w1.frozen? ⟨w.heap.size, 0, none⟩ = false := kept_frozen hb))
  have hs : (w1.setCell ⟨w.heap.size, 0, none⟩ (.int .i64 e)).cell? ⟨w.heap.size, 0, none⟩ = some (.int .i64 e) := World.cell?_setCell_same _ _ _ hc
  have hB : Below w.heap.size w (w1.setCell ⟨w.heap.size, 0, none⟩ (.int .i64 e)) := Below.setCell (kept_below hb) (Nat.le_refl _) _
  refine leaves_cons (f := 10) (args := #[.pointer (some ⟨w.heap.size, 0, none⟩)]) (by simp) (by simp [go_sem]) ?_
  refine (catch_Sections ⟨w.heap.size, 0, none⟩ _ _ _ hc hz).mono ?_
  rintro r u' w'' ⟨rfl, rfl, rfl⟩
  generalize (w1.setCell ⟨w.heap.size, 0, none⟩ (.int .i64 e)) = wz at hs hB
  simp [Leaves, settle, results, Tryd.results4, go_sem, hs]
  exact hB
set_option maxHeartbeats 1000000 in
theorem Sections_ok (b ent : ByteArray) (n : Nat) (nm : Int) (fc : Array Value) (sv : Nat → Array Value) (w : World) (hM : Magic w)
    (hT : ∀ w : World, Magic w → Calls Tryd.prog 12 #[.string b] w fun r w' => ∃ k, r = .returned (.agg #[.pointer (some ⟨k, 0, none⟩), .string ent, .int .i64 n, .int .i64 nm]) ∧ w'.heap[k]? = some (.cells fc 62 (0, 0)) ∧ Below w.heap.size w w')
    (hS : ∀ (w : World) (k : Nat), w.heap[k]? = some (.cells fc 62 (0, 0)) → Calls Tryd.prog 13 #[.agg #[.pointer (some ⟨k, 0, none⟩), .string ent, .int .i64 n, .int .i64 nm]] w fun r w' => ∃ g, r = .returned (.slice (some ⟨g, 0, none⟩) n n) ∧ w.heap.size ≤ g ∧ w'.heap[g]? = some (.cells (flat sv n).toArray 48 (0, 0)) ∧ Below w.heap.size w w') :
    Calls Tryd.prog 4 #[.string b] w fun r w' => ∃ g, r = .returned (.tuple #[.slice (some ⟨g, 0, none⟩) n n, .int .i64 0]) ∧ w.heap.size ≤ g ∧ w'.heap[g]? = some (.cells (flat sv n).toArray 48 (0, 0)) ∧ Below w.heap.size w w' := by
  have hmf : ∀ (fn : Fn) (first cap : Array Value) (w : World), (Instr.makeFunc fn first cap).run Tryd.prog w = .ok (.func fn first cap) w := fun _ _ _ _ => rfl
  have HT := Hid.mk' hT
  have HS := Hid.mk' hS
  have hM1 : Magic (w.alloc (.cells #[.int .i64 0] 23)) := hM.kept (Below.alloc (Below.refl _ _) (Nat.le_refl _) _)
  clear hT hS
  go_enter_defers Tryd.func4, Tryd.ntmps4
  go_wp2_with (first
    | (go_at_call 12; refine (HT.out _ hM1).mono ?_; rintro r w1 ⟨k, rfl, hF, hb1⟩)
    | (go_at_call 13; refine (HS.out _ _ hF).mono ?_; rintro r w2 ⟨g, rfl, hg, hrow, hb2⟩; have hb := hb1.trans (hb2.mono hb1.size); have hc : w2.cell? ⟨w.heap.size, 0, none⟩ = some (.int .i64 0) := kept_cell hb; have hz : w2.frozen? ⟨w.heap.size, 0, none⟩ = false := kept_frozen hb))
  have hs1 := hb1.size
  rw [size_alloc] at hs1
  have hc2 : (w2.setCell ⟨w.heap.size, 0, none⟩ (.int .i64 0)).cell? ⟨w.heap.size, 0, none⟩ = some (.int .i64 0) := World.cell?_setCell_same _ _ _ hc
  have hz2 : (w2.setCell ⟨w.heap.size, 0, none⟩ (.int .i64 0)).frozen? ⟨w.heap.size, 0, none⟩ = false := (World.frozen?_setCell _ _ _ _).trans hz
  have hs : ((w2.setCell ⟨w.heap.size, 0, none⟩ (.int .i64 0)).setCell ⟨w.heap.size, 0, none⟩ (.int .i64 0)).cell? ⟨w.heap.size, 0, none⟩ = some (.int .i64 0) := World.cell?_setCell_same _ _ _ hc2
  have hB : Below w.heap.size w ((w2.setCell ⟨w.heap.size, 0, none⟩ (.int .i64 0)).setCell ⟨w.heap.size, 0, none⟩ (.int .i64 0)) := Below.setCell (Below.setCell (kept_below hb) (Nat.le_refl _) _) (Nat.le_refl _) _
  have hr : ((w2.setCell ⟨w.heap.size, 0, none⟩ (.int .i64 0)).setCell ⟨w.heap.size, 0, none⟩ (.int .i64 0)).heap[g]? = some (.cells (flat sv n).toArray 48 (0, 0)) := (heap_setCell_other _ _ _ _ (by simp; omega)).trans ((heap_setCell_other _ _ _ _ (by simp; omega)).trans hrow)
  refine leaves_cons (f := 10) (args := #[.pointer (some ⟨w.heap.size, 0, none⟩)]) (by simp) (by simp [go_sem]) ?_
  refine (idle_Sections ⟨w.heap.size, 0, none⟩ _ _ hc2 hz2).mono ?_
  rintro r u' w'' ⟨rfl, rfl, rfl⟩
  generalize ((w2.setCell ⟨w.heap.size, 0, none⟩ (.int .i64 0)).setCell ⟨w.heap.size, 0, none⟩ (.int .i64 0)) = wz at hs hB hr
  have hgw : w.heap.size ≤ g := by omega
  simp [Leaves, settle, results, Tryd.results4, go_sem, hs]
  exact ⟨hgw, hr, hB⟩
end Go.Proofs.YtoikagccopglkaaDoor
