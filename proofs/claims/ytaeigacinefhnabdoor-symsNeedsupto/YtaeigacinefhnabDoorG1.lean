
-- elf.Ident: contracts.
import Derived.Test.YtaeigacinefhnabDoorC5
namespace Go.Proofs.YtaeigacinefhnabDoor
open Go.ChangeShapes Go.WideShapes Go.ChangeAt Go.RowKit
set_option linter.unusedVariables false
set_option maxRecDepth 100000
set_option maxHeartbeats 1000000 in
theorem ident_no (b : ByteArray) (w : World) (hM : Magic w) (hm : b.size ≤ maxLen) (hE : identE b ≠ 0) :
    Calls Tryd.prog 33 #[.string b] w fun r w' => r = .returned (.tuple #[.int .i64 0, .int .i64 0, .int .i64 (identE b)]) ∧ Below w.heap.size w w' := by
  have hmf : ∀ (fn : Fn) (first cap : Array Value) (w : World), (Instr.makeFunc fn first cap).run Tryd.prog w = .ok (.func fn first cap) w := fun _ _ _ _ => rfl
  have h0 := block_lt_of_cell hM.1
  have hM1 : Magic (w.alloc (.cells #[.int .i64 0] 30)) := by
    obtain ⟨m0, m1, m2, m3⟩ := hM
    refine ⟨?_, ?_, ?_, ?_⟩ <;> rw [World.cell?_alloc_past _ _ _ h0] <;> assumption
  have HI : Hid (Calls Tryd.prog 54 #[.string b] (w.alloc (.cells #[.int .i64 0] 30)) fun r w' => r = .panicked (gives (identE b)) ∧ Below (w.heap.size + 1) (w.alloc (.cells #[.int .i64 0] 30)) w') :=
    (identify_c b _ hM1 hm).mono fun r w' ⟨h1, h2⟩ => by
      rw [size_alloc] at h1
      rcases h2 with ⟨h, _⟩ | ⟨_, h⟩
      · exact absurd h hE
      · exact ⟨h, h1⟩
  clear hm hM
  go_enter_defers Tryd.func33, Tryd.ntmps33
  go_wp2_with (first | (go_at_call 54; refine HI.out.mono ?_; rintro r w1 ⟨rfl, hb⟩))
  have hc : w1.cell? ⟨w.heap.size, 0, none⟩ = some (.int .i64 0) := by
    rw [hb.cell (Nat.lt_succ_self _)]; exact cell_of_row _ _ 0 _ _ _ (heap_alloc_new w _)
  have hz : w1.frozen? ⟨w.heap.size, 0, none⟩ = false := by
    rw [hb.frozen (Nat.lt_succ_self _)]; exact frozen_of_row _ _ 0 _ _ (heap_alloc_new w _)
  have hs : (w1.setCell ⟨w.heap.size, 0, none⟩ (.int .i64 (identE b))).cell? ⟨w.heap.size, 0, none⟩ = some (.int .i64 (identE b)) := World.cell?_setCell_same _ _ _ hc
  refine leaves_cons (f := 52) (args := #[.pointer (some ⟨w.heap.size, 0, none⟩)]) (by simp) (by simp [go_sem]) ?_
  refine (catch_Ident ⟨w.heap.size, 0, none⟩ _ _ _ hc hz).mono ?_
  rintro r u' w'' ⟨rfl, rfl, rfl⟩
  simp [Leaves, settle, results, Tryd.results33, go_sem, hs]
  exact Below.setCell ((Below.alloc (Below.refl _ _) (Nat.le_refl _) _).trans (hb.mono (Nat.le_succ _))) (Nat.le_refl _) _
set_option maxHeartbeats 1000000 in
theorem ident_ok (b : ByteArray) (w : World) (hM : Magic w) (hm : b.size ≤ maxLen) (hE : identE b = 0) :
    Calls Tryd.prog 33 #[.string b] w fun r w' => r = .returned (.tuple #[.int .i64 (cls b), .int .i64 (ord b), .int .i64 0]) ∧ Below w.heap.size w w' := by
  have hmf : ∀ (fn : Fn) (first cap : Array Value) (w : World), (Instr.makeFunc fn first cap).run Tryd.prog w = .ok (.func fn first cap) w := fun _ _ _ _ => rfl
  have h0 := block_lt_of_cell hM.1
  have hM1 : Magic (w.alloc (.cells #[.int .i64 0] 30)) := by
    obtain ⟨m0, m1, m2, m3⟩ := hM
    refine ⟨?_, ?_, ?_, ?_⟩ <;> rw [World.cell?_alloc_past _ _ _ h0] <;> assumption
  have HI : Hid (Calls Tryd.prog 54 #[.string b] (w.alloc (.cells #[.int .i64 0] 30)) fun r w' => ∃ k, r = .returned (.pointer (some ⟨k, 0, none⟩)) ∧ Below (w.heap.size + 1) (w.alloc (.cells #[.int .i64 0] 30)) w' ∧ w'.cell? ⟨k, 0, none⟩ = some (.int .i64 (cls b)) ∧ w'.cell? ⟨k, 32, none⟩ = some (.int .i64 (ord b))) :=
    (identify_c b _ hM1 hm).mono fun r w' ⟨h1, h2⟩ => by
      rw [size_alloc] at h1
      rcases h2 with ⟨_, k, h3, h4, h5⟩ | ⟨h, _⟩
      · refine ⟨k, h3, h1, ?_, ?_⟩
        · rw [cell_of_row _ _ _ _ _ _ h5]
          rcases cls_ok b hE with h | h <;> rw [h] <;> rfl
        · rw [cell_of_row _ _ _ _ _ _ h5]
          rcases cls_ok b hE with h | h <;> rw [h] <;> rfl
      · exact absurd hE h
  clear hm hM
  go_enter_defers Tryd.func33, Tryd.ntmps33
  go_wp2_with (first | (go_at_call 54; refine HI.out.mono ?_; rintro r w1 ⟨k, rfl, hb, c0, c32⟩))
  have hc : w1.cell? ⟨w.heap.size, 0, none⟩ = some (.int .i64 0) := by
    rw [hb.cell (Nat.lt_succ_self _)]; exact cell_of_row _ _ 0 _ _ _ (heap_alloc_new w _)
  have hz : w1.frozen? ⟨w.heap.size, 0, none⟩ = false := by
    rw [hb.frozen (Nat.lt_succ_self _)]; exact frozen_of_row _ _ 0 _ _ (heap_alloc_new w _)
  go_region
  all_goals
    go_wp2
    have hc2 : ((w1.setCell ⟨w.heap.size, 0, none⟩ (.int .i64 0)).drew).cell? ⟨w.heap.size, 0, none⟩ = some (.int .i64 0) := World.cell?_setCell_same _ _ _ hc
    have hz2 : ((w1.setCell ⟨w.heap.size, 0, none⟩ (.int .i64 0)).drew).frozen? ⟨w.heap.size, 0, none⟩ = false := (World.frozen?_setCell _ _ _ _).trans hz
    have hs : (((w1.setCell ⟨w.heap.size, 0, none⟩ (.int .i64 0)).drew).setCell ⟨w.heap.size, 0, none⟩ (.int .i64 0)).cell? ⟨w.heap.size, 0, none⟩ = some (.int .i64 0) := World.cell?_setCell_same _ _ _ hc2
    refine leaves_cons (f := 52) (args := #[.pointer (some ⟨w.heap.size, 0, none⟩)]) (by simp) (by simp [go_sem]) ?_
    refine (idle_Ident ⟨w.heap.size, 0, none⟩ _ _ hc2 hz2).mono ?_
    rintro r u' w'' ⟨rfl, rfl, rfl⟩
    have hB : Below w.heap.size w (((w1.setCell ⟨w.heap.size, 0, none⟩ (.int .i64 0)).drew).setCell ⟨w.heap.size, 0, none⟩ (.int .i64 0)) := Below.setCell (Below.drew (Below.setCell ((Below.alloc (Below.refl _ _) (Nat.le_refl _) _).trans (hb.mono (Nat.le_succ _))) (Nat.le_refl _) _)) (Nat.le_refl _) _
    generalize (((w1.setCell ⟨w.heap.size, 0, none⟩ (.int .i64 0)).drew).setCell ⟨w.heap.size, 0, none⟩ (.int .i64 0)) = wz at hs hB
    simp [Leaves, settle, results, Tryd.results33, go_sem, hs]
    exact hB
/-- 5.1, whichever way -/
theorem Ident_c (b : ByteArray) (w : World) (hM : Magic w) (hm : b.size ≤ maxLen) :
    Calls Tryd.prog 33 #[.string b] w fun r w' => r = .returned (.tuple #[.int .i64 (if identE b = 0 then cls b else 0 : Nat), .int .i64 (if identE b = 0 then ord b else 0), .int .i64 (identE b)]) ∧ Below w.heap.size w w' := by
  by_cases h : identE b = 0
  · refine (ident_ok b w hM hm h).mono fun r w' ⟨h1, h2⟩ => ⟨?_, h2⟩
    rw [if_pos h, if_pos h, h]; exact h1
  · refine (ident_no b w hM hm h).mono fun r w' ⟨h1, h2⟩ => ⟨?_, h2⟩
    rw [if_neg h, if_neg h]; exact h1
end Go.Proofs.YtaeigacinefhnabDoor
