
-- shelflaw8.sound, read: contracts; what a written field says.
import Derived.Test.YtmppfpkcnhcfbabDoorK3
import Derived.Test.YtmppfpkcnhcfbabDoorD4
import Derived.Test.YtmppfpkcnhcfbabDoorD5b
import Derived.Test.YtmppfpkcnhcfbabDoorD6
import Derived.BigQuiet
import Derived.Deep.QuietTactic
namespace Go.Proofs.YtmppfpkcnhcfbabDoor
open Go.ChangeShapes Go.WideShapes Go.ChangeAt Go.RowKit
set_option linter.unusedVariables false
set_option maxRecDepth 100000

theorem numc (n : Int) (w : World) : Calls Tryd.prog 10 #[.int .i64 n] w fun e w' => e = .returned (.int .i64 n) ∧ w' = w := by
  go_enter Tryd.func10, Tryd.ntmps10
  go_wp2
  go_ret
  exact ⟨rfl, rfl⟩
/-- a field as it should be: its length, its last byte, what it says -/
structure Fine (F : ByteArray) (so v : Int) (nm : ByteArray) : Prop where
  pos : 1 ≤ F.size
  small : F.size ≤ 16
  last : ∀ h : F.size - 1 < F.size, ¬ F[F.size - 1].toNat = 32
  says : readL F.data.toList = (⟨so, v, nm⟩, 0)
set_option maxHeartbeats 2000000 in
theorem sound_c (k : Int) (F : ByteArray) (so v : Int) (nm : ByteArray) (w : World) (h : Fine F so v nm) (hk : (k = 2 ∧ kindI so = 2) ∨ (k = 0 ∧ kindI so = 0) ∨ (k = 1 ∧ kindI so = 0)) :
    Calls Tryd.prog 23 #[.int .i64 k, .string F] w fun e w' => e = .returned (.bool true) ∧ Below w.heap.size w w' := by
  have hR := fun w => pread_c F w (by unfold maxLen; have := h.small; omega)
  rw [h.says] at hR
  have HR : Hid (∀ w, Calls Tryd.prog 34 #[.string F] w fun e w' => e = .returned (.tuple #[.agg #[.int .i64 so, .int .i64 v, .string nm], .int .i64 0]) ∧ Below w.heap.size w w') := hR
  have HK : Hid (∀ w, Calls Tryd.prog 37 #[.int .i64 so] w fun e w' => e = .returned (.int .i64 (kindI so)) ∧ w' = w) := fun w => pkind_c so w
  have HN : Hid (∀ n w, Calls Tryd.prog 10 #[.int .i64 n] w fun e w' => e = .returned (.int .i64 n) ∧ w' = w) := fun n w => numc n w
  have hp := h.pos
  have hs := h.small
  have hx := idx F (F.size - 1) (by omega)
  rw [show ((F.size - 1 : Nat) : Int) = (F.size : Int) - 1 from by omega] at hx
  have h32 := h.last (by omega)
  generalize F[F.size - 1].toNat = c at *
  have h32b : ((c : Int) == 32) = false := beq_eq_false_iff_ne.2 (by omega)
  have h32i : ¬ (c : Int) = 32 := by omega
  have s0 : ((F.size : Int) == 0) = false := beq_eq_false_iff_ne.2 (by omega)
  have s1 : ¬ (F.size : Int) = 0 := by omega
  have s2 : ¬ (16 : Int) < (F.size : Int) := by omega
  generalize kindI so = ks at *
  clear hR h h32
  rcases hk with ⟨rfl, rfl⟩ | ⟨rfl, rfl⟩ | ⟨rfl, rfl⟩
  all_goals
    go_enter Tryd.func23, Tryd.ntmps23
    go_wp2_with (first | (go_at_call 34; refine (HR.out _).mono ?_; rintro e w1 ⟨rfl, hb1⟩) | (go_at_call 37; refine (HK.out _).mono ?_; rintro e wa ⟨rfl, hwa⟩; subst wa) | (go_at_call 10; refine (HN.out _ _).mono ?_; rintro e wa ⟨rfl, hwa⟩; subst wa))
    go_ret
    exact ⟨rfl, bup hb1 _⟩
set_option maxHeartbeats 2000000 in
theorem read_name (F data table nm : ByteArray) (so : Int) (w : World) (h : Fine F so 0 nm) (hso : so = 4 ∨ so = 6) :
    Calls Tryd.prog 24 #[.string F, .string ⟨#[]⟩, .string data, .string table] w fun e w' => e = .returned (.tuple #[.string nm, .string data, .bool true]) ∧ Below w.heap.size w w' := by
  have hR := fun w => pread_c F w (by unfold maxLen; have := h.small; omega)
  rw [h.says] at hR
  have HR : Hid (∀ w, Calls Tryd.prog 34 #[.string F] w fun e w' => e = .returned (.tuple #[.agg #[.int .i64 so, .int .i64 0, .string nm], .int .i64 0]) ∧ Below w.heap.size w w') := hR
  have HN : Hid (∀ n w, Calls Tryd.prog 10 #[.int .i64 n] w fun e w' => e = .returned (.int .i64 n) ∧ w' = w) := fun n w => numc n w
  clear hR h
  rcases hso with rfl | rfl
  all_goals
    go_enter Tryd.func24, Tryd.ntmps24
    go_wp2_with (first | (go_at_call 34; refine (HR.out _).mono ?_; rintro e w1 ⟨rfl, hb1⟩) | (go_at_call 10; refine (HN.out _ _).mono ?_; rintro e wa ⟨rfl, hwa⟩; subst wa))
    go_quiet (fail)
    go_wp2
    go_ret3
    exact ⟨rfl, below_drewN (bup hb1 _) _⟩
set_option maxHeartbeats 2000000 in
theorem read_ref (F data table nm : ByteArray) (v : Int) (w : World) (h : Fine F 5 v ⟨#[]⟩) (hm : MaxLenAt w) (ht : table.size < 4294967281) (hl : lookL table.data.toList v = (nm, 0)) :
    Calls Tryd.prog 24 #[.string F, .string ⟨#[]⟩, .string data, .string table] w fun e w' => e = .returned (.tuple #[.string nm, .string data, .bool true]) ∧ Below w.heap.size w w' := by
  have hR := fun w => pread_c F w (by unfold maxLen; have := h.small; omega)
  rw [h.says] at hR
  have HR : Hid (∀ w, Calls Tryd.prog 34 #[.string F] w fun e w' => e = .returned (.tuple #[.agg #[.int .i64 5, .int .i64 v, .string ⟨#[]⟩], .int .i64 0]) ∧ Below w.heap.size w w') := hR
  have HN : Hid (∀ n w, Calls Tryd.prog 10 #[.int .i64 n] w fun e w' => e = .returned (.int .i64 n) ∧ w' = w) := fun n w => numc n w
  have HL : Hid (∀ w', Below w.heap.size w w' → Calls Tryd.prog 38 #[.string table, .int .i64 v] w' fun e w'' => e = .returned (.tuple #[.string nm, .int .i64 0]) ∧ Below w'.heap.size w' w'') := fun w' hb => by
    have := plook_c table v w' ht (hm.on hb)
    rw [hl] at this; exact this
  clear hR h hl hm ht
  go_enter Tryd.func24, Tryd.ntmps24
  go_wp2_with (first | (go_at_call 34; refine (HR.out _).mono ?_; rintro e w1 ⟨rfl, hb1⟩) | (go_at_call 38; refine (HL.out _ (bup hb1 _)).mono ?_; rintro e w2 ⟨rfl, hb2⟩; have hx : w2.cell? ⟨w1.heap.size, 2, none⟩ = some (.string ⟨#[]⟩) := (hb2.cell (p := ⟨w1.heap.size, 2, none⟩) (by simp)).trans (by rw [Lib.cell_of_heap (heap_alloc_new _ _)]; rfl)) | (go_at_call 10; refine (HN.out _ _).mono ?_; rintro e wa ⟨rfl, hwa⟩; subst wa))
  go_quiet (first | (go_at_call 10; exact Calls.quiet_of_same (HN.out _ _)))
  go_wp2
  go_ret3
  exact ⟨rfl, below_drewN ((bup hb1 _).trans (hb2.mono (bup hb1 _).size)) _⟩
set_option maxHeartbeats 2000000 in
theorem read_long7 (F ahead data table nm : ByteArray) (v : Int) (w : World) (h : Fine F 7 v ⟨#[]⟩) (ht : ahead.size + data.size ≤ 4194304) (hl : inlineL (ahead ++ data).data.toList v = (nm, data, 0)) :
    Calls Tryd.prog 24 #[.string F, .string ahead, .string data, .string table] w fun e w' => e = .returned (.tuple #[.string nm, .string data, .bool true]) ∧ Below w.heap.size w w' := by
  have hR := fun w => pread_c F w (by unfold maxLen; have := h.small; omega)
  rw [h.says] at hR
  have HR : Hid (∀ w, Calls Tryd.prog 34 #[.string F] w fun e w' => e = .returned (.tuple #[.agg #[.int .i64 7, .int .i64 v, .string ⟨#[]⟩], .int .i64 0]) ∧ Below w.heap.size w w') := hR
  have HN : Hid (∀ n w, Calls Tryd.prog 10 #[.int .i64 n] w fun e w' => e = .returned (.int .i64 n) ∧ w' = w) := fun n w => numc n w
  have HL : Hid (∀ w', Calls Tryd.prog 39 #[.string (ahead ++ data), .int .i64 v] w' fun e w'' => e = .returned (.tuple #[.string nm, .string data, .int .i64 0]) ∧ Below w'.heap.size w' w'') := fun w' => by
    have := pinline_c (ahead ++ data) v w' (by rw [ByteArray.size_append]; unfold maxLen; omega)
    rw [hl] at this; exact this
  have hcz : (ahead.size : Int) + (data.size : Int) ≤ 4194304 := by omega
  clear hR h hl
  go_enter Tryd.func24, Tryd.ntmps24
  go_wp2_with (first | (go_at_call 34; refine (HR.out _).mono ?_; rintro e w1 ⟨rfl, hb1⟩) | (go_at_call 39; refine (HL.out _).mono ?_; rintro e w2 ⟨rfl, hb2⟩; have hx : w2.cell? ⟨w1.heap.size, 2, none⟩ = some (.string ⟨#[]⟩) := (hb2.cell (p := ⟨w1.heap.size, 2, none⟩) (by simp)).trans (by rw [Lib.cell_of_heap (heap_alloc_new _ _)]; rfl)) | (go_at_call 10; refine (HN.out _ _).mono ?_; rintro e wa ⟨rfl, hwa⟩; subst wa))
  go_quiet (first | (go_at_call 10; exact Calls.quiet_of_same (HN.out _ _)))
  go_wp2
  go_ret3
  exact ⟨rfl, below_drewN ((bup hb1 _).trans (hb2.mono (bup hb1 _).size)) _⟩
end Go.Proofs.YtmppfpkcnhcfbabDoor
