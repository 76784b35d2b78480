
-- The document's Ident: contract.
import Derived.Test.YtoikagccopglkaaDoorE0
import Derived.Test.YtoikagccopglkaaDoorN2
import Derived.Test.YtoikagccopglkaaDoorW1
namespace Go.Proofs.YtoikagccopglkaaDoor
open Go.ChangeShapes Go.WideShapes Go.ChangeAt Go.RowKit
set_option linter.unusedVariables false
set_option maxRecDepth 100000
theorem idx_byt' (b : ByteArray) (k : Nat) (h : k < b.size) (w : World) : (Instr.index 9 (.string b) (.int .i64 (k : Int))).run Tryd.prog w = .ok (.int .u8 (byt b k)) w := by
  have e := idx b k h w
  rw [byt_at] at e
  exact e
theorem rIdent_short (b : ByteArray) (w : World) (h : b.size < 16) :
    Calls Tryd.prog 24 #[.string b] w fun r w' => r = .returned (.tuple #[.int .i64 0, .int .i64 0, .int .i64 50]) ∧ w' = w := by
  have h1 : (b.size : Int) < 16 := by omega
  go_enter Tryd.func24, Tryd.ntmps24
  go_wp2
  go_ret3
  exact ⟨rfl, rfl⟩
/-- a triple of three answers -/
theorem tup3 {a b c x y z : Int} (h1 : a = x) (h2 : b = y) (h3 : c = z) : Ending.returned (.tuple #[.int .i64 a, .int .i64 b, .int .i64 c]) = .returned (.tuple #[.int .i64 x, .int .i64 y, .int .i64 z]) := by rw [h1, h2, h3]
/-- what Ident answers -/
def idC (b : ByteArray) : Int := if identE b = 0 then cls b else 0
def idO (b : ByteArray) : Int := if identE b = 0 then ord b else 0
theorem rIdent_50_0 (b : ByteArray) (w : World) (h : 16 ≤ b.size) (hn : byt b 0 ≠ 127) :
    Calls Tryd.prog 24 #[.string b] w fun r w' => r = .returned (.tuple #[.int .i64 0, .int .i64 0, .int .i64 50]) ∧ w' = w := by
  have hz : ¬ (b.size : Int) < 16 := by omega
  have i0 : ∀ w : World, (Instr.index 9 (.string b) (.int .i64 0)).run Tryd.prog w = .ok (.int .u8 (byt b 0)) w := fun w => idx_byt' b 0 (by omega) w
  have i1 : ∀ w : World, (Instr.index 9 (.string b) (.int .i64 1)).run Tryd.prog w = .ok (.int .u8 (byt b 1)) w := fun w => idx_byt' b 1 (by omega) w
  have i2 : ∀ w : World, (Instr.index 9 (.string b) (.int .i64 2)).run Tryd.prog w = .ok (.int .u8 (byt b 2)) w := fun w => idx_byt' b 2 (by omega) w
  have i3 : ∀ w : World, (Instr.index 9 (.string b) (.int .i64 3)).run Tryd.prog w = .ok (.int .u8 (byt b 3)) w := fun w => idx_byt' b 3 (by omega) w
  have i4 : ∀ w : World, (Instr.index 9 (.string b) (.int .i64 4)).run Tryd.prog w = .ok (.int .u8 (byt b 4)) w := fun w => idx_byt' b 4 (by omega) w
  have i5 : ∀ w : World, (Instr.index 9 (.string b) (.int .i64 5)).run Tryd.prog w = .ok (.int .u8 (byt b 5)) w := fun w => idx_byt' b 5 (by omega) w
  have i6 : ∀ w : World, (Instr.index 9 (.string b) (.int .i64 6)).run Tryd.prog w = .ok (.int .u8 (byt b 6)) w := fun w => idx_byt' b 6 (by omega) w
  have hq : ((byt b 0 : Int) != 127) = true := bne_iff_ne.2 (by omega)
  clear hn
  go_enter Tryd.func24, Tryd.ntmps24
  go_wp2
  all_goals (go_ret3; exact ⟨rfl, rfl⟩)
theorem rIdent_50_1 (b : ByteArray) (w : World) (h : 16 ≤ b.size) (h0 : byt b 0 = 127) (hn : byt b 1 ≠ 69) :
    Calls Tryd.prog 24 #[.string b] w fun r w' => r = .returned (.tuple #[.int .i64 0, .int .i64 0, .int .i64 50]) ∧ w' = w := by
  have hz : ¬ (b.size : Int) < 16 := by omega
  have i0 : ∀ w : World, (Instr.index 9 (.string b) (.int .i64 0)).run Tryd.prog w = .ok (.int .u8 127) w := fun w => by have h := idx_byt' b 0 (by omega) w; rw [h0] at h; exact h
  have i1 : ∀ w : World, (Instr.index 9 (.string b) (.int .i64 1)).run Tryd.prog w = .ok (.int .u8 (byt b 1)) w := fun w => idx_byt' b 1 (by omega) w
  have i2 : ∀ w : World, (Instr.index 9 (.string b) (.int .i64 2)).run Tryd.prog w = .ok (.int .u8 (byt b 2)) w := fun w => idx_byt' b 2 (by omega) w
  have i3 : ∀ w : World, (Instr.index 9 (.string b) (.int .i64 3)).run Tryd.prog w = .ok (.int .u8 (byt b 3)) w := fun w => idx_byt' b 3 (by omega) w
  have i4 : ∀ w : World, (Instr.index 9 (.string b) (.int .i64 4)).run Tryd.prog w = .ok (.int .u8 (byt b 4)) w := fun w => idx_byt' b 4 (by omega) w
  have i5 : ∀ w : World, (Instr.index 9 (.string b) (.int .i64 5)).run Tryd.prog w = .ok (.int .u8 (byt b 5)) w := fun w => idx_byt' b 5 (by omega) w
  have i6 : ∀ w : World, (Instr.index 9 (.string b) (.int .i64 6)).run Tryd.prog w = .ok (.int .u8 (byt b 6)) w := fun w => idx_byt' b 6 (by omega) w
  have hq : ((byt b 1 : Int) != 69) = true := bne_iff_ne.2 (by omega)
  clear hn
  clear h0
  go_enter Tryd.func24, Tryd.ntmps24
  go_wp2
  all_goals (go_ret3; exact ⟨rfl, rfl⟩)
theorem rIdent_50_2 (b : ByteArray) (w : World) (h : 16 ≤ b.size) (h0 : byt b 0 = 127) (h1 : byt b 1 = 69) (hn : byt b 2 ≠ 76) :
    Calls Tryd.prog 24 #[.string b] w fun r w' => r = .returned (.tuple #[.int .i64 0, .int .i64 0, .int .i64 50]) ∧ w' = w := by
  have hz : ¬ (b.size : Int) < 16 := by omega
  have i0 : ∀ w : World, (Instr.index 9 (.string b) (.int .i64 0)).run Tryd.prog w = .ok (.int .u8 127) w := fun w => by have h := idx_byt' b 0 (by omega) w; rw [h0] at h; exact h
  have i1 : ∀ w : World, (Instr.index 9 (.string b) (.int .i64 1)).run Tryd.prog w = .ok (.int .u8 69) w := fun w => by have h := idx_byt' b 1 (by omega) w; rw [h1] at h; exact h
  have i2 : ∀ w : World, (Instr.index 9 (.string b) (.int .i64 2)).run Tryd.prog w = .ok (.int .u8 (byt b 2)) w := fun w => idx_byt' b 2 (by omega) w
  have i3 : ∀ w : World, (Instr.index 9 (.string b) (.int .i64 3)).run Tryd.prog w = .ok (.int .u8 (byt b 3)) w := fun w => idx_byt' b 3 (by omega) w
  have i4 : ∀ w : World, (Instr.index 9 (.string b) (.int .i64 4)).run Tryd.prog w = .ok (.int .u8 (byt b 4)) w := fun w => idx_byt' b 4 (by omega) w
  have i5 : ∀ w : World, (Instr.index 9 (.string b) (.int .i64 5)).run Tryd.prog w = .ok (.int .u8 (byt b 5)) w := fun w => idx_byt' b 5 (by omega) w
  have i6 : ∀ w : World, (Instr.index 9 (.string b) (.int .i64 6)).run Tryd.prog w = .ok (.int .u8 (byt b 6)) w := fun w => idx_byt' b 6 (by omega) w
  have hq : ((byt b 2 : Int) != 76) = true := bne_iff_ne.2 (by omega)
  clear hn
  clear h0
  clear h1
  go_enter Tryd.func24, Tryd.ntmps24
  go_wp2
  all_goals (go_ret3; exact ⟨rfl, rfl⟩)
theorem rIdent_50_3 (b : ByteArray) (w : World) (h : 16 ≤ b.size) (h0 : byt b 0 = 127) (h1 : byt b 1 = 69) (h2 : byt b 2 = 76) (hn : byt b 3 ≠ 70) :
    Calls Tryd.prog 24 #[.string b] w fun r w' => r = .returned (.tuple #[.int .i64 0, .int .i64 0, .int .i64 50]) ∧ w' = w := by
  have hz : ¬ (b.size : Int) < 16 := by omega
  have i0 : ∀ w : World, (Instr.index 9 (.string b) (.int .i64 0)).run Tryd.prog w = .ok (.int .u8 127) w := fun w => by have h := idx_byt' b 0 (by omega) w; rw [h0] at h; exact h
  have i1 : ∀ w : World, (Instr.index 9 (.string b) (.int .i64 1)).run Tryd.prog w = .ok (.int .u8 69) w := fun w => by have h := idx_byt' b 1 (by omega) w; rw [h1] at h; exact h
  have i2 : ∀ w : World, (Instr.index 9 (.string b) (.int .i64 2)).run Tryd.prog w = .ok (.int .u8 76) w := fun w => by have h := idx_byt' b 2 (by omega) w; rw [h2] at h; exact h
  have i3 : ∀ w : World, (Instr.index 9 (.string b) (.int .i64 3)).run Tryd.prog w = .ok (.int .u8 (byt b 3)) w := fun w => idx_byt' b 3 (by omega) w
  have i4 : ∀ w : World, (Instr.index 9 (.string b) (.int .i64 4)).run Tryd.prog w = .ok (.int .u8 (byt b 4)) w := fun w => idx_byt' b 4 (by omega) w
  have i5 : ∀ w : World, (Instr.index 9 (.string b) (.int .i64 5)).run Tryd.prog w = .ok (.int .u8 (byt b 5)) w := fun w => idx_byt' b 5 (by omega) w
  have i6 : ∀ w : World, (Instr.index 9 (.string b) (.int .i64 6)).run Tryd.prog w = .ok (.int .u8 (byt b 6)) w := fun w => idx_byt' b 6 (by omega) w
  have hq : ((byt b 3 : Int) != 70) = true := bne_iff_ne.2 (by omega)
  clear hn
  clear h0
  clear h1
  clear h2
  go_enter Tryd.func24, Tryd.ntmps24
  go_wp2
  all_goals (go_ret3; exact ⟨rfl, rfl⟩)
theorem rIdent_51 (b : ByteArray) (w : World) (h : 16 ≤ b.size) (h0 : byt b 0 = 127) (h1 : byt b 1 = 69) (h2 : byt b 2 = 76) (h3 : byt b 3 = 70) (hn : byt b 4 ≠ 1) (hn2 : byt b 4 ≠ 2) :
    Calls Tryd.prog 24 #[.string b] w fun r w' => r = .returned (.tuple #[.int .i64 0, .int .i64 0, .int .i64 51]) ∧ w' = w := by
  have hz : ¬ (b.size : Int) < 16 := by omega
  have i0 : ∀ w : World, (Instr.index 9 (.string b) (.int .i64 0)).run Tryd.prog w = .ok (.int .u8 127) w := fun w => by have h := idx_byt' b 0 (by omega) w; rw [h0] at h; exact h
  have i1 : ∀ w : World, (Instr.index 9 (.string b) (.int .i64 1)).run Tryd.prog w = .ok (.int .u8 69) w := fun w => by have h := idx_byt' b 1 (by omega) w; rw [h1] at h; exact h
  have i2 : ∀ w : World, (Instr.index 9 (.string b) (.int .i64 2)).run Tryd.prog w = .ok (.int .u8 76) w := fun w => by have h := idx_byt' b 2 (by omega) w; rw [h2] at h; exact h
  have i3 : ∀ w : World, (Instr.index 9 (.string b) (.int .i64 3)).run Tryd.prog w = .ok (.int .u8 70) w := fun w => by have h := idx_byt' b 3 (by omega) w; rw [h3] at h; exact h
  have i4 : ∀ w : World, (Instr.index 9 (.string b) (.int .i64 4)).run Tryd.prog w = .ok (.int .u8 (byt b 4)) w := fun w => idx_byt' b 4 (by omega) w
  have i5 : ∀ w : World, (Instr.index 9 (.string b) (.int .i64 5)).run Tryd.prog w = .ok (.int .u8 (byt b 5)) w := fun w => idx_byt' b 5 (by omega) w
  have i6 : ∀ w : World, (Instr.index 9 (.string b) (.int .i64 6)).run Tryd.prog w = .ok (.int .u8 (byt b 6)) w := fun w => idx_byt' b 6 (by omega) w
  have hq : ((byt b 4 : Int) != 1) = true := bne_iff_ne.2 (by omega)
  have hq2 : ((byt b 4 : Int) != 2) = true := bne_iff_ne.2 (by omega)
  clear hn hn2
  clear h0
  clear h1
  clear h2
  clear h3
  go_enter Tryd.func24, Tryd.ntmps24
  go_wp2
  all_goals (go_ret3; exact ⟨rfl, rfl⟩)
theorem rIdent_52_1 (b : ByteArray) (w : World) (h : 16 ≤ b.size) (h0 : byt b 0 = 127) (h1 : byt b 1 = 69) (h2 : byt b 2 = 76) (h3 : byt b 3 = 70) (h4 : byt b 4 = 1) (hn : byt b 5 ≠ 1) (hn2 : byt b 5 ≠ 2) :
    Calls Tryd.prog 24 #[.string b] w fun r w' => r = .returned (.tuple #[.int .i64 0, .int .i64 0, .int .i64 52]) ∧ w' = w := by
  have hz : ¬ (b.size : Int) < 16 := by omega
  have i0 : ∀ w : World, (Instr.index 9 (.string b) (.int .i64 0)).run Tryd.prog w = .ok (.int .u8 127) w := fun w => by have h := idx_byt' b 0 (by omega) w; rw [h0] at h; exact h
  have i1 : ∀ w : World, (Instr.index 9 (.string b) (.int .i64 1)).run Tryd.prog w = .ok (.int .u8 69) w := fun w => by have h := idx_byt' b 1 (by omega) w; rw [h1] at h; exact h
  have i2 : ∀ w : World, (Instr.index 9 (.string b) (.int .i64 2)).run Tryd.prog w = .ok (.int .u8 76) w := fun w => by have h := idx_byt' b 2 (by omega) w; rw [h2] at h; exact h
  have i3 : ∀ w : World, (Instr.index 9 (.string b) (.int .i64 3)).run Tryd.prog w = .ok (.int .u8 70) w := fun w => by have h := idx_byt' b 3 (by omega) w; rw [h3] at h; exact h
  have i4 : ∀ w : World, (Instr.index 9 (.string b) (.int .i64 4)).run Tryd.prog w = .ok (.int .u8 1) w := fun w => by have h := idx_byt' b 4 (by omega) w; rw [h4] at h; exact h
  have i5 : ∀ w : World, (Instr.index 9 (.string b) (.int .i64 5)).run Tryd.prog w = .ok (.int .u8 (byt b 5)) w := fun w => idx_byt' b 5 (by omega) w
  have i6 : ∀ w : World, (Instr.index 9 (.string b) (.int .i64 6)).run Tryd.prog w = .ok (.int .u8 (byt b 6)) w := fun w => idx_byt' b 6 (by omega) w
  have hq : ((byt b 5 : Int) != 1) = true := bne_iff_ne.2 (by omega)
  have hq2 : ((byt b 5 : Int) != 2) = true := bne_iff_ne.2 (by omega)
  clear hn hn2 h4
  clear h0
  clear h1
  clear h2
  clear h3
  go_enter Tryd.func24, Tryd.ntmps24
  go_wp2
  all_goals (go_ret3; exact ⟨rfl, rfl⟩)
theorem rIdent_53_11 (b : ByteArray) (w : World) (h : 16 ≤ b.size) (h0 : byt b 0 = 127) (h1 : byt b 1 = 69) (h2 : byt b 2 = 76) (h3 : byt b 3 = 70) (h4 : byt b 4 = 1) (h5 : byt b 5 = 1) (hn : byt b 6 ≠ 1) :
    Calls Tryd.prog 24 #[.string b] w fun r w' => r = .returned (.tuple #[.int .i64 0, .int .i64 0, .int .i64 53]) ∧ w' = w := by
  have hz : ¬ (b.size : Int) < 16 := by omega
  have i0 : ∀ w : World, (Instr.index 9 (.string b) (.int .i64 0)).run Tryd.prog w = .ok (.int .u8 127) w := fun w => by have h := idx_byt' b 0 (by omega) w; rw [h0] at h; exact h
  have i1 : ∀ w : World, (Instr.index 9 (.string b) (.int .i64 1)).run Tryd.prog w = .ok (.int .u8 69) w := fun w => by have h := idx_byt' b 1 (by omega) w; rw [h1] at h; exact h
  have i2 : ∀ w : World, (Instr.index 9 (.string b) (.int .i64 2)).run Tryd.prog w = .ok (.int .u8 76) w := fun w => by have h := idx_byt' b 2 (by omega) w; rw [h2] at h; exact h
  have i3 : ∀ w : World, (Instr.index 9 (.string b) (.int .i64 3)).run Tryd.prog w = .ok (.int .u8 70) w := fun w => by have h := idx_byt' b 3 (by omega) w; rw [h3] at h; exact h
  have i4 : ∀ w : World, (Instr.index 9 (.string b) (.int .i64 4)).run Tryd.prog w = .ok (.int .u8 1) w := fun w => by have h := idx_byt' b 4 (by omega) w; rw [h4] at h; exact h
  have i5 : ∀ w : World, (Instr.index 9 (.string b) (.int .i64 5)).run Tryd.prog w = .ok (.int .u8 1) w := fun w => by have h := idx_byt' b 5 (by omega) w; rw [h5] at h; exact h
  have i6 : ∀ w : World, (Instr.index 9 (.string b) (.int .i64 6)).run Tryd.prog w = .ok (.int .u8 (byt b 6)) w := fun w => idx_byt' b 6 (by omega) w
  have hq : ((byt b 6 : Int) != 1) = true := bne_iff_ne.2 (by omega)
  clear hn h4 h5
  clear h0
  clear h1
  clear h2
  clear h3
  go_enter Tryd.func24, Tryd.ntmps24
  go_wp2
  all_goals (go_ret3; exact ⟨rfl, rfl⟩)
theorem rIdent_0_11 (b : ByteArray) (w : World) (h : 16 ≤ b.size) (h0 : byt b 0 = 127) (h1 : byt b 1 = 69) (h2 : byt b 2 = 76) (h3 : byt b 3 = 70) (h4 : byt b 4 = 1) (h5 : byt b 5 = 1) (h6 : byt b 6 = 1) :
    Calls Tryd.prog 24 #[.string b] w fun r w' => r = .returned (.tuple #[.int .i64 32, .int .i64 0, .int .i64 0]) ∧ w' = w := by
  have hz : ¬ (b.size : Int) < 16 := by omega
  have i0 : ∀ w : World, (Instr.index 9 (.string b) (.int .i64 0)).run Tryd.prog w = .ok (.int .u8 127) w := fun w => by have h := idx_byt' b 0 (by omega) w; rw [h0] at h; exact h
  have i1 : ∀ w : World, (Instr.index 9 (.string b) (.int .i64 1)).run Tryd.prog w = .ok (.int .u8 69) w := fun w => by have h := idx_byt' b 1 (by omega) w; rw [h1] at h; exact h
  have i2 : ∀ w : World, (Instr.index 9 (.string b) (.int .i64 2)).run Tryd.prog w = .ok (.int .u8 76) w := fun w => by have h := idx_byt' b 2 (by omega) w; rw [h2] at h; exact h
  have i3 : ∀ w : World, (Instr.index 9 (.string b) (.int .i64 3)).run Tryd.prog w = .ok (.int .u8 70) w := fun w => by have h := idx_byt' b 3 (by omega) w; rw [h3] at h; exact h
  have i4 : ∀ w : World, (Instr.index 9 (.string b) (.int .i64 4)).run Tryd.prog w = .ok (.int .u8 1) w := fun w => by have h := idx_byt' b 4 (by omega) w; rw [h4] at h; exact h
  have i5 : ∀ w : World, (Instr.index 9 (.string b) (.int .i64 5)).run Tryd.prog w = .ok (.int .u8 1) w := fun w => by have h := idx_byt' b 5 (by omega) w; rw [h5] at h; exact h
  have i6 : ∀ w : World, (Instr.index 9 (.string b) (.int .i64 6)).run Tryd.prog w = .ok (.int .u8 1) w := fun w => by have h := idx_byt' b 6 (by omega) w; rw [h6] at h; exact h
  clear h4 h5 h6
  clear h0
  clear h1
  clear h2
  clear h3
  go_enter Tryd.func24, Tryd.ntmps24
  go_wp2
  all_goals (go_ret3; exact ⟨rfl, rfl⟩)
theorem rIdent_53_12 (b : ByteArray) (w : World) (h : 16 ≤ b.size) (h0 : byt b 0 = 127) (h1 : byt b 1 = 69) (h2 : byt b 2 = 76) (h3 : byt b 3 = 70) (h4 : byt b 4 = 1) (h5 : byt b 5 = 2) (hn : byt b 6 ≠ 1) :
    Calls Tryd.prog 24 #[.string b] w fun r w' => r = .returned (.tuple #[.int .i64 0, .int .i64 0, .int .i64 53]) ∧ w' = w := by
  have hz : ¬ (b.size : Int) < 16 := by omega
  have i0 : ∀ w : World, (Instr.index 9 (.string b) (.int .i64 0)).run Tryd.prog w = .ok (.int .u8 127) w := fun w => by have h := idx_byt' b 0 (by omega) w; rw [h0] at h; exact h
  have i1 : ∀ w : World, (Instr.index 9 (.string b) (.int .i64 1)).run Tryd.prog w = .ok (.int .u8 69) w := fun w => by have h := idx_byt' b 1 (by omega) w; rw [h1] at h; exact h
  have i2 : ∀ w : World, (Instr.index 9 (.string b) (.int .i64 2)).run Tryd.prog w = .ok (.int .u8 76) w := fun w => by have h := idx_byt' b 2 (by omega) w; rw [h2] at h; exact h
  have i3 : ∀ w : World, (Instr.index 9 (.string b) (.int .i64 3)).run Tryd.prog w = .ok (.int .u8 70) w := fun w => by have h := idx_byt' b 3 (by omega) w; rw [h3] at h; exact h
  have i4 : ∀ w : World, (Instr.index 9 (.string b) (.int .i64 4)).run Tryd.prog w = .ok (.int .u8 1) w := fun w => by have h := idx_byt' b 4 (by omega) w; rw [h4] at h; exact h
  have i5 : ∀ w : World, (Instr.index 9 (.string b) (.int .i64 5)).run Tryd.prog w = .ok (.int .u8 2) w := fun w => by have h := idx_byt' b 5 (by omega) w; rw [h5] at h; exact h
  have i6 : ∀ w : World, (Instr.index 9 (.string b) (.int .i64 6)).run Tryd.prog w = .ok (.int .u8 (byt b 6)) w := fun w => idx_byt' b 6 (by omega) w
  have hq : ((byt b 6 : Int) != 1) = true := bne_iff_ne.2 (by omega)
  clear hn h4 h5
  clear h0
  clear h1
  clear h2
  clear h3
  go_enter Tryd.func24, Tryd.ntmps24
  go_wp2
  all_goals (go_ret3; exact ⟨rfl, rfl⟩)
theorem rIdent_0_12 (b : ByteArray) (w : World) (h : 16 ≤ b.size) (h0 : byt b 0 = 127) (h1 : byt b 1 = 69) (h2 : byt b 2 = 76) (h3 : byt b 3 = 70) (h4 : byt b 4 = 1) (h5 : byt b 5 = 2) (h6 : byt b 6 = 1) :
    Calls Tryd.prog 24 #[.string b] w fun r w' => r = .returned (.tuple #[.int .i64 32, .int .i64 1, .int .i64 0]) ∧ w' = w := by
  have hz : ¬ (b.size : Int) < 16 := by omega
  have i0 : ∀ w : World, (Instr.index 9 (.string b) (.int .i64 0)).run Tryd.prog w = .ok (.int .u8 127) w := fun w => by have h := idx_byt' b 0 (by omega) w; rw [h0] at h; exact h
  have i1 : ∀ w : World, (Instr.index 9 (.string b) (.int .i64 1)).run Tryd.prog w = .ok (.int .u8 69) w := fun w => by have h := idx_byt' b 1 (by omega) w; rw [h1] at h; exact h
  have i2 : ∀ w : World, (Instr.index 9 (.string b) (.int .i64 2)).run Tryd.prog w = .ok (.int .u8 76) w := fun w => by have h := idx_byt' b 2 (by omega) w; rw [h2] at h; exact h
  have i3 : ∀ w : World, (Instr.index 9 (.string b) (.int .i64 3)).run Tryd.prog w = .ok (.int .u8 70) w := fun w => by have h := idx_byt' b 3 (by omega) w; rw [h3] at h; exact h
  have i4 : ∀ w : World, (Instr.index 9 (.string b) (.int .i64 4)).run Tryd.prog w = .ok (.int .u8 1) w := fun w => by have h := idx_byt' b 4 (by omega) w; rw [h4] at h; exact h
  have i5 : ∀ w : World, (Instr.index 9 (.string b) (.int .i64 5)).run Tryd.prog w = .ok (.int .u8 2) w := fun w => by have h := idx_byt' b 5 (by omega) w; rw [h5] at h; exact h
  have i6 : ∀ w : World, (Instr.index 9 (.string b) (.int .i64 6)).run Tryd.prog w = .ok (.int .u8 1) w := fun w => by have h := idx_byt' b 6 (by omega) w; rw [h6] at h; exact h
  clear h4 h5 h6
  clear h0
  clear h1
  clear h2
  clear h3
  go_enter Tryd.func24, Tryd.ntmps24
  go_wp2
  all_goals (go_ret3; exact ⟨rfl, rfl⟩)
theorem rIdent_52_2 (b : ByteArray) (w : World) (h : 16 ≤ b.size) (h0 : byt b 0 = 127) (h1 : byt b 1 = 69) (h2 : byt b 2 = 76) (h3 : byt b 3 = 70) (h4 : byt b 4 = 2) (hn : byt b 5 ≠ 1) (hn2 : byt b 5 ≠ 2) :
    Calls Tryd.prog 24 #[.string b] w fun r w' => r = .returned (.tuple #[.int .i64 0, .int .i64 0, .int .i64 52]) ∧ w' = w := by
  have hz : ¬ (b.size : Int) < 16 := by omega
  have i0 : ∀ w : World, (Instr.index 9 (.string b) (.int .i64 0)).run Tryd.prog w = .ok (.int .u8 127) w := fun w => by have h := idx_byt' b 0 (by omega) w; rw [h0] at h; exact h
  have i1 : ∀ w : World, (Instr.index 9 (.string b) (.int .i64 1)).run Tryd.prog w = .ok (.int .u8 69) w := fun w => by have h := idx_byt' b 1 (by omega) w; rw [h1] at h; exact h
  have i2 : ∀ w : World, (Instr.index 9 (.string b) (.int .i64 2)).run Tryd.prog w = .ok (.int .u8 76) w := fun w => by have h := idx_byt' b 2 (by omega) w; rw [h2] at h; exact h
  have i3 : ∀ w : World, (Instr.index 9 (.string b) (.int .i64 3)).run Tryd.prog w = .ok (.int .u8 70) w := fun w => by have h := idx_byt' b 3 (by omega) w; rw [h3] at h; exact h
  have i4 : ∀ w : World, (Instr.index 9 (.string b) (.int .i64 4)).run Tryd.prog w = .ok (.int .u8 2) w := fun w => by have h := idx_byt' b 4 (by omega) w; rw [h4] at h; exact h
  have i5 : ∀ w : World, (Instr.index 9 (.string b) (.int .i64 5)).run Tryd.prog w = .ok (.int .u8 (byt b 5)) w := fun w => idx_byt' b 5 (by omega) w
  have i6 : ∀ w : World, (Instr.index 9 (.string b) (.int .i64 6)).run Tryd.prog w = .ok (.int .u8 (byt b 6)) w := fun w => idx_byt' b 6 (by omega) w
  have hq : ((byt b 5 : Int) != 1) = true := bne_iff_ne.2 (by omega)
  have hq2 : ((byt b 5 : Int) != 2) = true := bne_iff_ne.2 (by omega)
  clear hn hn2 h4
  clear h0
  clear h1
  clear h2
  clear h3
  go_enter Tryd.func24, Tryd.ntmps24
  go_wp2
  all_goals (go_ret3; exact ⟨rfl, rfl⟩)
theorem rIdent_53_21 (b : ByteArray) (w : World) (h : 16 ≤ b.size) (h0 : byt b 0 = 127) (h1 : byt b 1 = 69) (h2 : byt b 2 = 76) (h3 : byt b 3 = 70) (h4 : byt b 4 = 2) (h5 : byt b 5 = 1) (hn : byt b 6 ≠ 1) :
    Calls Tryd.prog 24 #[.string b] w fun r w' => r = .returned (.tuple #[.int .i64 0, .int .i64 0, .int .i64 53]) ∧ w' = w := by
  have hz : ¬ (b.size : Int) < 16 := by omega
  have i0 : ∀ w : World, (Instr.index 9 (.string b) (.int .i64 0)).run Tryd.prog w = .ok (.int .u8 127) w := fun w => by have h := idx_byt' b 0 (by omega) w; rw [h0] at h; exact h
  have i1 : ∀ w : World, (Instr.index 9 (.string b) (.int .i64 1)).run Tryd.prog w = .ok (.int .u8 69) w := fun w => by have h := idx_byt' b 1 (by omega) w; rw [h1] at h; exact h
  have i2 : ∀ w : World, (Instr.index 9 (.string b) (.int .i64 2)).run Tryd.prog w = .ok (.int .u8 76) w := fun w => by have h := idx_byt' b 2 (by omega) w; rw [h2] at h; exact h
  have i3 : ∀ w : World, (Instr.index 9 (.string b) (.int .i64 3)).run Tryd.prog w = .ok (.int .u8 70) w := fun w => by have h := idx_byt' b 3 (by omega) w; rw [h3] at h; exact h
  have i4 : ∀ w : World, (Instr.index 9 (.string b) (.int .i64 4)).run Tryd.prog w = .ok (.int .u8 2) w := fun w => by have h := idx_byt' b 4 (by omega) w; rw [h4] at h; exact h
  have i5 : ∀ w : World, (Instr.index 9 (.string b) (.int .i64 5)).run Tryd.prog w = .ok (.int .u8 1) w := fun w => by have h := idx_byt' b 5 (by omega) w; rw [h5] at h; exact h
  have i6 : ∀ w : World, (Instr.index 9 (.string b) (.int .i64 6)).run Tryd.prog w = .ok (.int .u8 (byt b 6)) w := fun w => idx_byt' b 6 (by omega) w
  have hq : ((byt b 6 : Int) != 1) = true := bne_iff_ne.2 (by omega)
  clear hn h4 h5
  clear h0
  clear h1
  clear h2
  clear h3
  go_enter Tryd.func24, Tryd.ntmps24
  go_wp2
  all_goals (go_ret3; exact ⟨rfl, rfl⟩)
theorem rIdent_0_21 (b : ByteArray) (w : World) (h : 16 ≤ b.size) (h0 : byt b 0 = 127) (h1 : byt b 1 = 69) (h2 : byt b 2 = 76) (h3 : byt b 3 = 70) (h4 : byt b 4 = 2) (h5 : byt b 5 = 1) (h6 : byt b 6 = 1) :
    Calls Tryd.prog 24 #[.string b] w fun r w' => r = .returned (.tuple #[.int .i64 64, .int .i64 0, .int .i64 0]) ∧ w' = w := by
  have hz : ¬ (b.size : Int) < 16 := by omega
  have i0 : ∀ w : World, (Instr.index 9 (.string b) (.int .i64 0)).run Tryd.prog w = .ok (.int .u8 127) w := fun w => by have h := idx_byt' b 0 (by omega) w; rw [h0] at h; exact h
  have i1 : ∀ w : World, (Instr.index 9 (.string b) (.int .i64 1)).run Tryd.prog w = .ok (.int .u8 69) w := fun w => by have h := idx_byt' b 1 (by omega) w; rw [h1] at h; exact h
  have i2 : ∀ w : World, (Instr.index 9 (.string b) (.int .i64 2)).run Tryd.prog w = .ok (.int .u8 76) w := fun w => by have h := idx_byt' b 2 (by omega) w; rw [h2] at h; exact h
  have i3 : ∀ w : World, (Instr.index 9 (.string b) (.int .i64 3)).run Tryd.prog w = .ok (.int .u8 70) w := fun w => by have h := idx_byt' b 3 (by omega) w; rw [h3] at h; exact h
  have i4 : ∀ w : World, (Instr.index 9 (.string b) (.int .i64 4)).run Tryd.prog w = .ok (.int .u8 2) w := fun w => by have h := idx_byt' b 4 (by omega) w; rw [h4] at h; exact h
  have i5 : ∀ w : World, (Instr.index 9 (.string b) (.int .i64 5)).run Tryd.prog w = .ok (.int .u8 1) w := fun w => by have h := idx_byt' b 5 (by omega) w; rw [h5] at h; exact h
  have i6 : ∀ w : World, (Instr.index 9 (.string b) (.int .i64 6)).run Tryd.prog w = .ok (.int .u8 1) w := fun w => by have h := idx_byt' b 6 (by omega) w; rw [h6] at h; exact h
  clear h4 h5 h6
  clear h0
  clear h1
  clear h2
  clear h3
  go_enter Tryd.func24, Tryd.ntmps24
  go_wp2
  all_goals (go_ret3; exact ⟨rfl, rfl⟩)
theorem rIdent_53_22 (b : ByteArray) (w : World) (h : 16 ≤ b.size) (h0 : byt b 0 = 127) (h1 : byt b 1 = 69) (h2 : byt b 2 = 76) (h3 : byt b 3 = 70) (h4 : byt b 4 = 2) (h5 : byt b 5 = 2) (hn : byt b 6 ≠ 1) :
    Calls Tryd.prog 24 #[.string b] w fun r w' => r = .returned (.tuple #[.int .i64 0, .int .i64 0, .int .i64 53]) ∧ w' = w := by
  have hz : ¬ (b.size : Int) < 16 := by omega
  have i0 : ∀ w : World, (Instr.index 9 (.string b) (.int .i64 0)).run Tryd.prog w = .ok (.int .u8 127) w := fun w => by have h := idx_byt' b 0 (by omega) w; rw [h0] at h; exact h
  have i1 : ∀ w : World, (Instr.index 9 (.string b) (.int .i64 1)).run Tryd.prog w = .ok (.int .u8 69) w := fun w => by have h := idx_byt' b 1 (by omega) w; rw [h1] at h; exact h
  have i2 : ∀ w : World, (Instr.index 9 (.string b) (.int .i64 2)).run Tryd.prog w = .ok (.int .u8 76) w := fun w => by have h := idx_byt' b 2 (by omega) w; rw [h2] at h; exact h
  have i3 : ∀ w : World, (Instr.index 9 (.string b) (.int .i64 3)).run Tryd.prog w = .ok (.int .u8 70) w := fun w => by have h := idx_byt' b 3 (by omega) w; rw [h3] at h; exact h
  have i4 : ∀ w : World, (Instr.index 9 (.string b) (.int .i64 4)).run Tryd.prog w = .ok (.int .u8 2) w := fun w => by have h := idx_byt' b 4 (by omega) w; rw [h4] at h; exact h
  have i5 : ∀ w : World, (Instr.index 9 (.string b) (.int .i64 5)).run Tryd.prog w = .ok (.int .u8 2) w := fun w => by have h := idx_byt' b 5 (by omega) w; rw [h5] at h; exact h
  have i6 : ∀ w : World, (Instr.index 9 (.string b) (.int .i64 6)).run Tryd.prog w = .ok (.int .u8 (byt b 6)) w := fun w => idx_byt' b 6 (by omega) w
  have hq : ((byt b 6 : Int) != 1) = true := bne_iff_ne.2 (by omega)
  clear hn h4 h5
  clear h0
  clear h1
  clear h2
  clear h3
  go_enter Tryd.func24, Tryd.ntmps24
  go_wp2
  all_goals (go_ret3; exact ⟨rfl, rfl⟩)
theorem rIdent_0_22 (b : ByteArray) (w : World) (h : 16 ≤ b.size) (h0 : byt b 0 = 127) (h1 : byt b 1 = 69) (h2 : byt b 2 = 76) (h3 : byt b 3 = 70) (h4 : byt b 4 = 2) (h5 : byt b 5 = 2) (h6 : byt b 6 = 1) :
    Calls Tryd.prog 24 #[.string b] w fun r w' => r = .returned (.tuple #[.int .i64 64, .int .i64 1, .int .i64 0]) ∧ w' = w := by
  have hz : ¬ (b.size : Int) < 16 := by omega
  have i0 : ∀ w : World, (Instr.index 9 (.string b) (.int .i64 0)).run Tryd.prog w = .ok (.int .u8 127) w := fun w => by have h := idx_byt' b 0 (by omega) w; rw [h0] at h; exact h
  have i1 : ∀ w : World, (Instr.index 9 (.string b) (.int .i64 1)).run Tryd.prog w = .ok (.int .u8 69) w := fun w => by have h := idx_byt' b 1 (by omega) w; rw [h1] at h; exact h
  have i2 : ∀ w : World, (Instr.index 9 (.string b) (.int .i64 2)).run Tryd.prog w = .ok (.int .u8 76) w := fun w => by have h := idx_byt' b 2 (by omega) w; rw [h2] at h; exact h
  have i3 : ∀ w : World, (Instr.index 9 (.string b) (.int .i64 3)).run Tryd.prog w = .ok (.int .u8 70) w := fun w => by have h := idx_byt' b 3 (by omega) w; rw [h3] at h; exact h
  have i4 : ∀ w : World, (Instr.index 9 (.string b) (.int .i64 4)).run Tryd.prog w = .ok (.int .u8 2) w := fun w => by have h := idx_byt' b 4 (by omega) w; rw [h4] at h; exact h
  have i5 : ∀ w : World, (Instr.index 9 (.string b) (.int .i64 5)).run Tryd.prog w = .ok (.int .u8 2) w := fun w => by have h := idx_byt' b 5 (by omega) w; rw [h5] at h; exact h
  have i6 : ∀ w : World, (Instr.index 9 (.string b) (.int .i64 6)).run Tryd.prog w = .ok (.int .u8 1) w := fun w => by have h := idx_byt' b 6 (by omega) w; rw [h6] at h; exact h
  clear h4 h5 h6
  clear h0
  clear h1
  clear h2
  clear h3
  go_enter Tryd.func24, Tryd.ntmps24
  go_wp2
  all_goals (go_ret3; exact ⟨rfl, rfl⟩)
theorem identE_is (b : ByteArray) (h : 16 ≤ b.size) : identE b = if ¬ (byt b 0 = 127 ∧ byt b 1 = 69 ∧ byt b 2 = 76 ∧ byt b 3 = 70) then 50 else if byt b 4 ≠ 1 ∧ byt b 4 ≠ 2 then 51 else if byt b 5 ≠ 1 ∧ byt b 5 ≠ 2 then 52 else if byt b 6 ≠ 1 then 53 else 0 := by
  unfold identE isElf
  rw [decide_eq_true h, Bool.true_and]
  have e : (((byt b 0 == 127 && byt b 1 == 69 && byt b 2 == 76 && byt b 3 == 70) = false) ↔ ¬ (byt b 0 = 127 ∧ byt b 1 = 69 ∧ byt b 2 = 76 ∧ byt b 3 = 70)) := by
    rw [← Bool.not_eq_true]
    simp only [Bool.and_eq_true, beq_iff_eq, and_assoc]
  simp only [e]
theorem rIdent_long (b : ByteArray) (w : World) (h : 16 ≤ b.size) :
    Calls Tryd.prog 24 #[.string b] w fun r w' => r = .returned (.tuple #[.int .i64 (idC b), .int .i64 (idO b), .int .i64 (identE b)]) ∧ w' = w := by
  have he := identE_is b h
  have no (n : Int) (hn : n ≠ 0) (hh : identE b = n) (hc : Calls Tryd.prog 24 #[.string b] w fun r w' => r = .returned (.tuple #[.int .i64 0, .int .i64 0, .int .i64 n]) ∧ w' = w) :
      Calls Tryd.prog 24 #[.string b] w fun r w' => r = .returned (.tuple #[.int .i64 (idC b), .int .i64 (idO b), .int .i64 (identE b)]) ∧ w' = w :=
    hc.mono fun r w' ⟨h1, h2⟩ => ⟨by rw [h1]; exact tup3 (by unfold idC; rw [if_neg (by rw [hh]; exact hn)]) (by unfold idO; rw [if_neg (by rw [hh]; exact hn)]) hh.symm, h2⟩
  have ok (x y : Int) (hh : identE b = 0) (hx : x = (cls b : Int)) (hy : y = ord b) (hc : Calls Tryd.prog 24 #[.string b] w fun r w' => r = .returned (.tuple #[.int .i64 x, .int .i64 y, .int .i64 0]) ∧ w' = w) :
      Calls Tryd.prog 24 #[.string b] w fun r w' => r = .returned (.tuple #[.int .i64 (idC b), .int .i64 (idO b), .int .i64 (identE b)]) ∧ w' = w :=
    hc.mono fun r w' ⟨h1, h2⟩ => ⟨by rw [h1]; exact tup3 (by unfold idC; rw [if_pos hh, hx]) (by unfold idO; rw [if_pos hh, hy]) hh.symm, h2⟩
  rcases Classical.em (byt b 0 = 127) with h0 | h0
  rotate_left
  · rw [if_pos (fun h => h0 h.1)] at he; exact no 50 (by decide) he (rIdent_50_0 b w h h0)
  rcases Classical.em (byt b 1 = 69) with h1 | h1
  rotate_left
  · rw [if_pos (fun h => h1 h.2.1)] at he; exact no 50 (by decide) he (rIdent_50_1 b w h h0 h1)
  rcases Classical.em (byt b 2 = 76) with h2 | h2
  rotate_left
  · rw [if_pos (fun h => h2 h.2.2.1)] at he; exact no 50 (by decide) he (rIdent_50_2 b w h h0 h1 h2)
  rcases Classical.em (byt b 3 = 70) with h3 | h3
  rotate_left
  · rw [if_pos (fun h => h3 h.2.2.2)] at he; exact no 50 (by decide) he (rIdent_50_3 b w h h0 h1 h2 h3)
  rw [if_neg (fun h => h ⟨h0, h1, h2, h3⟩)] at he
  by_cases h4 : byt b 4 ≠ 1 ∧ byt b 4 ≠ 2
  · rw [if_pos h4] at he; exact no 51 (by decide) he (rIdent_51 b w h h0 h1 h2 h3 h4.1 h4.2)
  rw [if_neg h4] at he
  by_cases h5 : byt b 5 ≠ 1 ∧ byt b 5 ≠ 2
  · rw [if_pos h5] at he
    rcases (show byt b 4 = 1 ∨ byt b 4 = 2 by omega) with h4 | h4
    · exact no 52 (by decide) he (rIdent_52_1 b w h h0 h1 h2 h3 h4 h5.1 h5.2)
    · exact no 52 (by decide) he (rIdent_52_2 b w h h0 h1 h2 h3 h4 h5.1 h5.2)
  rw [if_neg h5] at he
  by_cases h6 : byt b 6 = 1
  · rw [if_neg (fun h => h h6)] at he
    rcases (show byt b 4 = 1 ∨ byt b 4 = 2 by omega) with h4 | h4 <;> rcases (show byt b 5 = 1 ∨ byt b 5 = 2 by omega) with h5 | h5
    · exact ok _ _ he (by unfold cls; rw [h4]; rfl) (by unfold ord; rw [h5]; rfl) (rIdent_0_11 b w h h0 h1 h2 h3 h4 h5 h6)
    · exact ok _ _ he (by unfold cls; rw [h4]; rfl) (by unfold ord; rw [h5]; rfl) (rIdent_0_12 b w h h0 h1 h2 h3 h4 h5 h6)
    · exact ok _ _ he (by unfold cls; rw [h4]; rfl) (by unfold ord; rw [h5]; rfl) (rIdent_0_21 b w h h0 h1 h2 h3 h4 h5 h6)
    · exact ok _ _ he (by unfold cls; rw [h4]; rfl) (by unfold ord; rw [h5]; rfl) (rIdent_0_22 b w h h0 h1 h2 h3 h4 h5 h6)
  · rw [if_pos h6] at he
    rcases (show byt b 4 = 1 ∨ byt b 4 = 2 by omega) with h4 | h4 <;> rcases (show byt b 5 = 1 ∨ byt b 5 = 2 by omega) with h5 | h5
    · exact no 53 (by decide) he (rIdent_53_11 b w h h0 h1 h2 h3 h4 h5 h6)
    · exact no 53 (by decide) he (rIdent_53_12 b w h h0 h1 h2 h3 h4 h5 h6)
    · exact no 53 (by decide) he (rIdent_53_21 b w h h0 h1 h2 h3 h4 h5 h6)
    · exact no 53 (by decide) he (rIdent_53_22 b w h h0 h1 h2 h3 h4 h5 h6)
/-- 5.1, the document's answer -/
theorem rIdent_c (b : ByteArray) (w : World) :
    Calls Tryd.prog 24 #[.string b] w fun r w' => r = .returned (.tuple #[.int .i64 (idC b), .int .i64 (idO b), .int .i64 (identE b)]) ∧ w' = w := by
  rcases Nat.lt_or_ge b.size 16 with h | h
  · have e : identE b = 50 := by unfold identE isElf; rw [decide_eq_false (Nat.not_le.2 h)]; rfl
    refine (rIdent_short b w h).mono fun r w' ⟨h1, h2⟩ => ⟨?_, h2⟩
    rw [h1]
    exact tup3 (by unfold idC; rw [if_neg (by rw [e]; decide)]) (by unfold idO; rw [if_neg (by rw [e]; decide)]) e.symm
  · exact rIdent_long b w h
end Go.Proofs.YtoikagccopglkaaDoor
