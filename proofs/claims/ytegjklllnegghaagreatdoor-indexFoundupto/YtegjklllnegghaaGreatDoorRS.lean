
-- shelfref11.bsd: a contract.
import Derived.Test.YtegjklllnegghaaGreatDoorPC
import Derived.Lib.IndexBytes
namespace Go.Proofs.YtegjklllnegghaaGreatDoor
open Go.ChangeShapes Go.WideShapes Go.ChangeAt Go.RowKit
set_option linter.unusedVariables false
set_option maxRecDepth 100000
theorem leS_lt (b : List UInt8) (p : Nat) : leW b p 4 < 4294967296 := by
  unfold leW
  exact Nat.lt_of_lt_of_le (leNat_lt _) (Nat.le_trans (Nat.pow_le_pow_right (by omega) (List.length_take_le _ _)) (by decide))
theorem slice_abS (s : ByteArray) (a b : Nat) (x y : Int) (hx : x = (a : Int)) (hy : y = (b : Int)) (h : a ≤ b) (h2 : b ≤ s.size) : ∀ w, (Instr.slice 9 (.string s) (some (.int .i64 x)) (some (.int .i64 y)) none).run Tryz.prog w = .ok (.string (strL ((s.data.toList.drop a).take (b - a)))) w := by
  subst hx hy
  intro w
  rw [run_slice_string w 9 s .i64 .i64 a b Tryz.underlying9 (by omega) (by omega) (by omega), Int.toNat_natCast, Int.toNat_natCast, Lib.extract_eq]; rfl
theorem bsdA_no {b : List UInt8} (h : b.length < 4 ∨ ¬ bsN b % 8 = 0 ∨ b.length < 8 + bsN b ∨ b.length < 8 + bsN b + bsK b) : bsdA b = none := by unfold bsdA; rw [if_pos h]
theorem bsdA_all {b : List UInt8} (h : ¬ (b.length < 4 ∨ ¬ bsN b % 8 = 0 ∨ b.length < 8 + bsN b ∨ b.length < 8 + bsN b + bsK b)) : bsdA b = if bsAll b = true then some ((List.range (bsN b / 8)).map (enB b)) else none := by unfold bsdA; rw [if_neg h]
theorem bsAll_no {b : List UInt8} {i : Nat} (h : i < bsN b / 8) (hn : nmE (bsS b) (leW b (4 + 8 * i) 4) = none) : bsAll b = false := by
  cases q : bsAll b
  · rfl
  · have := (bsAll_iff b).1 q i h
    unfold bsOk at this; rw [hn] at this; cases this
end Go.Proofs.YtegjklllnegghaaGreatDoor
