
-- Two lists of entries that are the same.
import Derived.Test.YtegjklllnegghaaGreatDoorCC
import Derived.Laws.StructEq
import Derived.Laws.Tables
import Derived.Laws.Cover2
import Derived.BigQuiet
import Derived.Deep.QuietTactic
namespace Go.Proofs.YtegjklllnegghaaGreatDoor
open Go.ChangeShapes Go.WideShapes Go.ChangeAt Go.RowKit
set_option linter.unusedVariables false
set_option maxRecDepth 100000
theorem eqEn (n : ByteArray) (s : Int) (w : World) : (Op.equalIn 10000 33 (.agg #[.string n, .int .i64 s]) (.agg #[.string n, .int .i64 s])).run Tryz.prog w = .ok true w := by
  have u3 := Tryz.underlying3
  have a3 := Tryz.isAgg3
  have z3 := Tryz.sizeOf3
  have u9 := Tryz.underlying9
  have a9 := Tryz.isAgg9
  have z9 := Tryz.sizeOf9
  have hS : Tryz.prog.underlying 33 = some (.struct (Tryz.prog.fieldsOf 33)) := by kernel_rfl
  rw [show (10000 : Nat) = 9999 + 1 from rfl, run_equalIn_agg w 9999 33 _ _ hS (by kernel_rfl)]
  simp only [Program.fieldsOf, Tryz.underlying33]
  go_simp
set_option maxHeartbeats 4000000 in
theorem same11_c (v1 v2 : Value) (l : List En) (w : World) (h1 : RowE w v1 l) (h2 : RowE w v2 l) (hn : l.length < 4294967296) :
    Calls Tryz.prog 16 #[v1, v2] w fun e w' => e = .returned (.bool true) ∧ ∃ m, w' = w.drewN m := by
  obtain ⟨a1, c1, q1⟩ := h1.form
  obtain ⟨a2, c2, q2⟩ := h2.form
  obtain ⟨n, hnn⟩ : ∃ n, n = l.length := ⟨_, rfl⟩
  have HN := hidK hnn
  have HQ1 := hidK h1
  have HQ2 := hidK h2
  subst q1
  subst q2
  rw [← hnn] at hn ⊢ HQ1 HQ2
  clear h1 h2 hnn
  go_enter Tryz.func16, Tryz.ntmps16
  go_wp2
  go_loopw [5] (fun i wx => ∃ k : Nat, i = .int .i64 k ∧ k ≤ n ∧ ∃ m, wx = w.drewN m) (fun i _ => n - (intOf i).toNat)
  case atStart => exact ⟨0, rfl, Nat.zero_le _, 0, rfl⟩
  case round =>
    obtain ⟨k, rfl, hkn, m, rfl⟩ := hrel
    by_cases hk : k < n
    · have kI : (k : Int) < (n : Int) := by omega
      have k0 : (0 : Int) ≤ (k : Int) := by omega
      have hkl : k < l.length := by have := HN.out; omega
      obtain ⟨⟨nm, pl⟩, hx⟩ : ∃ x, l[k]? = some x := ⟨_, List.getElem?_eq_getElem hkl⟩
      rcases HQ1.out with ⟨h0, _⟩ | ⟨b1, o1, p1, e1, r1⟩
      · rw [h0] at hkl; exact absurd hkl (Nat.not_lt_zero _)
      rcases HQ2.out with ⟨h0, _⟩ | ⟨b2, o2, p2, e2, r2⟩
      · rw [h0] at hkl; exact absurd hkl (Nat.not_lt_zero _)
      obtain ⟨c11, c12⟩ := r1 k _ hx
      obtain ⟨c21, c22⟩ := r2 k _ hx
      injection e1 with e1 _ _
      injection e2 with e2 _ _
      subst e1
      subst e2
      have hE := eqEn nm pl
      clear hx r1 r2 HQ1 HQ2 hkl
      have d1 : w.cell? ⟨b1, o1 + k * 2, none⟩ = some (.string nm) := by rw [Nat.mul_comm]; exact c11
      have d2 : w.cell? ⟨b1, o1 + k * 2 + 1, none⟩ = some (.int .i64 pl) := by rw [Nat.mul_comm]; exact c12
      have d3 : w.cell? ⟨b2, o2 + k * 2, none⟩ = some (.string nm) := by rw [Nat.mul_comm]; exact c21
      have d4 : w.cell? ⟨b2, o2 + k * 2 + 1, none⟩ = some (.int .i64 pl) := by rw [Nat.mul_comm]; exact c22
      clear c11 c12 c21 c22
      go_wp2_with fail
      go_quiet (fail)
      go_wp2
      go_roundw
      case rel => exact ⟨k + 1, by go_num, by omega, m + nq, rfl⟩
      case measure => simp [intOf]; omega
    · obtain rfl : k = n := by omega
      clear HQ1 HQ2
      go_wp2
      go_ret
      exact ⟨rfl, m, rfl⟩
end Go.Proofs.YtegjklllnegghaaGreatDoor
