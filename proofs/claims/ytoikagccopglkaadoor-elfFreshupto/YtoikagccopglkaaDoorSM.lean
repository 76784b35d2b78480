
-- The statement's same: contract.
import Derived.Test.YtoikagccopglkaaDoorQ2
import Derived.Test.YtoikagccopglkaaDoorR1
import Derived.LoopTactic
import Derived.Deep.QuietTactic
import Derived.BigQuiet
namespace Go.Proofs.YtoikagccopglkaaDoor
open Go.ChangeShapes Go.WideShapes Go.ChangeAt Go.RowKit
set_option linter.unusedVariables false
set_option maxRecDepth 100000
/-- a list of sections in memory -/
def SecsAt (w : World) (v : Value) (n : Nat) (sv : Nat → Array Value) : Prop :=
  ∃ ao c, v = .slice ao n c ∧ (0 < n → ∃ g, ao = some ⟨g, 0, none⟩ ∧ ∀ i m, i < n → m < 8 → w.cell? ⟨g, i * 8 + m, none⟩ = (sv i)[m]?)
set_option maxHeartbeats 1000000 in
theorem same_c (a b : Value) (n : Nat) (sv : Nat → Array Value) (w : World) (hX : ∀ i, ∃ x0 x1 x2 x3 x4 x5 x6 x7 : Int, sv i = #[.int .i64 x0, .int .i64 x1, .int .u64 x2, .int .i64 x3, .int .i64 x4, .int .u64 x5, .int .u64 x6, .int .u64 x7]) (hn : n ≤ 281474976710656) (ha : SecsAt w a n sv) (hb : SecsAt w b n sv) :
    Calls Tryd.prog 6 #[a, b] w fun r w' => r = .returned (.bool true) ∧ Dr w w' := by
  obtain ⟨ao, ac, rfl, hA⟩ := ha
  obtain ⟨bo, bc, rfl, hB⟩ := hb
  have HX := Hid.mk' hX
  have HA := Hid.mk' hA
  have HB := Hid.mk' hB
  clear hX hA hB
  go_enter Tryd.func6, Tryd.ntmps6
  go_wp2
  go_loopw [5] (fun i wx => ∃ j : Nat, j ≤ n ∧ i = .int .i64 j ∧ Dr w wx) (fun i _ => n - (intOf i).toNat)
  case atStart => exact ⟨0, Nat.zero_le _, rfl, Dr.refl _⟩
  case round =>
    obtain ⟨j, hj, rfl, hD⟩ := hrel
    by_cases hjn : j < n
    · obtain ⟨x0, x1, x2, x3, x4, x5, x6, x7, hx⟩ := HX.out j
      obtain ⟨g, rfl, hg⟩ := HA.out (by omega)
      obtain ⟨h, rfl, hh⟩ := HB.out (by omega)
      have heq := eqSec x0 x1 x2 x3 x4 x5 x6 x7
      have cw (q m : Nat) : wr.cell? ⟨q, m, none⟩ = w.cell? ⟨q, m, none⟩ := by obtain ⟨d, rfl⟩ := hD; rfl
      have a0 : wr.cell? ⟨g, j * 8, none⟩ = some (.int .i64 x0) := by rw [cw]; have := hg j 0 hjn (by omega); rw [hx] at this; exact this
      have a1 : wr.cell? ⟨g, j * 8 + 1, none⟩ = some (.int .i64 x1) := by rw [cw]; have := hg j 1 hjn (by omega); rw [hx] at this; exact this
      have a2 : wr.cell? ⟨g, j * 8 + 2, none⟩ = some (.int .u64 x2) := by rw [cw]; have := hg j 2 hjn (by omega); rw [hx] at this; exact this
      have a3 : wr.cell? ⟨g, j * 8 + 3, none⟩ = some (.int .i64 x3) := by rw [cw]; have := hg j 3 hjn (by omega); rw [hx] at this; exact this
      have a4 : wr.cell? ⟨g, j * 8 + 4, none⟩ = some (.int .i64 x4) := by rw [cw]; have := hg j 4 hjn (by omega); rw [hx] at this; exact this
      have a5 : wr.cell? ⟨g, j * 8 + 5, none⟩ = some (.int .u64 x5) := by rw [cw]; have := hg j 5 hjn (by omega); rw [hx] at this; exact this
      have a6 : wr.cell? ⟨g, j * 8 + 6, none⟩ = some (.int .u64 x6) := by rw [cw]; have := hg j 6 hjn (by omega); rw [hx] at this; exact this
      have a7 : wr.cell? ⟨g, j * 8 + 7, none⟩ = some (.int .u64 x7) := by rw [cw]; have := hg j 7 hjn (by omega); rw [hx] at this; exact this
      have b0 : wr.cell? ⟨h, j * 8, none⟩ = some (.int .i64 x0) := by rw [cw]; have := hh j 0 hjn (by omega); rw [hx] at this; exact this
      have b1 : wr.cell? ⟨h, j * 8 + 1, none⟩ = some (.int .i64 x1) := by rw [cw]; have := hh j 1 hjn (by omega); rw [hx] at this; exact this
      have b2 : wr.cell? ⟨h, j * 8 + 2, none⟩ = some (.int .u64 x2) := by rw [cw]; have := hh j 2 hjn (by omega); rw [hx] at this; exact this
      have b3 : wr.cell? ⟨h, j * 8 + 3, none⟩ = some (.int .i64 x3) := by rw [cw]; have := hh j 3 hjn (by omega); rw [hx] at this; exact this
      have b4 : wr.cell? ⟨h, j * 8 + 4, none⟩ = some (.int .i64 x4) := by rw [cw]; have := hh j 4 hjn (by omega); rw [hx] at this; exact this
      have b5 : wr.cell? ⟨h, j * 8 + 5, none⟩ = some (.int .u64 x5) := by rw [cw]; have := hh j 5 hjn (by omega); rw [hx] at this; exact this
      have b6 : wr.cell? ⟨h, j * 8 + 6, none⟩ = some (.int .u64 x6) := by rw [cw]; have := hh j 6 hjn (by omega); rw [hx] at this; exact this
      have b7 : wr.cell? ⟨h, j * 8 + 7, none⟩ = some (.int .u64 x7) := by rw [cw]; have := hh j 7 hjn (by omega); rw [hx] at this; exact this
      have hjI : (j : Int) < (n : Int) := by omega
      have hj0 : (0 : Int) ≤ (j : Int) := by omega
      clear hg hh cw hx HX HA HB
      go_wp2_with fail
      go_quiet (fail)
      go_wp2
      go_roundw
      case rel => exact ⟨j + 1, by omega, by go_num, hD.more _⟩
      case measure => simp [intOf]; omega
    · obtain rfl : j = n := by omega
      go_wp2
      go_ret
      exact ⟨rfl, hD⟩
end Go.Proofs.YtoikagccopglkaaDoor
