
-- The tables of verbs.
import Derived.Test.YtdamhdceajmdfaaDoorM1
namespace Go.Proofs.YtdamhdceajmdfaaDoor
open Go.ChangeShapes Go.WideShapes Go.ChangeAt Go.RowKit
set_option linter.unusedVariables false
set_option maxRecDepth 100000
set_option linter.unusedSimpArgs false
def cellsV : Array Value := #[.string ⟨#[]⟩, .bool false, .int .i64 0, .string ⟨#[67, 82, 69, 65, 84, 69]⟩, .bool true, .int .i64 0, .string ⟨#[79, 80, 69, 78]⟩, .bool true, .int .i64 0, .string ⟨#[65, 68, 68, 77, 79, 68]⟩, .bool false, .int .i64 1, .string ⟨#[65, 68, 68, 76, 73, 66]⟩, .bool true, .int .i64 2, .string ⟨#[68, 69, 76, 69, 84, 69]⟩, .bool false, .int .i64 1, .string ⟨#[82, 69, 80, 76, 65, 67, 69]⟩, .bool false, .int .i64 1, .string ⟨#[69, 88, 84, 82, 65, 67, 84]⟩, .bool false, .int .i64 1, .string ⟨#[76, 73, 83, 84]⟩, .bool false, .int .i64 0, .string ⟨#[68, 73, 82, 69, 67, 84, 79, 82, 89]⟩, .bool true, .int .i64 2, .string ⟨#[86, 69, 82, 66, 79, 83, 69]⟩, .bool false, .int .i64 0, .string ⟨#[67, 76, 69, 65, 82]⟩, .bool false, .int .i64 0, .string ⟨#[83, 65, 86, 69]⟩, .bool false, .int .i64 0, .string ⟨#[69, 78, 68]⟩, .bool false, .int .i64 0]
def VT (w : World) : Prop := ∃ t fr, w.heap[2]? = some (.cells cellsV t fr)
def WT (w : World) : Prop := 0 < w.heap.size ∧ ∀ k, k < 14 → w.cell? ⟨0, k, none⟩ = some (.string (wordB k))
theorem VT.on {w w' : World} {n : Nat} (h : VT w) (hb : Below n w w') (hn : 2 < n) : VT w' := by
  obtain ⟨t, fr, h⟩ := h
  exact ⟨t, fr, (hb.block _ hn).trans h⟩
theorem VT.lt {w : World} (h : VT w) : 2 < w.heap.size := by
  obtain ⟨t, fr, h⟩ := h
  exact (Array.getElem?_eq_some_iff.1 h).1
theorem VT.up {w w' : World} (h : VT w) (hb : Below w.heap.size w w') : VT w' := h.on hb h.lt
theorem WT.on {w w' : World} {n : Nat} (h : WT w) (hb : Below n w w') (hn : 0 < n) : WT w' := ⟨Nat.lt_of_lt_of_le h.1 hb.size, fun k hk => (hb.cell (p := ⟨0, k, none⟩) hn).trans (h.2 k hk)⟩
theorem WT.up {w w' : World} (h : WT w) (hb : Below w.heap.size w w') : WT w' := h.on hb h.1
theorem cellsV_at (k : Nat) (hk : k < 14) : cellsV[k * 3]? = some (.string (wordB k)) ∧ cellsV[k * 3 + 1]? = some (.bool (namedV k)) ∧ cellsV[k * 3 + 2]? = some (.int .i64 (kindV k : Nat)) := by
  match k, hk with
  | 0, _ => exact ⟨rfl, rfl, rfl⟩
  | 1, _ => exact ⟨rfl, rfl, rfl⟩
  | 2, _ => exact ⟨rfl, rfl, rfl⟩
  | 3, _ => exact ⟨rfl, rfl, rfl⟩
  | 4, _ => exact ⟨rfl, rfl, rfl⟩
  | 5, _ => exact ⟨rfl, rfl, rfl⟩
  | 6, _ => exact ⟨rfl, rfl, rfl⟩
  | 7, _ => exact ⟨rfl, rfl, rfl⟩
  | 8, _ => exact ⟨rfl, rfl, rfl⟩
  | 9, _ => exact ⟨rfl, rfl, rfl⟩
  | 10, _ => exact ⟨rfl, rfl, rfl⟩
  | 11, _ => exact ⟨rfl, rfl, rfl⟩
  | 12, _ => exact ⟨rfl, rfl, rfl⟩
  | 13, _ => exact ⟨rfl, rfl, rfl⟩
  | n + 14, h => omega
theorem VT.cells {w : World} (h : VT w) (k : Nat) (hk : k < 14) : w.cell? ⟨2, k * 3, none⟩ = some (.string (wordB k)) ∧ w.cell? ⟨2, k * 3 + 1, none⟩ = some (.bool (namedV k)) ∧ w.cell? ⟨2, k * 3 + 2, none⟩ = some (.int .i64 (kindV k : Nat)) := by
  obtain ⟨t, fr, h⟩ := h
  obtain ⟨h0, h1, h2⟩ := cellsV_at k hk
  refine ⟨?_, ?_, ?_⟩ <;> simp only [World.cell?, h] <;> simp [h0, h1, h2]
theorem kindV_cases (k : Nat) : kindV k = 0 ∨ kindV k = 1 ∨ kindV k = 2 := by unfold kindV; split; exact .inr (.inl rfl); split; exact .inr (.inr rfl); exact .inl rfl
theorem isVerb_c (x : Int) (w : World) : Calls Tryd.prog 32 #[.int .i64 x] w fun e w' => e = .returned (.bool (decide (0 < x ∧ x < 14))) ∧ w' = w := by
  by_cases h0 : 0 < x
  · have b0 : decide (0 < x) = true := by simp [h0]
    have e : decide (0 < x ∧ x < 14) = decide (x < 14) := by simp [h0]
    rw [e]
    go_enter Tryd.func32, Tryd.ntmps32
    go_wp2
    go_ret
    exact ⟨rfl, rfl⟩
  · have b0 : decide (0 < x) = false := by simp [h0]
    have e : decide (0 < x ∧ x < 14) = false := by simp [h0]
    rw [e]
    go_enter Tryd.func32, Tryd.ntmps32
    go_wp2
    go_ret
    exact ⟨rfl, rfl⟩
end Go.Proofs.YtdamhdceajmdfaaDoor
