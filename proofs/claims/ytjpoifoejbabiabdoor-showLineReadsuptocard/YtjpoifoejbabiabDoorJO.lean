
-- show.line: pieces put together to a line.
import Derived.Test.YtjpoifoejbabiabDoorJB
namespace Go.Proofs.YtjpoifoejbabiabDoor
open Go.ChangeShapes Go.WideShapes Go.ChangeAt Go.RowKit
set_option linter.unusedVariables false
set_option maxRecDepth 100000
set_option linter.unusedSimpArgs false
theorem join_flat (xs : List ByteArray) : Lib.join (xs.map (·.data.toList)) [] = xs.flatMap lsq := by
  cases xs with
  | nil => rfl
  | cons x r =>
    rw [List.map_cons, Lib.join_cons, List.flatMap_cons]
    congr 1
    unfold Lib.joinTail
    rw [List.flatMap_def, List.map_map]
    rfl
set_option maxHeartbeats 2000000 in
theorem line_c (xs : List ByteArray) (b cap : Nat) (w : World) (hc : ∀ (j : Nat) x, xs[j]? = some x → w.cell? ⟨b, j, none⟩ = some (.string x)) (hb : b < w.heap.size) (hn : xs.length ≤ 1000) (hcap : xs.length ≤ cap) (hl : (xs.flatMap lsq).length ≤ 1099511627776) :
    Calls Tryd.prog 18 #[.slice (some ⟨b, 0, none⟩) xs.length cap] w fun e w' => e = .returned (.string (strB (xs.flatMap lsq ++ [10]))) ∧ Below w.heap.size w w' := by
  have h0 := Tryd.strings_Join b 0 cap xs ⟨#[]⟩ w (fun j x hj => by rw [Nat.zero_add]; exact hc j x hj) hb (by omega) hcap (by show (Lib.join _ []).length ≤ _; rw [join_flat]; omega)
  have e0 : Lib.join (xs.map (·.data.toList)) (⟨#[]⟩ : ByteArray).data.toList = xs.flatMap lsq := join_flat xs
  rw [e0] at h0
  obtain ⟨J, hJ⟩ : ∃ J, J = strB (xs.flatMap lsq) := ⟨_, rfl⟩
  have HJ : Hid (Calls Tryd.prog 37 #[.slice (some ⟨b, 0, none⟩) xs.length cap, .string ⟨#[]⟩] w fun e w' => e = .returned (.string J) ∧ Below w.heap.size w w') := by rw [hJ]; exact h0
  have hs : J.size ≤ 1099511627776 := by rw [hJ, strB_size]; exact hl
  have HF := hidK (show J ++ ⟨#[10]⟩ = strB (xs.flatMap lsq ++ [10]) by rw [hJ, show (⟨#[10]⟩ : ByteArray) = strB [10] from rfl, strB_app])
  have q1 : ¬ (9223372036854775807 < J.size + 1) := by omega
  clear h0 e0 hJ hc hl hn
  go_enter Tryd.func18, Tryd.ntmps18
  go_wp2_with (go_at_call 37; refine HJ.out.mono ?_; rintro e w1 ⟨rfl, hb1⟩)
  go_ret
  exact ⟨by rw [← HF.out]; rfl, hb1⟩
theorem line0_c (w : World) :
    Calls Tryd.prog 18 #[.slice none 0 0] w fun e w' => e = .returned (.string ⟨#[10]⟩) ∧ w' = w := by
  have HJ := hidK (Tryd.strings_Join_none none 0 ⟨#[]⟩ w)
  go_enter Tryd.func18, Tryd.ntmps18
  go_wp2_with (go_at_call 37; refine HJ.out.mono ?_; rintro e w1 ⟨rfl, rfl⟩)
  go_ret
  exact ⟨rfl, rfl⟩
/-- over a row that was just made -/
theorem line_new (xs : List ByteArray) (n : Nat) (hn : n = xs.length) (w W : World) (b : Nat) (hb : W.heap[b]? = some (.cells (xs.map Value.string).toArray 9 (0, 0))) (h1 : xs.length ≤ 1000) (hl : (xs.flatMap lsq).length ≤ 1099511627776) :
    Calls Tryd.prog 18 #[.slice (some ⟨b, 0, none⟩) n n] W fun e w' => e = .returned (.string (strB (xs.flatMap lsq ++ [10]))) ∧ Below W.heap.size W w' := by
  subst hn
  exact line_c xs b _ W (fun j x hj => cell_rowK hb j _ (by simp [hj])) (Array.getElem?_eq_some_iff.1 hb).1 h1 (Nat.le_refl _) hl
end Go.Proofs.YtjpoifoejbabiabDoor
