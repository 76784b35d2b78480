
-- elf: identify, by the plain words.
import Derived.Test.YtoikagccopglkaaDoorC4
namespace Go.Proofs.YtoikagccopglkaaDoor
open Go.ChangeShapes Go.WideShapes Go.ChangeAt Go.RowKit
set_option linter.unusedVariables false
set_option maxRecDepth 100000

theorem isElf_eq (b : ByteArray) : isElf b = (decide (16 ≤ b.size) && signs b) := by
  have e (x y : Nat) : ((x : Int) == (y : Int)) = (x == y) := by
    by_cases h : x = y
    · subst h; simp
    · have h' : ¬ (x : Int) = y := by omega
      rw [beq_eq_false_iff_ne.2 h, beq_eq_false_iff_ne.2 h']
  unfold isElf signs
  have e0 := e (byt b 0) 127
  have e1 := e (byt b 1) 69
  have e2 := e (byt b 2) 76
  have e3 := e (byt b 3) 70
  rw [show ((127 : Nat) : Int) = 127 from rfl] at e0
  rw [show ((69 : Nat) : Int) = 69 from rfl] at e1
  rw [show ((76 : Nat) : Int) = 76 from rfl] at e2
  rw [show ((70 : Nat) : Int) = 70 from rfl] at e3
  rw [e0, e1, e2, e3, Bool.and_assoc, Bool.and_assoc]
theorem fold_32 (b : ByteArray) : Array.foldl (fun (cs : Array Value) (x : Value × Nat) => cs.setIfInBounds x.snd x.fst) #[.int .i64 0, .int .u64 0, .int .i64 0, .int .i64 0, .int .i64 0, .int .i64 0, .int .i64 0, .int .i64 0, .int .i64 0, .int .i64 0, .int .i64 0, .int .i64 0, .int .i64 0, .int .i64 0, .int .u64 0, .int .i64 0, .int .i64 0, .int .i64 0, .int .i64 0, .int .i64 0, .int .i64 0, .int .i64 0, .int .i64 0, .int .i64 0, .int .i64 0, .int .i64 0, .int .i64 0, .int .i64 0, .int .i64 0, .int .i64 0, .int .i64 0, .string b, .int .i64 0] sh32.zipIdx 0 31 = #[.int .i64 32, .int .u64 52, .int .i64 16, .int .i64 2, .int .i64 18, .int .i64 2, .int .i64 32, .int .i64 4, .int .i64 46, .int .i64 2, .int .i64 48, .int .i64 2, .int .i64 50, .int .i64 2, .int .u64 40, .int .i64 0, .int .i64 4, .int .i64 4, .int .i64 4, .int .i64 8, .int .i64 4, .int .i64 16, .int .i64 4, .int .i64 20, .int .i64 4, .int .i64 24, .int .i64 4, .int .i64 28, .int .i64 4, .int .i64 36, .int .i64 4, .string b, .int .i64 0] := by kernel_rfl
theorem file_32 (b : ByteArray) (o : Int) : (#[.int .i64 32, .int .u64 52, .int .i64 16, .int .i64 2, .int .i64 18, .int .i64 2, .int .i64 32, .int .i64 4, .int .i64 46, .int .i64 2, .int .i64 48, .int .i64 2, .int .i64 50, .int .i64 2, .int .u64 40, .int .i64 0, .int .i64 4, .int .i64 4, .int .i64 4, .int .i64 8, .int .i64 4, .int .i64 16, .int .i64 4, .int .i64 20, .int .i64 4, .int .i64 24, .int .i64 4, .int .i64 28, .int .i64 4, .int .i64 36, .int .i64 4, .string b, .int .i64 0] : Array Value).setIfInBounds 32 (.int .i64 o) = fileCells 32 o b := by kernel_rfl
theorem fold_64 (b : ByteArray) : Array.foldl (fun (cs : Array Value) (x : Value × Nat) => cs.setIfInBounds x.snd x.fst) #[.int .i64 0, .int .u64 0, .int .i64 0, .int .i64 0, .int .i64 0, .int .i64 0, .int .i64 0, .int .i64 0, .int .i64 0, .int .i64 0, .int .i64 0, .int .i64 0, .int .i64 0, .int .i64 0, .int .u64 0, .int .i64 0, .int .i64 0, .int .i64 0, .int .i64 0, .int .i64 0, .int .i64 0, .int .i64 0, .int .i64 0, .int .i64 0, .int .i64 0, .int .i64 0, .int .i64 0, .int .i64 0, .int .i64 0, .int .i64 0, .int .i64 0, .string b, .int .i64 0] sh64.zipIdx 0 31 = #[.int .i64 64, .int .u64 64, .int .i64 16, .int .i64 2, .int .i64 18, .int .i64 2, .int .i64 40, .int .i64 8, .int .i64 58, .int .i64 2, .int .i64 60, .int .i64 2, .int .i64 62, .int .i64 2, .int .u64 64, .int .i64 0, .int .i64 4, .int .i64 4, .int .i64 4, .int .i64 8, .int .i64 8, .int .i64 24, .int .i64 8, .int .i64 32, .int .i64 8, .int .i64 40, .int .i64 4, .int .i64 44, .int .i64 4, .int .i64 56, .int .i64 8, .string b, .int .i64 0] := by kernel_rfl
theorem file_64 (b : ByteArray) (o : Int) : (#[.int .i64 64, .int .u64 64, .int .i64 16, .int .i64 2, .int .i64 18, .int .i64 2, .int .i64 40, .int .i64 8, .int .i64 58, .int .i64 2, .int .i64 60, .int .i64 2, .int .i64 62, .int .i64 2, .int .u64 64, .int .i64 0, .int .i64 4, .int .i64 4, .int .i64 4, .int .i64 8, .int .i64 8, .int .i64 24, .int .i64 8, .int .i64 32, .int .i64 8, .int .i64 40, .int .i64 4, .int .i64 44, .int .i64 4, .int .i64 56, .int .i64 8, .string b, .int .i64 0] : Array Value).setIfInBounds 32 (.int .i64 o) = fileCells 64 o b := by kernel_rfl
/-- a file in memory -/
def FileAt (b : ByteArray) (k : Nat) (w : World) : Prop := w.heap[k]? = some (.cells (fileCells (cls b) (ord b) b) 62 (0, 0))
/-- how identify ends -/
def Ided (b : ByteArray) (w : World) (r : Ending) (w' : World) : Prop :=
  Below w.heap.size w w' ∧ ((identE b = 0 ∧ ∃ k, r = .returned (.pointer (some ⟨k, 0, none⟩)) ∧ w.heap.size ≤ k ∧ FileAt b k w') ∨ (identE b ≠ 0 ∧ r = .panicked (gives (identE b))))
theorem identify_c (b : ByteArray) (w : World) (hM : Magic w) (hm : b.size ≤ maxLen) : Calls Tryd.prog 18 #[.string b] w (Ided b w) := by
  have hE := isElf_eq b
  rcases Nat.lt_or_ge b.size 16 with h16 | h16
  · have e : identE b = 50 := by unfold identE; rw [hE, decide_eq_false (Nat.not_le.2 h16)]; rfl
    refine (identify_short b w (by omega)).mono fun r w' ⟨h1, h2⟩ => ⟨h2, Or.inr ⟨by rw [e]; decide, by rw [e]; exact h1⟩⟩
  cases hS : signs b with
  | false =>
    have e : identE b = 50 := by unfold identE; rw [hE, hS, Bool.and_false]; rfl
    exact (identify_50 b w hM h16 hm hS).mono fun r w' ⟨h1, h2⟩ => ⟨h2, Or.inr ⟨by rw [e]; decide, by rw [e]; exact h1⟩⟩
  | true =>
    have hT : isElf b = true := by rw [hE, hS, decide_eq_true h16]; rfl
    have ne (x : Nat) (y : Nat) (h : x ≠ y) : ((x : Int) == (y : Int)) = false := beq_eq_false_iff_ne.2 (by omega)
    by_cases h4 : byt b 4 ≠ 1 ∧ byt b 4 ≠ 2
    · have e : identE b = 51 := by unfold identE; rw [hT, if_neg (by decide), if_pos h4]
      exact (identify_51' b w sh32 _ 0 hM h16 hm hS (ne _ 1 h4.1) (ne _ 2 h4.2) rfl (fold_32 b) rfl).mono fun r w' ⟨h1, h2⟩ => ⟨h2, Or.inr ⟨by rw [e]; decide, by rw [e]; exact h1⟩⟩
    · obtain ⟨sh, fc, hA, hsz, hfold, hfc, hF⟩ : ∃ sh fc : Array Value, (∀ w : World, Calls Tryd.prog 27 #[.int .u8 (byt b 4)] w fun e w' => e = .returned (.agg sh) ∧ Below w.heap.size w w') ∧ sh.size = 31 ∧
          Array.foldl (fun (cs : Array Value) (x : Value × Nat) => cs.setIfInBounds x.snd x.fst) #[.int .i64 0, .int .u64 0, .int .i64 0, .int .i64 0, .int .i64 0, .int .i64 0, .int .i64 0, .int .i64 0, .int .i64 0, .int .i64 0, .int .i64 0, .int .i64 0, .int .i64 0, .int .i64 0, .int .u64 0, .int .i64 0, .int .i64 0, .int .i64 0, .int .i64 0, .int .i64 0, .int .i64 0, .int .i64 0, .int .i64 0, .int .i64 0, .int .i64 0, .int .i64 0, .int .i64 0, .int .i64 0, .int .i64 0, .int .i64 0, .int .i64 0, .string b, .int .i64 0] sh.zipIdx 0 31 = fc ∧ fc.size = 33 ∧ ∀ o : Int, fc.setIfInBounds 32 (.int .i64 o) = fileCells (cls b) o b := by
        by_cases h41 : byt b 4 = 1
        · refine ⟨sh32, _, fun w => by rw [h41]; exact shapeOf_1 w, rfl, fold_32 b, rfl, fun o => ?_⟩
          have e : cls b = 32 := by unfold cls; rw [h41]
          rw [e]
          exact file_32 b o
        · have h42 : byt b 4 = 2 := by omega
          refine ⟨sh64, _, fun w => by rw [h42]; exact shapeOf_2 w, rfl, fold_64 b, rfl, fun o => ?_⟩
          have e : cls b = 64 := by unfold cls; rw [h42]
          rw [e]
          exact file_64 b o
      by_cases h5 : byt b 5 ≠ 1 ∧ byt b 5 ≠ 2
      · have e : identE b = 52 := by unfold identE; rw [hT, if_neg (by decide), if_neg h4, if_pos h5]
        exact (identify_52' b w sh fc 0 hM h16 hm hS hA (ne _ 1 h5.1) (ne _ 2 h5.2) hsz hfold hfc).mono fun r w' ⟨h1, h2⟩ => ⟨h2, Or.inr ⟨by rw [e]; decide, by rw [e]; exact h1⟩⟩
      · have hB : ∀ w : World, Calls Tryd.prog 28 #[.int .u8 (byt b 5)] w fun e w' => e = .returned (.int .i64 (ord b)) ∧ w' = w := by
          intro w
          unfold ord
          by_cases h51 : byt b 5 = 1
          · rw [h51]; exact orderOf_1 w
          · have h52 : byt b 5 = 2 := by omega
            rw [h52]; exact orderOf_2 w
        by_cases h6 : byt b 6 = 1
        · have e : identE b = 0 := by unfold identE; rw [hT, if_neg (by decide), if_neg h4, if_neg h5, if_neg (by simpa using h6)]
          refine (identify_ok b w sh fc (ord b) hM h16 hm hS hA hB hsz hfold hfc (by rw [h6]; rfl)).mono fun r w' ⟨k, h1, h2, h3, h4⟩ => ⟨h4, Or.inl ⟨e, k, h1, h2, ?_⟩⟩
          rw [hF] at h3
          exact h3
        · have e : identE b = 53 := by unfold identE; rw [hT, if_neg (by decide), if_neg h4, if_neg h5, if_pos h6]
          exact (identify_53 b w sh fc (ord b) hM h16 hm hS hA hB hsz hfold hfc (ne _ 1 h6)).mono fun r w' ⟨h1, h2⟩ => ⟨h2, Or.inr ⟨by rw [e]; decide, by rw [e]; exact h1⟩⟩
theorem ord_ok (b : ByteArray) (h : identE b = 0) : ord b = 0 ∨ ord b = 1 := by
  unfold identE at h
  unfold ord
  split at h
  · cases h
  split at h
  · cases h
  split at h
  · cases h
  · rename_i h5; omega
theorem cls_ok (b : ByteArray) (h : identE b = 0) : cls b = 32 ∨ cls b = 64 := by
  unfold identE at h
  unfold cls
  split at h
  · cases h
  split at h
  · cases h
  · rename_i h5; omega
theorem size_ok (b : ByteArray) (h : identE b = 0) : 16 ≤ b.size := by
  unfold identE at h
  split at h
  · cases h
  · rename_i h1
    unfold isElf at h1
    simp only [Bool.and_eq_false_iff, decide_eq_false_iff_not, not_or] at h1
    omega
end Go.Proofs.YtoikagccopglkaaDoor
