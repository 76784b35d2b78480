
-- The document's Message.
import Derived.Test.YtjpoifoejbabiaaPS
import Derived.Test.YtjpoifoejbabiaaE2
namespace Go.Proofs.Ytjpoifoejbabiaa
open Go.ChangeShapes Go.WideShapes Go.ChangeAt Go.RowKit
set_option linter.unusedVariables false
set_option maxRecDepth 100000
set_option linter.unusedSimpArgs false
theorem errW_size (c : Int) : (errW c).size ≤ 64 := by
  have h : ∀ p ∈ said, p.2.size ≤ 64 := by decide
  unfold errW
  cases hf : said.find? (fun p => decide (p.1 = c)) with
  | none => decide
  | some p => exact h p (List.mem_of_find?_eq_some hf)
theorem emp_list {q : ByteArray} (h : q.size = 0) : q = ⟨#[]⟩ := by
  apply ByteArray.ext
  have h2 : q.data.size = 0 := h
  exact Array.eq_empty_of_size_eq_zero h2
theorem emp_beq {q : ByteArray} (h : q.size ≠ 0) : (q.toList == []) = false := by
  rw [ByteArray.toList_eq]
  have h2 : q.data.toList.length ≠ 0 := by simpa using h
  cases hl : q.data.toList with
  | nil => rw [hl] at h2; exact absurd rfl h2
  | cons a r => rfl
theorem lsq_emp : lsq ⟨#[]⟩ = [] := rfl
set_option maxHeartbeats 4000000 in
theorem rmsg_c (p : Int) (q : ByteArray) (c : Int) (w : World) (hq : q.size ≤ 2097152) :
    Calls Try.prog 14 #[.int .i64 p, .string q, .int .i64 c] w fun e w' => e = .returned (.string (strB (msgL p q c))) ∧ Below w.heap.size w w' := by
  obtain ⟨Q, hQ⟩ : ∃ Q, Q = strB (QL q) := ⟨_, rfl⟩
  obtain ⟨E, hE⟩ : ∃ E, E = errW c := ⟨_, rfl⟩
  have HQ : Hid (∀ w, Calls Try.prog 32 #[.string q] w fun e w' => e = .returned (.string Q) ∧ Below w.heap.size w w') := fun w => by rw [hQ]; exact rquote_c q w (by omega)
  have HR : Hid (∀ w, Calls Try.prog 8 #[.int .i64 c] w fun e w' => e = .returned (.string E) ∧ Below w.heap.size w w') := fun w => by rw [hE]; exact error_c c w
  have hQs : Q.size ≤ 8388610 := by rw [hQ, strB_size]; have := QL_len q; omega
  have hEs : E.size ≤ 64 := by rw [hE]; exact errW_size c
  by_cases hq0 : q.size = 0
  · obtain rfl := emp_list hq0
    by_cases hp : p = 1
    · have c1 : ((⟨#[114, 97, 110, 108, 105, 98, 58, 32]⟩ : ByteArray) ++ E).size = 8 + E.size := by rw [ByteArray.size_append]; rfl
      have c2 : (((⟨#[114, 97, 110, 108, 105, 98, 58, 32]⟩ : ByteArray) ++ E) ++ ⟨#[10]⟩).size = 8 + E.size + 1 := by rw [ByteArray.size_append, c1]; rfl
      have HF := hidK (show ((⟨#[114, 97, 110, 108, 105, 98, 58, 32]⟩ : ByteArray) ++ E) ++ ⟨#[10]⟩ = strB (msgL p ⟨#[]⟩ c) by rw [hE, ← strB_lsq (errW c), show (⟨#[114, 97, 110, 108, 105, 98, 58, 32]⟩ : ByteArray) = strB [114, 97, 110, 108, 105, 98, 58, 32] from rfl, show (⟨#[10]⟩ : ByteArray) = strB [10] from rfl, strB_app, strB_app]; unfold msgL; rw [if_pos hp, if_pos hq0]; simp only [List.append_assoc, List.nil_append])
      subst hp
      clear hE hQ
      go_enter Try.func14, Try.ntmps14
      go_wp2_with (first | (go_at_call 32; refine (HQ.out _).mono ?_; rintro e w1 ⟨rfl, hb1⟩) | (go_at_call 8; refine (HR.out _).mono ?_; rintro e w2 ⟨rfl, hb2⟩))
      go_ret
      exact ⟨by rw [← HF.out]; rfl, by first | exact bel3K hb1 hb2 | exact hb2⟩
    · have c1 : ((⟨#[97, 114, 58, 32]⟩ : ByteArray) ++ E).size = 4 + E.size := by rw [ByteArray.size_append]; rfl
      have c2 : (((⟨#[97, 114, 58, 32]⟩ : ByteArray) ++ E) ++ ⟨#[10]⟩).size = 4 + E.size + 1 := by rw [ByteArray.size_append, c1]; rfl
      have HF := hidK (show ((⟨#[97, 114, 58, 32]⟩ : ByteArray) ++ E) ++ ⟨#[10]⟩ = strB (msgL p ⟨#[]⟩ c) by rw [hE, ← strB_lsq (errW c), show (⟨#[97, 114, 58, 32]⟩ : ByteArray) = strB [97, 114, 58, 32] from rfl, show (⟨#[10]⟩ : ByteArray) = strB [10] from rfl, strB_app, strB_app]; unfold msgL; rw [if_neg hp, if_pos hq0]; simp only [List.append_assoc, List.nil_append])
      have hp2 : (p == 1) = false := by simp [hp]
      clear hE hQ
      go_enter Try.func14, Try.ntmps14
      go_wp2_with (first | (go_at_call 32; refine (HQ.out _).mono ?_; rintro e w1 ⟨rfl, hb1⟩) | (go_at_call 8; refine (HR.out _).mono ?_; rintro e w2 ⟨rfl, hb2⟩))
      go_ret
      exact ⟨by rw [← HF.out]; rfl, by first | exact bel3K hb1 hb2 | exact hb2⟩
  · have e0 := emp_beq hq0
    have e1 : q.toList.isEmpty = false := by rw [ByteArray.toList_eq]; rw [ByteArray.toList_eq] at e0; cases h : q.data.toList with | nil => rw [h] at e0; cases e0 | cons a r => rfl
    by_cases hp : p = 1
    · have c1 : ((⟨#[114, 97, 110, 108, 105, 98, 58, 32]⟩ : ByteArray) ++ Q).size = 8 + Q.size := by rw [ByteArray.size_append]; rfl
      have c2 : (((⟨#[114, 97, 110, 108, 105, 98, 58, 32]⟩ : ByteArray) ++ Q) ++ ⟨#[58, 32]⟩).size = 8 + Q.size + 2 := by rw [ByteArray.size_append, c1]; rfl
      have c3 : ((((⟨#[114, 97, 110, 108, 105, 98, 58, 32]⟩ : ByteArray) ++ Q) ++ ⟨#[58, 32]⟩) ++ E).size = 8 + Q.size + 2 + E.size := by rw [ByteArray.size_append, c2]
      have c4 : (((((⟨#[114, 97, 110, 108, 105, 98, 58, 32]⟩ : ByteArray) ++ Q) ++ ⟨#[58, 32]⟩) ++ E) ++ ⟨#[10]⟩).size = 8 + Q.size + 2 + E.size + 1 := by rw [ByteArray.size_append, c3]; rfl
      have HF := hidK (show ((((⟨#[114, 97, 110, 108, 105, 98, 58, 32]⟩ : ByteArray) ++ Q) ++ ⟨#[58, 32]⟩) ++ E) ++ ⟨#[10]⟩ = strB (msgL p q c) by rw [hE, hQ, ← strB_lsq (errW c), show (⟨#[114, 97, 110, 108, 105, 98, 58, 32]⟩ : ByteArray) = strB [114, 97, 110, 108, 105, 98, 58, 32] from rfl, show (⟨#[10]⟩ : ByteArray) = strB [10] from rfl, show (⟨#[58, 32]⟩ : ByteArray) = strB [58, 32] from rfl, strB_app, strB_app, strB_app, strB_app]; unfold msgL; rw [if_pos hp, if_neg hq0]; simp only [List.append_assoc])
      subst hp
      clear hE hQ
      go_enter Try.func14, Try.ntmps14
      go_wp2_with (first | (go_at_call 32; refine (HQ.out _).mono ?_; rintro e w1 ⟨rfl, hb1⟩) | (go_at_call 8; refine (HR.out _).mono ?_; rintro e w2 ⟨rfl, hb2⟩))
      go_ret
      exact ⟨by rw [← HF.out]; rfl, by first | exact bel3K hb1 hb2 | exact hb2⟩
    · have c1 : ((⟨#[97, 114, 58, 32]⟩ : ByteArray) ++ Q).size = 4 + Q.size := by rw [ByteArray.size_append]; rfl
      have c2 : (((⟨#[97, 114, 58, 32]⟩ : ByteArray) ++ Q) ++ ⟨#[58, 32]⟩).size = 4 + Q.size + 2 := by rw [ByteArray.size_append, c1]; rfl
      have c3 : ((((⟨#[97, 114, 58, 32]⟩ : ByteArray) ++ Q) ++ ⟨#[58, 32]⟩) ++ E).size = 4 + Q.size + 2 + E.size := by rw [ByteArray.size_append, c2]
      have c4 : (((((⟨#[97, 114, 58, 32]⟩ : ByteArray) ++ Q) ++ ⟨#[58, 32]⟩) ++ E) ++ ⟨#[10]⟩).size = 4 + Q.size + 2 + E.size + 1 := by rw [ByteArray.size_append, c3]; rfl
      have HF := hidK (show ((((⟨#[97, 114, 58, 32]⟩ : ByteArray) ++ Q) ++ ⟨#[58, 32]⟩) ++ E) ++ ⟨#[10]⟩ = strB (msgL p q c) by rw [hE, hQ, ← strB_lsq (errW c), show (⟨#[97, 114, 58, 32]⟩ : ByteArray) = strB [97, 114, 58, 32] from rfl, show (⟨#[10]⟩ : ByteArray) = strB [10] from rfl, show (⟨#[58, 32]⟩ : ByteArray) = strB [58, 32] from rfl, strB_app, strB_app, strB_app, strB_app]; unfold msgL; rw [if_neg hp, if_neg hq0]; simp only [List.append_assoc])
      have hp2 : (p == 1) = false := by simp [hp]
      clear hE hQ
      go_enter Try.func14, Try.ntmps14
      go_wp2_with (first | (go_at_call 32; refine (HQ.out _).mono ?_; rintro e w1 ⟨rfl, hb1⟩) | (go_at_call 8; refine (HR.out _).mono ?_; rintro e w2 ⟨rfl, hb2⟩))
      go_ret
      exact ⟨by rw [← HF.out]; rfl, by first | exact bel3K hb1 hb2 | exact hb2⟩
end Go.Proofs.Ytjpoifoejbabiaa
