
-- The landed Message.
import Derived.Test.YtjpoifoejbabiaaJO
import Derived.Test.YtjpoifoejbabiaaLM
import Derived.Test.YtjpoifoejbabiaaRM
import Derived.Deep.RegionHeld3
namespace Go.Proofs.Ytjpoifoejbabiaa
open Go.ChangeShapes Go.WideShapes Go.ChangeAt Go.RowKit
set_option linter.unusedVariables false
set_option maxRecDepth 100000
set_option linter.unusedSimpArgs false
theorem program_c (p : Int) (w : World) :
    Calls Try.prog 21 #[.int .i64 p] w fun e w' => e = .returned (.string (strB (if p = 1 then [114, 97, 110, 108, 105, 98, 58, 32] else [97, 114, 58, 32]))) ∧ w' = w := by
  by_cases hp : p = 1
  · subst hp
    go_enter Try.func21, Try.ntmps21
    go_wp2
    go_ret
    exact ⟨rfl, rfl⟩
  · have hp2 : (p == 1) = false := by simp [hp]
    rw [if_neg hp]
    go_enter Try.func21, Try.ntmps21
    go_wp2
    go_ret
    exact ⟨rfl, rfl⟩
theorem culprit_c (q : ByteArray) (w : World) (hq : q.size ≤ 2097152) :
    Calls Try.prog 22 #[.string q] w fun e w' => e = .returned (.string (strB (if q.size = 0 then [] else QL q ++ [58, 32]))) ∧ Below w.heap.size w w' := by
  obtain ⟨Q, hQ⟩ : ∃ Q, Q = strB (QL q) := ⟨_, rfl⟩
  have HQ : Hid (∀ w, Calls Try.prog 11 #[.string q] w fun e w' => e = .returned (.string Q) ∧ Below w.heap.size w w') := fun w => by rw [hQ]; exact quote_c q w (by omega)
  have hQs : Q.size ≤ 8388610 := by rw [hQ, strB_size]; have := QL_len q; omega
  by_cases hq0 : q.size = 0
  · rw [if_pos hq0]
    obtain rfl := emp_list hq0
    clear hQ
    go_enter Try.func22, Try.ntmps22
    go_wp2
    go_ret
    exact ⟨rfl, Below.refl _ _⟩
  · rw [if_neg hq0]
    have e0 := emp_beq hq0
    have e1 : q.toList.isEmpty = false := by rw [ByteArray.toList_eq]; rw [ByteArray.toList_eq] at e0; cases h : q.data.toList with | nil => rw [h] at e0; cases e0 | cons a r => rfl
    have HF := hidK (show Q ++ ⟨#[58, 32]⟩ = strB (QL q ++ [58, 32]) by rw [hQ, show (⟨#[58, 32]⟩ : ByteArray) = strB [58, 32] from rfl, strB_app])
    have q1 : ¬ (9223372036854775807 < Q.size + 2) := by omega
    clear hQ
    go_enter Try.func22, Try.ntmps22
    go_wp2_with (go_at_call 11; refine (HQ.out _).mono ?_; rintro e w1 ⟨rfl, hb1⟩)
    go_ret
    exact ⟨by rw [← HF.out]; rfl, hb1⟩
set_option maxHeartbeats 4000000 in
theorem Message_ok : MessageOk 9 := by
  intro p q c w hq
  obtain ⟨P, hP⟩ : ∃ P, P = strB (if p = 1 then [114, 97, 110, 108, 105, 98, 58, 32] else [97, 114, 58, 32]) := ⟨_, rfl⟩
  obtain ⟨U, hU⟩ : ∃ U, U = strB (if q.size = 0 then [] else QL q ++ [58, 32]) := ⟨_, rfl⟩
  obtain ⟨E, hE⟩ : ∃ E, E = errW c := ⟨_, rfl⟩
  have HP := hidK (program_c p w)
  have HU := hidK (culprit_c q w hq)
  have HR : Hid (∀ w, Calls Try.prog 8 #[.int .i64 c] w fun e w' => e = .returned (.string E) ∧ Below w.heap.size w w') := fun w => by rw [hE]; exact error_c c w
  have hPs : P.size ≤ 8 := by rw [hP, strB_size]; split <;> simp
  have hUs : U.size ≤ 8388612 := by
    rw [hU, strB_size]
    have := QL_len q
    split
    · simp
    · rw [List.length_append]; simp; omega
  have hEs : E.size ≤ 64 := by rw [hE]; exact errW_size c
  have HL : Hid (∀ (W : World) (b : Nat), W.heap[b]? = some (.cells #[.string P, .string U, .string E] 9 (0, 0)) → Calls Try.prog 20 #[.slice (some ⟨b, 0, none⟩) 3 3] W fun e w' => e = .returned (.string (strB (msgL p q c))) ∧ Below W.heap.size W w') := fun W b hb => by
    have h5 := line_new [P, U, E] 3 rfl w W b hb (by simp) (by simp only [List.flatMap_cons, List.flatMap_nil, List.length_append, lsq_size, List.length_nil]; omega)
    have h6 : [P, U, E].flatMap lsq ++ [10] = msgL p q c := by
      simp only [List.flatMap_cons, List.flatMap_nil, List.append_nil, List.append_assoc]
      unfold msgL
      rw [hP, hU, hE, lsq_strB, lsq_strB]
    rw [h6] at h5
    exact h5
  rw [← hP] at HP
  rw [← hU] at HU
  clear hP hU hE hPs hUs hEs
  go_enter Try.func9, Try.ntmps9
  go_wp2_with (first
    | (go_at_call 21; refine HP.out.mono ?_; rintro e w1 ⟨rfl, rfl⟩)
    | (go_at_call 22; refine HU.out.mono ?_; rintro e w2 ⟨rfl, hb2⟩)
    | (go_at_call 8; refine (HR.out _).mono ?_; rintro e w3 ⟨rfl, hb3⟩)
    | (go_at_call 20; refine (HL.out _ _ (heap_alloc_new _ _)).mono ?_; rintro e w4 ⟨rfl, hb4⟩))
  go_ret
  exact ⟨rfl, bel3K (bupK (bel3K hb2 hb3) _) hb4⟩
end Go.Proofs.Ytjpoifoejbabiaa
