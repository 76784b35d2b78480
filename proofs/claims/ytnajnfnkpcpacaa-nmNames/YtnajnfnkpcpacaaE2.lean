
-- api.Errno's Error.
import Derived.Test.YtnajnfnkpcpacaaE1
namespace Go.Proofs.Ytnajnfnkpcpacaa
open Go.ChangeShapes Go.WideShapes Go.ChangeAt Go.RowKit
set_option linter.unusedVariables false
set_option maxRecDepth 100000
theorem sdL_len (p : Int × ByteArray) : (sdL p).length = 2 := rfl
theorem errW_at {c : Int} {S : List (Int × ByteArray)} (hS : S = said) {k : Nat} {p : Int × ByteArray} (hp : S[k]? = some p) (hc : p.1 = c) (hn : ∀ j q, j < k → S[j]? = some q → q.1 ≠ c) : errW c = p.2 := by
  unfold errW
  rw [← hS]
  have hl := (List.getElem?_eq_some_iff.1 hp).1
  have e : S = S.take k ++ (p :: S.drop (k + 1)) := by
    have h1 := List.take_append_drop k S
    have h2 : S.drop k = p :: S.drop (k + 1) := by rw [List.drop_eq_getElem_cons hl, (List.getElem?_eq_some_iff.1 hp).2]
    rw [h2] at h1; exact h1.symm
  have hnone : (S.take k).find? (fun p => decide (p.1 = c)) = none := by
    rw [List.find?_eq_none]
    intro q hq hqc
    obtain ⟨j, hj⟩ := List.getElem?_of_mem hq
    rw [List.getElem?_take] at hj
    split at hj
    · rename_i hjk
      exact hn j q hjk hj (by simpa using hqc)
    · cases hj
  have hf : S.find? (fun p => decide (p.1 = c)) = some p := by
    rw [e, List.find?_append, hnone]
    simp [hc]
  rw [hf]
theorem errW_no {c : Int} {S : List (Int × ByteArray)} (hS : S = said) (hn : ∀ j q, j < S.length → S[j]? = some q → q.1 ≠ c) : errW c = unkn := by
  unfold errW
  rw [← hS]
  have hnone : S.find? (fun p => decide (p.1 = c)) = none := by
    rw [List.find?_eq_none]
    intro q hq hqc
    obtain ⟨j, hj⟩ := List.getElem?_of_mem hq
    exact hn j q (List.getElem?_eq_some_iff.1 hj).1 hj (by simpa using hqc)
  rw [hnone]
set_option maxHeartbeats 4000000 in
theorem error_c (c : Int) (w : World) : Calls Try.prog 8 #[.int .i64 c] w fun e w' => e = .returned (.string (errW c)) ∧ Below w.heap.size w w' := by
  obtain ⟨S, hS⟩ : ∃ S, S = said := ⟨_, rfl⟩
  have hSL : S.length = 69 := by rw [hS]; rfl
  have HT : Hid (∀ w : World, Calls Try.prog 17 #[] w fun e w' => e = .returned (.slice (some ⟨w.heap.size, 0, none⟩) 69 69) ∧ w' = w.alloc (.cells (S.flatMap sdL).toArray 46)) := by rw [hS]; exact texts_c
  have HS := hidK hS
  have HL := hidK hSL
  clear hS hSL
  go_enter Try.func8, Try.ntmps8
  go_wp2_with (go_at_call 17; refine (HT.out _).mono ?_; rintro e w1 ⟨rfl, rfl⟩)
  go_loopw [7] (fun i wx => ∃ k : Nat, i = .int .i64 k ∧ k ≤ 69 ∧ wx.heap[w.heap.size]? = some (.cells (S.flatMap sdL).toArray 46 (0, 0)) ∧ (∀ j p, j < k → S[j]? = some p → p.1 ≠ c) ∧ Below w.heap.size w wx) (fun i _ => 69 - (intOf i).toNat)
  case atStart => exact ⟨0, rfl, by omega, heap_alloc_new _ _, fun j p hj => absurd hj (by omega), bupK (Below.refl _ _) _⟩
  case round =>
    obtain ⟨k, rfl, hk, hg, hn, hB⟩ := hrel
    have HN := hidK hn
    clear hn HT
    by_cases hkk : k < 69
    · have kI : (k : Int) < 69 := by omega
      have k0 : (0 : Int) ≤ (k : Int) := by omega
      obtain ⟨⟨pc, pt⟩, hp⟩ : ∃ p, S[k]? = some p := ⟨_, List.getElem?_eq_getElem (by rw [HL.out]; exact hkk)⟩
      have x0 := cell_rowK hg (k * 2) (.int .i64 pc) (by rw [List.getElem?_toArray]; exact flatG_get sdL_len S k 0 _ hp (by omega))
      have x1 := cell_rowK hg (k * 2 + 1) (.string pt) (by rw [List.getElem?_toArray]; exact flatG_get sdL_len S k 1 _ hp (by omega))
      have HB1 := hidK (bupK hB (.cells #[.int .i64 pc, .string pt] 46))
      have HG1 := hidK (hupK hg (.cells #[.int .i64 pc, .string pt] 46))
      have HP := hidK hp
      clear hp hg hB
      by_cases hpc : pc = c
      · subst hpc
        go_wp2
        go_ret
        exact ⟨by rw [errW_at HS.out HP.out rfl HN.out]; rfl, HB1.out⟩
      · have q1 : (pc == c) = false := by simp [hpc]
        go_wp2
        go_roundw
        case rel =>
          refine ⟨k + 1, by go_num, by omega, HG1.out, fun j p hj hp => ?_, HB1.out⟩
          by_cases e : j = k
          · subst e
            rw [HP.out] at hp
            injection hp with hp
            rw [← hp]; exact hpc
          · exact HN.out j p (by omega) hp
        case measure => simp [intOf]; omega
    · obtain rfl : k = 69 := by omega
      have HE := hidK (errW_no HS.out (c := c) (by rw [HL.out]; exact HN.out))
      go_wp2
      go_ret
      exact ⟨by rw [HE.out]; rfl, hB⟩
end Go.Proofs.Ytnajnfnkpcpacaa
