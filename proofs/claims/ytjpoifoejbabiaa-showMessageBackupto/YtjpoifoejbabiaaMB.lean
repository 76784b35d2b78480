
-- ShowMessageBack's walk, over any Message that tells so.
import Derived.Test.YtjpoifoejbabiaaPM
import Derived.Test.YtjpoifoejbabiaaRM
namespace Go.Proofs.Ytjpoifoejbabiaa
open Go.ChangeShapes Go.WideShapes Go.ChangeAt Go.RowKit
set_option linter.unusedVariables false
set_option maxRecDepth 100000
set_option linter.unusedSimpArgs false
theorem strB_get (l : List UInt8) (k : Nat) (h : k < (strB l).size) : (strB l)[k] = l[k]'(by rw [strB_size] at h; exact h) := by
  show (strB l).data[k]'h = _
  simp [strB]
theorem take_getM {α : Type} {l : List α} {m j : Nat} {x : α} (h : (l.take m)[j]? = some x) : l[j]? = some x := by
  rw [List.getElem?_take] at h
  split at h
  · exact h
  · cases h
set_option maxHeartbeats 8000000 in
theorem showMessageBack_w (HP0 : MessageOk 9) (p : Int) (q : ByteArray) (c : Int) (w : World) (hq : q.size ≤ 1048576) :
    Calls Try.prog 4 #[.int .i64 p, .string q, .int .i64 c] w fun e w' => e = .returned (.bool true) ∧ Below w.heap.size w w' := by
  obtain ⟨S, hS⟩ : ∃ S, S = strB (msgL p q c) := ⟨_, rfl⟩
  obtain ⟨E, hE⟩ : ∃ E, E = errW c := ⟨_, rfl⟩
  obtain ⟨R, hR⟩ : ∃ R, E ++ ⟨#[10]⟩ = R := ⟨_, rfl⟩
  obtain ⟨Q, hQ⟩ : ∃ Q, Q = strB (QL q) := ⟨_, rfl⟩
  obtain ⟨N, hN⟩ : ∃ N, N = (msgP p q).length := ⟨_, rfl⟩
  obtain ⟨more, hmw, hmore⟩ := msg_words p q c
  have HP : Hid (∀ w, Calls Try.prog 9 #[.int .i64 p, .string q, .int .i64 c] w fun e w' => e = .returned (.string S) ∧ Below w.heap.size w w') := fun w => by rw [hS]; exact HP0 p q c w (by omega)
  have HR : Hid (∀ w, Calls Try.prog 8 #[.int .i64 c] w fun e w' => e = .returned (.string E) ∧ Below w.heap.size w w') := fun w => by rw [hE]; exact error_c c w
  have HQ : Hid (∀ w, Calls Try.prog 11 #[.string q] w fun e w' => e = .returned (.string Q) ∧ Below w.heap.size w w') := fun w => by rw [hQ]; exact quote_c q w (by omega)
  have hEs : E.size ≤ 64 := by rw [hE]; exact errW_size c
  have hEl : (lsq E).length = E.size := lsq_size E
  have hRs : R.size = E.size + 1 := by rw [← hR, ByteArray.size_append]; rfl
  have hQl := QL_len q
  have hQz : Q.size = (QL q).length := by rw [hQ, strB_size]
  have hNl : N = (firstW p).size + 1 + (if q.size = 0 then 0 else (QL q).length + 2) := by rw [hN]; exact msgP_len p q
  have hfz : (firstW p).size ≤ 7 := by unfold firstW; split <;> decide
  have hSz : S.size = N + (E.size + 1) := by rw [hS, strB_size, msg_parts, List.length_append, List.length_append, hN, ← hE, hEl]; rfl
  have hNb : N ≤ 8388608 := by
    rw [hNl]; split <;> omega
  have hsl : S.extract N S.size = R := by
    rw [hSz, extq, hS, lsq_strB, msg_parts, hN, List.drop_left, List.take_of_length_le (by rw [List.length_append, ← hE, hEl]; exact Nat.le_refl _), ← strB_app, strB_lsq, ← hE]
    exact hR
  have HI : Hid (∀ k (h : k + 1 < S.size), ((((S[k]'(by omega)).toNat : Nat) : Int) == 10) = false) := by
    intro k h
    have h1 : k < (msgP p q ++ lsq (errW c)).length := by rw [List.length_append, ← hE, hEl, ← hN]; omega
    have h2 : S[k]'(by omega) = (msgP p q ++ lsq (errW c))[k] := by
      have e : msgL p q c = (msgP p q ++ lsq (errW c)) ++ [10] := by rw [msg_parts, List.append_assoc]
      subst hS
      rw [strB_get]
      simp only [e]
      rw [List.getElem_append_left h1]
    have h3 := msg_nonl p q c _ (List.getElem_mem h1)
    rw [h2]
    refine beq_eq_false_iff_ne.2 fun e => h3 ?_
    apply UInt8.toNat_inj.1
    have : ((msgP p q ++ lsq (errW c))[k]).toNat = 10 := by omega
    rw [this]; rfl
  have HW : Hid (∀ w, Calls Try.prog 10 #[.string S] w fun e w' => Below w.heap.size w w' ∧ ∃ g m cap, e = .returned (.tuple #[.slice (some ⟨g, 0, none⟩) m cap, .int .i64 0, .int .i64 0]) ∧ 2 ≤ m ∧ w'.cell? ⟨g, 0, none⟩ = some (.string (firstW p)) ∧ (q.size ≠ 0 → w'.cell? ⟨g, 1, none⟩ = some (.string (strB (lsq q ++ [58]))))) := by
    intro w
    refine (words_c S w (by omega)).mono ?_
    rintro e w' ⟨hb, hg⟩
    have e1 : wordsL (lst S) = .inr (firstW p :: ((if q.size = 0 then [] else [strB (lsq q ++ [58])]) ++ more)) := by
      rw [← hmw, hS]
      first | rfl | (congr 1; simp [lst, strB])
    rw [e1] at hg
    obtain ⟨v, rfl, ho⟩ := hg
    refine ⟨hb, ?_⟩
    obtain ⟨a, r, hm1⟩ : ∃ a r, more = a :: r := by
      cases more with
      | nil => exact absurd rfl hmore
      | cons a r => exact ⟨a, r, rfl⟩
    rcases ho.2 with ⟨_, q0⟩ | ⟨g, cap, cur, rfl, hg1, hg2, hg3, hg4, hg5, hg6⟩
    · simp at q0
    · refine ⟨g, _, cap, rfl, ?_, ?_, ?_⟩
      · rw [hm1]; simp only [List.length_cons, List.length_append]; omega
      · refine cell_rowK hg2 0 _ ?_
        have h6 := take_getM (j := 0) (x := Value.string (firstW p)) (by rw [hg6]; rfl)
        simpa using h6
      · intro hq0
        refine cell_rowK hg2 1 _ ?_
        have h6 := take_getM (j := 1) (x := Value.string (strB (lsq q ++ [58]))) (by rw [hg6, if_neg hq0]; rfl)
        simpa using h6
  have HNL := hidK hNl
  have hN1 : (N : Int) ≤ (S.size : Int) := by omega
  have hN2 : ¬ ((N : Int) < 0) := by omega
  have hN3 : decide ((N : Int) < 0) = false := by simp
  have hw : IntKind.i64.wrap ((S.size : Int) - (R.size : Int)) = (N : Int) := by rw [IntKind.wrap_i64]; omega
  have hN4 : N ≤ S.size := by omega
  have hN5 : (0 : Int) ≤ (N : Int) := by omega
  have HSZ := hidK hSz
  have hRb : R.size ≤ 65 := by omega
  have hSb : S.size ≤ 8388800 := by omega
  have hEb : E.size + 1 ≤ 65 := by omega
  have HRS := hidK hRs
  clear hNl hmw hmore hS hE hQ hN hEl HP0 hSz hRs
  go_enter Try.func4, Try.ntmps4
  go_upto_region 2 with (go_at_call 9; refine (HP.out _).mono ?_; rintro e w1 ⟨rfl, hb1⟩)
  go_upto_region 3 with (go_at_call 10; refine (HW.out _).mono ?_; rintro e w2 ⟨hb2, g, m, cap, rfl, hm2, hc0, hc1⟩)
  have m2 : ¬ ((m : Int) < 2) := by omega
  have m3 : decide ((m : Int) < 2) = false := by simp; omega
  have m4 : (0 : Int) < (m : Int) := by omega
  have m5 : (1 : Int) < (m : Int) := by omega
  go_upto_region 4 with (go_at_call 8; refine (HR.out _).mono ?_; rintro e w3 ⟨rfl, hb3⟩)
  have HC0 := hidK (cell_onG hc0 hb3)
  have HC1 := hidK (fun h => cell_onG (hc1 h) hb3)
  clear hc0 hc1
  go_upto_region 7 with fail
  go_wp2
  go_loopw [13] (fun i wx => ∃ k : Nat, i = .int .i64 k ∧ k + 1 ≤ S.size ∧ Below w3.heap.size w3 wx) (fun i _ => S.size - (intOf i).toNat)
  case atStart => exact ⟨0, rfl, by have := HSZ.out; omega, Below.refl _ _⟩
  case round =>
    obtain ⟨k, rfl, hk1, hB⟩ := hrel
    have kw : IntKind.i64.wrap ((k : Int) + 1) = (k : Int) + 1 := by rw [IntKind.wrap_i64]; omega
    by_cases hk : k + 1 < S.size
    · have kI : (k : Int) + 1 < (S.size : Int) := by omega
      have kI2 : (k : Int) < (S.size : Int) := by omega
      have k0 : (0 : Int) ≤ (k : Int) := by omega
      have hix := idx S k (by omega)
      have hne := HI.out k hk
      clear hsl HC0 HC1
      go_wp2
      go_roundw
      case rel => exact ⟨k + 1, by go_num, by omega, hB⟩
      case measure => simp [intOf]; omega
    · have kI : ¬ ((k : Int) + 1 < (S.size : Int)) := by omega
      have c0 := cell_onG HC0.out hB
      have hNL := HNL.out
      by_cases hp : p = 1
      · subst hp
        have hf1 : firstW 1 = ⟨#[114, 97, 110, 108, 105, 98, 58]⟩ := rfl
        rw [hf1] at c0 hNL
        have hz7 : (⟨#[114, 97, 110, 108, 105, 98, 58]⟩ : ByteArray).size = 7 := rfl
        rw [hz7] at hNL
        by_cases hq0 : q.size = 0
        · rw [if_pos hq0] at hNL
          obtain rfl := emp_list hq0
          have hN8 : N = 8 := by omega
          clear hNL
          subst hN8
          clear hsl HC1
          go_wp2
          go_ret
          exact ⟨by simp, bel3K (bel3K (bel3K hb1 hb2) hb3) hB⟩
        · have c1 := cell_onG (HC1.out hq0) hB
          rw [if_neg hq0] at hNL
          have e0 := emp_beq hq0
          have e1 : q.toList.isEmpty = false := by rw [ByteArray.toList_eq]; rw [ByteArray.toList_eq] at e0; cases h : q.data.toList with | nil => rw [h] at e0; cases e0 | cons a r => rfl
          have hqz : (q ++ ⟨#[58]⟩ : ByteArray).size = q.size + 1 := by rw [ByteArray.size_append]; rfl
          have hqe : q ++ ⟨#[58]⟩ = strB (lsq q ++ [58]) := by rw [← strB_app, strB_lsq]; rfl
          rw [← hqe] at c1
          have g1 : IntKind.i64.wrap (8 + (Q.size : Int)) = 8 + (Q.size : Int) := by rw [IntKind.wrap_i64]; omega
          have g2 : IntKind.i64.wrap (8 + (Q.size : Int) + 2) = (N : Int) := by rw [IntKind.wrap_i64]; omega
          have HNL2 := hidK hNL
          clear hsl HC1 hqe hNL
          go_wp2_with (go_at_call 11; refine (HQ.out _).mono ?_; rintro e w5 ⟨rfl, hb5⟩)
          go_ret
          exact ⟨by first | (simp; done) | (simp; have := HNL2.out; omega), bel3K (bel3K (bel3K (bel3K hb1 hb2) hb3) hB) hb5⟩
      · have hf1 : firstW p = ⟨#[97, 114, 58]⟩ := by unfold firstW; exact if_neg hp
        rw [hf1] at c0 hNL
        have hz3 : (⟨#[97, 114, 58]⟩ : ByteArray).size = 3 := rfl
        rw [hz3] at hNL
        have hp2 : (p == 1) = false := by simp [hp]
        by_cases hq0 : q.size = 0
        · rw [if_pos hq0] at hNL
          obtain rfl := emp_list hq0
          have hN8 : N = 4 := by omega
          clear hNL
          subst hN8
          clear hsl HC1
          go_wp2
          go_ret
          exact ⟨by simp, bel3K (bel3K (bel3K hb1 hb2) hb3) hB⟩
        · have c1 := cell_onG (HC1.out hq0) hB
          rw [if_neg hq0] at hNL
          have e0 := emp_beq hq0
          have e1 : q.toList.isEmpty = false := by rw [ByteArray.toList_eq]; rw [ByteArray.toList_eq] at e0; cases h : q.data.toList with | nil => rw [h] at e0; cases e0 | cons a r => rfl
          have hqz : (q ++ ⟨#[58]⟩ : ByteArray).size = q.size + 1 := by rw [ByteArray.size_append]; rfl
          have hqe : q ++ ⟨#[58]⟩ = strB (lsq q ++ [58]) := by rw [← strB_app, strB_lsq]; rfl
          rw [← hqe] at c1
          have g1 : IntKind.i64.wrap (4 + (Q.size : Int)) = 4 + (Q.size : Int) := by rw [IntKind.wrap_i64]; omega
          have g2 : IntKind.i64.wrap (4 + (Q.size : Int) + 2) = (N : Int) := by rw [IntKind.wrap_i64]; omega
          have HNL2 := hidK hNL
          clear hsl HC1 hqe hNL
          go_wp2_with (go_at_call 11; refine (HQ.out _).mono ?_; rintro e w5 ⟨rfl, hb5⟩)
          go_ret
          exact ⟨by first | (simp; done) | (simp; have := HNL2.out; omega), bel3K (bel3K (bel3K (bel3K hb1 hb2) hb3) hB) hb5⟩
end Go.Proofs.Ytjpoifoejbabiaa
