
-- Plain: a message, read back.
import Derived.Test.YtjpoifoejbabiaaLM
import Derived.Test.YtjpoifoejbabiaaPQ
import Derived.Test.YtjpoifoejbabiaaW4
namespace Go.Proofs.Ytjpoifoejbabiaa
open Go
set_option linter.unusedVariables false
set_option maxRecDepth 100000
set_option linter.unusedSimpArgs false
/-- bytes without quotes and escapes are read as words, never refused -/
theorem scan_clean (l : List UInt8) (hl : ∀ c ∈ l, c ≠ 92 ∧ c ≠ 34) : ∀ (pos : Nat) (inn : Bool) (wd : List UInt8) (ws : List ByteArray), ∃ more, scanL l pos none inn wd ws = .inr (ws ++ more) ∧ (inn = true → more ≠ []) := by
  induction l with
  | nil =>
    intro pos inn wd ws
    rw [scan_nil]
    cases inn with
    | false => exact ⟨[], by simp [endW], fun h => by cases h⟩
    | true => exact ⟨[strB wd], by simp [endW], fun _ => by simp⟩
  | cons c r ih =>
    intro pos inn wd ws
    obtain ⟨h1, h2⟩ := hl c (by simp)
    have ihr := ih (fun d hd => hl d (by simp [hd]))
    by_cases hp : partsB c = true
    · rw [scan_part r pos inn wd ws hp]
      obtain ⟨more, e, _⟩ := ihr (pos + 1) false [] (endW inn wd ws)
      rw [e]
      cases inn with
      | false => exact ⟨more, by simp [endW], fun h => by cases h⟩
      | true => exact ⟨strB wd :: more, by simp [endW], fun _ => by simp⟩
    · rw [scan_byte r pos none inn wd ws (fun h => hp h.1) h1 h2]
      obtain ⟨more, e, hm⟩ := ihr (pos + 1) true (wd ++ [c]) ws
      exact ⟨more, e, fun _ => hm rfl⟩
def cleanW (s : ByteArray) : Bool := (lsq s).all (fun c => c != 92 && c != 34 && c != 10) && (match lsq s with | [] => false | c :: _ => !partsB c)
theorem said_clean : (said.all (fun p => cleanW p.2) && cleanW unkn) = true := by decide
theorem errW_clean (c : Int) : cleanW (errW c) = true := by
  have h := said_clean
  rw [Bool.and_eq_true, List.all_eq_true] at h
  unfold errW
  cases hf : said.find? (fun p => decide (p.1 = c)) with
  | none => exact h.2
  | some p => exact h.1 p (List.mem_of_find?_eq_some hf)
theorem errW_bytes (c : Int) : ∀ x ∈ lsq (errW c), x ≠ 92 ∧ x ≠ 34 ∧ x ≠ 10 := by
  have h := errW_clean c
  unfold cleanW at h
  rw [Bool.and_eq_true, List.all_eq_true] at h
  intro x hx
  have := h.1 x hx
  simp at this
  exact ⟨this.1.1, this.1.2, this.2⟩
theorem errW_head (c : Int) : ∃ x r, lsq (errW c) = x :: r ∧ partsB x = false := by
  have h := errW_clean c
  unfold cleanW at h
  rw [Bool.and_eq_true] at h
  cases hl : lsq (errW c) with
  | nil => rw [hl] at h; simp at h
  | cons x r => rw [hl] at h; exact ⟨x, r, rfl, by simpa using h.2⟩
theorem scan_err (c : Int) (pos : Nat) (ws : List ByteArray) : ∃ more, scanL (lsq (errW c) ++ [10]) pos none false [] ws = .inr (ws ++ more) ∧ more ≠ [] := by
  obtain ⟨x, r, e, hx⟩ := errW_head c
  have hb := errW_bytes c
  rw [e, List.cons_append, scan_in x (r ++ [10]) pos ws hx]
  obtain ⟨more, h1, h2⟩ := scan_clean (x :: (r ++ [10])) (by
    intro d hd
    rw [← List.cons_append, List.mem_append] at hd
    rcases hd with hd | hd
    · rw [← e] at hd; exact ⟨(hb d hd).1, (hb d hd).2.1⟩
    · simp at hd; subst hd; decide) pos true [] ws
  exact ⟨more, h1, h2 rfl⟩
def firstW (p : Int) : ByteArray := if p = 1 then ⟨#[114, 97, 110, 108, 105, 98, 58]⟩ else ⟨#[97, 114, 58]⟩
theorem scan_first (l rest : List UInt8) (hl : l ≠ []) (hb : ∀ c ∈ l, c ≠ 92 ∧ c ≠ 34 ∧ partsB c = false) : ∃ pos, scanL (l ++ 32 :: rest) 0 none false [] [] = scanL rest pos none false [] [strB l] := by
  cases l with
  | nil => exact absurd rfl hl
  | cons c r =>
    refine ⟨0 + (c :: r).length + 1, ?_⟩
    rw [List.cons_append, scan_in _ _ _ _ (hb c (by simp)).2.2, ← List.cons_append, scan_bares _ _ hb, scan_part _ _ _ _ _ (by decide)]
    simp [endW]
theorem msg_first (p : Int) (q : ByteArray) (c : Int) : ∃ pos, wordsL (msgL p q c) = scanL ((if q.size = 0 then [] else QL q ++ [58, 32]) ++ (lsq (errW c) ++ [10])) pos none false [] [firstW p] := by
  unfold wordsL msgL firstW
  by_cases hp : p = 1
  · rw [if_pos hp, if_pos hp]
    exact scan_first [114, 97, 110, 108, 105, 98, 58] _ (by simp) (by decide)
  · rw [if_neg hp, if_neg hp]
    exact scan_first [97, 114, 58] _ (by simp) (by decide)
theorem msg_words (p : Int) (q : ByteArray) (c : Int) : ∃ more, wordsL (msgL p q c) = .inr (firstW p :: ((if q.size = 0 then [] else [strB (lsq q ++ [58])]) ++ more)) ∧ more ≠ [] := by
  obtain ⟨pos, e⟩ := msg_first p q c
  rw [e]
  by_cases hq : q.size = 0
  · rw [if_pos hq, if_pos hq, List.nil_append]
    obtain ⟨more, h1, h2⟩ := scan_err c pos [firstW p]
    exact ⟨more, by rw [h1]; rfl, h2⟩
  · rw [if_neg hq, if_neg hq, List.append_assoc]
    unfold QL
    rw [scan_quoteL, List.cons_append, List.cons_append, List.nil_append, scan_byte _ _ _ _ _ _ (by simp [partsB]) (by decide) (by decide), scan_part _ _ _ _ _ (by decide)]
    obtain ⟨more, h1, h2⟩ := scan_err c (pos + (quoteL (lsq q)).length + 1 + 1) (endW true (lsq q ++ [58]) [firstW p])
    exact ⟨more, by rw [h1]; rfl, h2⟩
/-- the message ahead of its reason -/
def msgP (p : Int) (q : ByteArray) : List UInt8 := (if p = 1 then [114, 97, 110, 108, 105, 98, 58, 32] else [97, 114, 58, 32]) ++ (if q.size = 0 then [] else QL q ++ [58, 32])
theorem msg_parts (p : Int) (q : ByteArray) (c : Int) : msgL p q c = msgP p q ++ (lsq (errW c) ++ [10]) := by unfold msgL msgP; rw [List.append_assoc]
theorem msgP_len (p : Int) (q : ByteArray) : (msgP p q).length = (firstW p).size + 1 + (if q.size = 0 then 0 else (QL q).length + 2) := by
  unfold msgP firstW
  by_cases hp : p = 1
  · rw [if_pos hp, if_pos hp, List.length_append]
    have : (⟨#[114, 97, 110, 108, 105, 98, 58]⟩ : ByteArray).size = 7 := rfl
    rw [this]
    split <;> simp
  · rw [if_neg hp, if_neg hp, List.length_append]
    have : (⟨#[97, 114, 58]⟩ : ByteArray).size = 3 := rfl
    rw [this]
    split <;> simp
theorem msg_nonl (p : Int) (q : ByteArray) (c : Int) : ∀ x ∈ msgP p q ++ lsq (errW c), x ≠ 10 := by
  intro x hx
  rw [List.mem_append] at hx
  rcases hx with hx | hx
  · unfold msgP at hx
    rw [List.mem_append] at hx
    rcases hx with hx | hx
    · split at hx
      · simp at hx; rcases hx with rfl | rfl | rfl | rfl | rfl | rfl | rfl | rfl <;> decide
      · simp at hx; rcases hx with rfl | rfl | rfl | rfl <;> decide
    · split at hx
      · cases hx
      · rw [List.mem_append] at hx
        rcases hx with hx | hx
        · intro e; have := quote_ge (lsq q) x hx; rw [e] at this; exact absurd this (by decide)
        · simp at hx; rcases hx with rfl | rfl <;> decide
  · exact (errW_bytes c x hx).2.2
end Go.Proofs.Ytjpoifoejbabiaa
