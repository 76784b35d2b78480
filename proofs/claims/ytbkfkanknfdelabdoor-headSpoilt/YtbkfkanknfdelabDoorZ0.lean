
-- Plain mathematics: one column changed.
import Derived.Test.YtbkfkanknfdelabDoorO2
import Derived.Test.YtbkfkanknfdelabDoorX7
namespace Go.Proofs.YtbkfkanknfdelabDoor
set_option linter.unusedVariables false
set_option maxRecDepth 100000

theorem fld_get (L : List UInt8) (a n j : Nat) : (fld L a n)[j]? = if j < n then L[a + j]? else none := by
  unfold fld
  rw [List.getElem?_take, List.getElem?_drop]
theorem fld_set (L : List UInt8) (i : Nat) (c : UInt8) (a n : Nat) (h : i < a ∨ a + n ≤ i) : fld (L.set i c) a n = fld L a n := by
  apply List.ext_getElem?
  intro j
  rw [fld_get, fld_get]
  by_cases hj : j < n
  · rw [if_pos hj, if_pos hj, List.getElem?_set_ne (by omega)]
  · rw [if_neg hj, if_neg hj]
theorem fld_at (L : List UInt8) (i : Nat) (c : UInt8) (a n : Nat) (h1 : a ≤ i) (h2 : i < a + n) (hl : i < L.length) : (fld (L.set i c) a n)[i - a]? = some c := by
  rw [fld_get, if_pos (by omega), show a + (i - a) = i from by omega, List.getElem?_set_self hl]
theorem wf_of {n : Int} (h0 : -9223372036854775808 ≤ n) (h1 : n ≤ 9223372036854775807) : (Lit.int .i64 n).wf = true := by
  simp [Lit.wf]
  exact ⟨h0, h1⟩
theorem rd_le (B : Nat) (l : List UInt8) : (rd B l).1 ≤ 9223372036854775807 := by
  unfold rd
  split
  · split
    · assumption
    · exact Nat.zero_le _
  · exact Nat.zero_le _
theorem hdOf_ok (H : List UInt8) (hl : H.length = 60) : HdOk (hdOf H) := by
  have t := trimN_len (fld H 0 16)
  rw [fld_len H 0 16 (by omega)] at t
  have r1 := rd_le 10 (fld H 16 12)
  have r2 := rd_le 10 (fld H 28 6)
  have r3 := rd_le 10 (fld H 34 6)
  have r4 := rd_le 8 (fld H 40 8)
  have r5 := rd_le 10 (fld H 48 10)
  refine ⟨wf_of ?_ ?_, wf_of ?_ ?_, wf_of ?_ ?_, wf_of ?_ ?_, wf_of ?_ ?_, ?_⟩
  · show (-9223372036854775808 : Int) ≤ ((rd 10 (fld H 16 12)).1 : Int); omega
  · show ((rd 10 (fld H 16 12)).1 : Int) ≤ 9223372036854775807; omega
  · show (-9223372036854775808 : Int) ≤ ((rd 10 (fld H 28 6)).1 : Int); omega
  · show ((rd 10 (fld H 28 6)).1 : Int) ≤ 9223372036854775807; omega
  · show (-9223372036854775808 : Int) ≤ ((rd 10 (fld H 34 6)).1 : Int); omega
  · show ((rd 10 (fld H 34 6)).1 : Int) ≤ 9223372036854775807; omega
  · show (-9223372036854775808 : Int) ≤ ((rd 8 (fld H 40 8)).1 : Int); omega
  · show ((rd 8 (fld H 40 8)).1 : Int) ≤ 9223372036854775807; omega
  · show (-9223372036854775808 : Int) ≤ ((rd 10 (fld H 48 10)).1 : Int); omega
  · show ((rd 10 (fld H 48 10)).1 : Int) ≤ 9223372036854775807; omega
  · show (strL (trimN (fld H 0 16))).size ≤ maxLen
    rw [strL_size]; unfold maxLen; omega
theorem form_num (h : Hd) (hI : HdIn h) (hn : named h.name.data.toList) (hf : fitsH h) : numOk (formL h) ∧ fld (formL h) 58 2 = [96, 10] := by
  have hp := parse_format h hI hn hf
  unfold parseH at hp
  by_cases ht : fld (formL h) 58 2 = [96, 10]
  · rw [if_pos ht] at hp
    by_cases ho : numOk (formL h)
    · exact ⟨ho, ht⟩
    · rw [if_neg ho] at hp
      exact absurd (congrArg Prod.snd hp) (show ¬ (72 : Int) = 0 by decide)
  · rw [if_neg ht] at hp
    exact absurd (congrArg Prod.snd hp) (show ¬ (71 : Int) = 0 by decide)
/-- one column of the first 58 changed: read as a head, or refused by a number's column -/
theorem set_parse (h : Hd) (hI : HdIn h) (hn : named h.name.data.toList) (hf : fitsH h) (i : Nat) (c : UInt8) (hi : i ≤ 57) :
    (numOk ((formL h).set i c) ∧ parseH ((formL h).set i c) = (hdOf ((formL h).set i c), 0)) ∨ (16 ≤ i ∧ parseH ((formL h).set i c) = (hd0, 72)) := by
  obtain ⟨ho, ht⟩ := form_num h hI hn hf
  have ht' : fld ((formL h).set i c) 58 2 = [96, 10] := by rw [fld_set _ _ _ _ _ (by omega)]; exact ht
  unfold parseH
  rw [if_pos ht']
  by_cases hok : numOk ((formL h).set i c)
  · exact Or.inl ⟨hok, by rw [if_pos hok]⟩
  · refine Or.inr ⟨?_, by rw [if_neg hok]⟩
    by_cases h16 : 16 ≤ i
    · exact h16
    · refine absurd ?_ hok
      obtain ⟨h1, h2, h3, h4, h5⟩ := ho
      unfold numOk
      rw [fld_set _ _ _ _ _ (by omega), fld_set _ _ _ _ _ (by omega), fld_set _ _ _ _ _ (by omega), fld_set _ _ _ _ _ (by omega), fld_set _ _ _ _ _ (by omega)]
      exact ⟨h1, h2, h3, h4, h5⟩
def okAt (c : UInt8) (i : Nat) : Bool := c.toNat == 32 || (if 40 ≤ i ∧ i < 48 then dig 8 c else dig 10 c)
/-- a byte that is no digit and no blank in a number's column -/
theorem set_spoilt (h : Hd) (hI : HdIn h) (hn : named h.name.data.toList) (hf : fitsH h) (i : Nat) (c : UInt8) (h16 : 16 ≤ i) (hi : i ≤ 57) (hc : okAt c i = false) : parseH ((formL h).set i c) = (hd0, 72) := by
  obtain ⟨ho, ht⟩ := form_num h hI hn hf
  have hl := formL_len h hn hf
  have ht' : fld ((formL h).set i c) 58 2 = [96, 10] := by rw [fld_set _ _ _ _ _ (by omega)]; exact ht
  unfold parseH
  rw [if_pos ht', if_neg]
  rintro ⟨g1, g2, g3, g4, g5⟩
  unfold okAt at hc
  rw [Bool.or_eq_false_iff] at hc
  obtain ⟨hb, hd⟩ := hc
  have hb' : ¬ c.toNat = 32 := by simpa using hb
  by_cases c1 : i < 28
  · rw [if_neg (by omega)] at hd
    exact rd_spoilt 10 _ _ c (fld_at _ i c 16 12 (by omega) (by omega) (by omega)) hd hb' g1
  by_cases c2 : i < 34
  · rw [if_neg (by omega)] at hd
    exact rd_spoilt 10 _ _ c (fld_at _ i c 28 6 (by omega) (by omega) (by omega)) hd hb' g2
  by_cases c3 : i < 40
  · rw [if_neg (by omega)] at hd
    exact rd_spoilt 10 _ _ c (fld_at _ i c 34 6 (by omega) (by omega) (by omega)) hd hb' g3
  by_cases c4 : i < 48
  · rw [if_pos (by omega)] at hd
    exact rd_spoilt 8 _ _ c (fld_at _ i c 40 8 (by omega) (by omega) (by omega)) hd hb' g4
  · rw [if_neg (by omega)] at hd
    exact rd_spoilt 10 _ _ c (fld_at _ i c 48 10 (by omega) (by omega) (by omega)) hd hb' g5
/-- another end -/
theorem set_tail (h : Hd) (hI : HdIn h) (hn : named h.name.data.toList) (hf : fitsH h) (i : Nat) (c : UInt8) (h58 : 58 ≤ i) (hi : i ≤ 59) (hne : ¬ (formL h)[i]? = some c) (j : Nat) (x : UInt8) (hj : j < 58) :
    parseH ((formL h).set i c) = (hd0, 71) ∧ parseH (((formL h).set i c).set j x) = (hd0, 71) := by
  obtain ⟨ho, ht⟩ := form_num h hI hn hf
  have hl := formL_len h hn hf
  have key : ¬ fld ((formL h).set i c) 58 2 = [96, 10] := fun e => by
    have h1 := fld_at (formL h) i c 58 2 (by omega) (by omega) (by omega)
    rw [e, ← ht, fld_get, if_pos (by omega), show 58 + (i - 58) = i from by omega] at h1
    exact hne h1
  constructor
  · unfold parseH; rw [if_neg key]
  · unfold parseH; rw [fld_set _ _ _ _ _ (by omega), if_neg key]
end Go.Proofs.YtbkfkanknfdelabDoor
