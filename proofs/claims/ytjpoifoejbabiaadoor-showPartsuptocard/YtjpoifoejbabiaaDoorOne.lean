
import Derived.Test.YtjpoifoejbabiaaDoorQuote
namespace Go.Proofs.YtjpoifoejbabiaaDoor
open Go
theorem head_big (l : List UInt8) (hl : l ≠ []) (h : runLen l = 0) : 128 ≤ (l.getD 0 0).toNat := by
  rcases Nat.lt_or_ge (l.getD 0 0).toNat 128 with h' | h'
  · have := head_small l hl h'; omega
  · exact h'
theorem oneL_stray (l : List UInt8) (hl : l ≠ []) (h : runLen l = 0) : oneL l = hexB (l.getD 0 0) := by
  have hb := head_big l hl h
  have hp : plainL l = false := by unfold plainL; rw [h]; rfl
  unfold oneL
  rw [if_neg (by rintro (h' | h'); rw [hp] at h'; cases h'; omega), if_neg (by omega), if_neg (by omega), if_neg (by omega), if_neg (by omega), wid_of h]
  cases l with
  | nil => exact absurd rfl hl
  | cons c r => simp [hexs]
theorem head_of_val (l : List UInt8) (hl : l ≠ []) (n : Nat) (hn : n < 128) (h : valL l = n) : runLen l = 1 ∧ (l.getD 0 0).toNat = n := (val_small l hl n hn).1 h
theorem oneL_plain (l : List UInt8) (hl : l ≠ []) (h0 : runLen l ≠ 0) (h : plainL l = true ∨ valL l = 32) : oneL l = Lib.encodeRune (valL l) := by
  rw [enc_is l h0 hl]
  unfold oneL
  rw [if_pos]
  rcases h with h | h
  · exact .inl h
  · exact .inr (head_of_val l hl 32 (by omega) h).2
theorem not_plain_of (l : List UInt8) (hl : l ≠ []) (n : Nat) (hn : n < 33 ∨ n = 34 ∨ n = 92) (h : valL l = n) : plainL l = false := by
  obtain ⟨h1, h2⟩ := head_of_val l hl n (by omega) h
  unfold plainL; rw [h1]
  simp only [h2]
  rcases hn with h | h | h
  · simp; omega
  · subst h; simp
  · subst h; simp
theorem oneL_esc (l : List UInt8) (hl : l ≠ []) (n : Nat) (x : UInt8) (hn : (n = 34 ∧ x = 34) ∨ (n = 92 ∧ x = 92) ∨ (n = 10 ∧ x = 110) ∨ (n = 9 ∧ x = 116)) (h : valL l = n) : oneL l = [92, x] := by
  have hp := not_plain_of l hl n (by omega) h
  obtain ⟨h1, h2⟩ := head_of_val l hl n (by omega) h
  unfold oneL
  rw [hp, h2]
  rcases hn with ⟨rfl, rfl⟩ | ⟨rfl, rfl⟩ | ⟨rfl, rfl⟩ | ⟨rfl, rfl⟩ <;> simp
theorem oneL_hex (l : List UInt8) (hl : l ≠ []) (h0 : runLen l ≠ 0) (hp : plainL l = false) (h : valL l ≠ 32 ∧ valL l ≠ 34 ∧ valL l ≠ 92 ∧ valL l ≠ 10 ∧ valL l ≠ 9) :
    oneL l = hexs (l.take (wid l)) ∧ wid l = (if valL l < 128 then 1 else 2) ∧ valL l ≤ 2047 := by
  have hh : ∀ n, n < 128 → valL l ≠ n → (l.getD 0 0).toNat ≠ n := fun n hn hv e => hv ((val_small l hl n hn).2 ⟨head_small l hl (by omega), e⟩)
  refine ⟨?_, ?_⟩
  · unfold oneL
    rw [if_neg (by rw [hp]; simpa using hh 32 (by omega) h.1), if_neg (hh 34 (by omega) h.2.1), if_neg (hh 92 (by omega) h.2.2.1), if_neg (hh 10 (by omega) h.2.2.2.1), if_neg (hh 9 (by omega) h.2.2.2.2)]
  · unfold plainL at hp
    unfold valL
    rcases runOf l hl with ⟨k, d, p⟩ | ⟨c, r, e, k, h', d⟩ | ⟨c, c1, r, e, a0, b0, a1, b1, h', d⟩ | ⟨c, c1, c2, r, e, a0, b0, a1, b1, a2, b2, x, y, h', d⟩ | ⟨c, c1, c2, c3, r, e, a0, b0, a1, b1, a2, b2, a3, b3, x, y, h', d⟩
    · exact absurd k h0
    · rw [d, wid_of h']; simp [k]; omega
    · rw [d, wid_of h']; simp; omega
    · rw [h'] at hp; cases hp
    · rw [h'] at hp; cases hp
theorem hexs_take (l : List UInt8) (k : Nat) (h : k < l.length) : hexs (l.take (k + 1)) = hexs (l.take k) ++ hexB (l.getD k 0) := by
  have e : l.take (k + 1) = l.take k ++ [l.getD k 0] := by
    rw [List.take_add_one, List.getElem?_eq_getElem h]; simp [List.getD, List.getElem?_eq_getElem h]
  rw [e]; simp only [hexs, List.flatMap_append, List.flatMap_cons, List.flatMap_nil, List.append_nil]
end Go.Proofs.YtjpoifoejbabiaaDoor
