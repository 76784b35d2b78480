
-- Plain mathematics: the landed order of the forms of a field; lists of names written.
import Derived.Test.YtmlnnbinbbmmhaaDoorB0
namespace Go.Proofs.YtmlnnbinbbmmhaaDoor
set_option linter.unusedVariables false
set_option maxRecDepth 100000

/-- the digits behind a mark, as num.Dec reads them -/
def numAfter (mark l : List UInt8) : Option Nat :=
  if Lib.hasPrefix l mark = true ∧ ¬ Lib.trimPrefix l mark = [] ∧ Lib.hasSuffix (Lib.trimPrefix l mark) [32] = false ∧ (rd 10 (Lib.trimPrefix l mark)).2 = 0 then some (rd 10 (Lib.trimPrefix l mark)).1 else none
def readQ (l : List UInt8) : Fl × Int :=
  if validL l = true then (⟨6, 0, strL l⟩, 0)
  else if Lib.hasSuffix l [47] = true ∧ validL (Lib.trimSuffix l [47]) = true then (⟨4, 0, strL (Lib.trimSuffix l [47])⟩, 0)
  else if (numAfter [47] l).isSome = true then (⟨5, ((numAfter [47] l).getD 0 : Nat), ByteArray.empty⟩, 0)
  else if (numAfter [35, 49, 47] l).isSome = true then (⟨7, ((numAfter [35, 49, 47] l).getD 0 : Nat), ByteArray.empty⟩, 0)
  else (fl0, 80)

theorem cnt_all (B : Nat) (l : List UInt8) (h : l.all (dig B) = true) : cnt B l = l.length := by
  induction l with
  | nil => rfl
  | cons c r ih =>
    rw [List.all_cons, Bool.and_eq_true] at h
    simp only [cnt, h.1, if_true, List.length_cons, ih h.2]
theorem cnt_short (B : Nat) (l : List UInt8) (h : l.all (dig B) = false) : cnt B l < l.length := by
  have h1 := cnt_le B l
  rcases Nat.lt_or_ge (cnt B l) l.length with h2 | h2
  · exact h2
  · exfalso
    have : l.all (dig B) = true := by
      rw [List.all_eq_true]
      intro c hc
      obtain ⟨j, hj, e⟩ := List.mem_iff_getElem.1 hc
      obtain ⟨d, hd, hh⟩ := cnt_dig B l j (by omega)
      rw [List.getElem?_eq_getElem hj] at hd
      injection hd with hd
      rw [← e, hd]; exact hh
    rw [this] at h; cases h
theorem hasSuffix_one (l : List UInt8) (c : UInt8) : Lib.hasSuffix l [c] = true ↔ l.getLast? = some c := by
  unfold Lib.hasSuffix
  rw [List.isSuffixOf_iff_suffix]
  constructor
  · rintro ⟨t, rfl⟩; simp
  · intro h
    have hne : l ≠ [] := by rintro rfl; cases h
    rw [List.getLast?_eq_some_getLast hne] at h
    injection h with h
    exact ⟨l.dropLast, by rw [← h]; exact List.dropLast_concat_getLast hne⟩
theorem rd_digits (d : List UInt8) (h0 : ¬ d = []) (hb : Lib.hasSuffix d [32] = false) (h15 : d.length ≤ 15) :
    (d.all (dig 10) = true ∧ rd 10 d = (val 10 0 d, 0)) ∨ (d.all (dig 10) = false ∧ ¬ (rd 10 d).2 = 0) := by
  cases ha : d.all (dig 10)
  · refine .inr ⟨rfl, ?_⟩
    have h1 := cnt_short 10 d ha
    have hn : blank (d.drop (cnt 10 d)) = false := by
      cases e : blank (d.drop (cnt 10 d))
      · rfl
      · exfalso
        unfold blank at e
        rw [List.all_eq_true] at e
        have hl : d.getLast? = some (d.getLast h0) := List.getLast?_eq_some_getLast h0
        have hm : d.getLast h0 ∈ d.drop (cnt 10 d) := by
          have hne : d.drop (cnt 10 d) ≠ [] := by
            intro e; have := congrArg List.length e; simp at this; omega
          have : (d.drop (cnt 10 d)).getLast hne = d.getLast h0 := List.getLast_drop hne
          rw [← this]; exact List.getLast_mem hne
        have := e _ hm
        have h32 : d.getLast h0 = 32 := by
          apply UInt8.toNat_inj.1; simpa using this
        rw [h32] at hl
        have := (hasSuffix_one d 32).2 hl
        rw [this] at hb; cases hb
    unfold rd; rw [hn]; simp
  · refine .inl ⟨rfl, ?_⟩
    have h1 := cnt_all 10 d ha
    unfold rd
    rw [h1, List.drop_length, List.take_length]
    have hv : val 10 0 d < 10 ^ d.length := val_lt 10 d (fun c hc => List.all_eq_true.1 ha c hc)
    have : (10 : Nat) ^ d.length ≤ 10 ^ 15 := Nat.pow_le_pow_right (by decide) h15
    have h15' : (10 : Nat) ^ 15 = 1000000000000000 := by decide
    rw [if_pos (show blank [] = true from rfl), if_pos (by omega)]
theorem numAfter_digL (mark l : List UInt8) (h0 : 1 ≤ mark.length) (hl : l.length ≤ 16) (most : Nat) (hm : most = 16 - mark.length) :
    numAfter mark l = if Lib.hasPrefix l mark = true then (digL (l.drop mark.length) most) else none := by
  unfold numAfter Lib.trimPrefix
  cases hp : Lib.hasPrefix l mark
  · simp
  · simp only [if_true, true_and]
    have hdl : (l.drop mark.length).length ≤ 15 := by rw [List.length_drop]; omega
    have hdm : (l.drop mark.length).length ≤ most := by rw [List.length_drop]; omega
    generalize l.drop mark.length = d at hdl hdm
    unfold digL
    by_cases hd : d = []
    · rw [if_neg (by simp [hd]), if_pos (.inl hd)]
    · cases hb : Lib.hasSuffix d [32]
      · rcases rd_digits d hd hb hdl with ⟨ha, hr⟩ | ⟨ha, hr⟩
        · rw [if_pos ⟨hd, rfl, by rw [hr]⟩, if_neg (by rw [ha]; simp [hd]; omega), hr]
        · rw [if_neg (by rintro ⟨_, _, h⟩; exact hr h), if_pos (.inr (.inr ha))]
      · have hf : d.all (dig 10) = false := by
          have := (hasSuffix_one d 32).1 hb
          cases ha : d.all (dig 10)
          · rfl
          · rw [List.all_eq_true] at ha
            have := ha _ (List.mem_of_getLast? this)
            simp [dig] at this
        rw [if_neg (by simp), if_pos (.inr (.inr hf))]
theorem hasPrefix_slash (l : List UInt8) : Lib.hasPrefix l [47] = true ↔ l[0]? = some 47 := by
  unfold Lib.hasPrefix
  cases l with
  | nil => simp
  | cons a r =>
    simp only [List.isPrefixOf, List.getElem?_cons_zero, Bool.and_true]
    constructor
    · intro h; rw [beq_iff_eq] at h; rw [h]
    · intro h; injection h with h; rw [beq_iff_eq]; exact h.symm
theorem hasPrefix_three (l m : List UInt8) : Lib.hasPrefix l m = true ↔ l.take m.length = m := by
  unfold Lib.hasPrefix
  rw [List.isPrefixOf_iff_prefix]
  constructor
  · rintro ⟨t, rfl⟩; simp
  · intro h; rw [← h]; exact List.take_prefix _ _
theorem valid_no_slash (l : List UInt8) (h : validL l = true) (c : UInt8) (hc : c ∈ l) : ¬ c = 47 ∧ ¬ c = 0 := by
  unfold validL at h
  rw [Bool.and_eq_true, List.all_eq_true] at h
  have := h.1 c hc
  unfold okB at this
  constructor <;> (rintro rfl; simp at this)
theorem valid_ne (l : List UInt8) (h : validL l = true) : ¬ l = [] := by
  rintro rfl; cases h
theorem validL_iff (l : List UInt8) : validL l = true ↔ ¬ l = [] ∧ ¬ (47 : UInt8) ∈ l ∧ ¬ (0 : UInt8) ∈ l := by
  constructor
  · intro h; exact ⟨valid_ne l h, fun hc => (valid_no_slash l h _ hc).1 rfl, fun hc => (valid_no_slash l h _ hc).2 rfl⟩
  · rintro ⟨h, h1, h2⟩
    rw [validL_yes]
    · cases l with
      | nil => exact absurd rfl h
      | cons a r => rfl
    · intro j c hj
      have := List.mem_of_getElem? hj
      constructor
      · intro e; exact h1 (by rw [show (47 : UInt8) = c from (UInt8.toNat_inj.1 (by rw [e]; rfl)).symm]; exact this)
      · intro e; exact h2 (by rw [show (0 : UInt8) = c from (UInt8.toNat_inj.1 (by rw [e]; rfl)).symm]; exact this)
/-- the two orders say the same -/
theorem readQ_rest (l : List UInt8) (hl : l.length ≤ 16) : readQ l = readRest l := by
  have e1 : (1 < l.length ∧ l[l.length - 1]? = some 47 ∧ validL (l.take (l.length - 1)) = true) ↔ (Lib.hasSuffix l [47] = true ∧ validL (Lib.trimSuffix l [47]) = true) := by
    rw [hasSuffix_one, List.getLast?_eq_getElem?]
    constructor
    · rintro ⟨h1, h2, h3⟩
      refine ⟨h2, ?_⟩
      unfold Lib.trimSuffix
      rw [if_pos ((hasSuffix_one l 47).2 (by rw [List.getLast?_eq_getElem?]; exact h2))]; exact h3
    · rintro ⟨h2, h3⟩
      unfold Lib.trimSuffix at h3
      rw [if_pos ((hasSuffix_one l 47).2 (by rw [List.getLast?_eq_getElem?]; exact h2))] at h3
      refine ⟨?_, h2, h3⟩
      have := valid_ne _ h3
      rcases Nat.lt_or_ge 1 l.length with h | h
      · exact h
      · exfalso; apply this; rw [show l.length - [(47 : UInt8)].length = 0 from by simp; omega]; rfl
  have e2 : numAfter [47] l = if Lib.hasPrefix l [47] = true then digL (l.drop 1) 15 else none := numAfter_digL [47] l (by decide) hl 15 (by decide)
  have e3 : numAfter [35, 49, 47] l = if Lib.hasPrefix l [35, 49, 47] = true then digL (l.drop 3) 13 else none := numAfter_digL [35, 49, 47] l (by decide) hl 13 (by decide)
  have d1 : ∀ k m, (digL (l.drop k) m).isSome = true → k < l.length := by
    intro k m h
    rcases Nat.lt_or_ge k l.length with h1 | h1
    · exact h1
    · rw [List.drop_eq_nil_of_le h1] at h; simp [digL] at h
  have h2 : (1 < l.length ∧ l[0]? = some 47 ∧ (digL (l.drop 1) 15).isSome = true) ↔ (numAfter [47] l).isSome = true := by
    rw [e2]
    constructor
    · rintro ⟨_, b, c⟩; rw [if_pos ((hasPrefix_slash l).2 b)]; exact c
    · intro h
      split at h
      · rename_i hp; exact ⟨d1 _ _ h, (hasPrefix_slash l).1 hp, h⟩
      · cases h
  have h3 : (3 < l.length ∧ l.take 3 = [35, 49, 47] ∧ (digL (l.drop 3) 13).isSome = true) ↔ (numAfter [35, 49, 47] l).isSome = true := by
    rw [e3]
    constructor
    · rintro ⟨_, b, c⟩; rw [if_pos ((hasPrefix_three l [35, 49, 47]).2 b)]; exact c
    · intro h
      split at h
      · rename_i hp; exact ⟨d1 _ _ h, (hasPrefix_three l [35, 49, 47]).1 hp, h⟩
      · cases h
  have s4 : Lib.hasSuffix l [47] = true → Lib.trimSuffix l [47] = l.take (l.length - 1) := by
    intro h; unfold Lib.trimSuffix; rw [if_pos h]; rfl
  have s5 : (numAfter [47] l).isSome = true → numAfter [47] l = digL (l.drop 1) 15 := by
    intro h; rw [e2] at h ⊢; split
    · rfl
    · rename_i hn; rw [if_neg hn] at h; cases h
  have s7 : (numAfter [35, 49, 47] l).isSome = true → numAfter [35, 49, 47] l = digL (l.drop 3) 13 := by
    intro h; rw [e3] at h ⊢; split
    · rfl
    · rename_i hn; rw [if_neg hn] at h; cases h
  unfold readQ readRest
  by_cases hv : validL l = true
  · have hs := fun hc : (47 : UInt8) ∈ l => (valid_no_slash l hv _ hc).1 rfl
    rw [if_pos hv, if_neg (by rintro ⟨_, h, _⟩; exact hs (List.mem_of_getElem? h)), if_neg (by rintro ⟨_, h, _⟩; exact hs (List.mem_of_getElem? h)),
      if_neg (by rintro ⟨_, h, _⟩; exact hs (List.mem_of_mem_take (i := 3) (by rw [h]; simp))), if_pos hv]
  · rw [if_neg hv]
    by_cases c1 : Lib.hasSuffix l [47] = true ∧ validL (Lib.trimSuffix l [47]) = true
    · rw [if_pos c1, if_pos (e1.2 c1), s4 c1.1]
    · rw [if_neg c1, if_neg (fun h => c1 (e1.1 h))]
      by_cases c2 : (numAfter [47] l).isSome = true
      · rw [if_pos c2, if_pos (h2.2 c2), s5 c2]
      · rw [if_neg c2, if_neg (fun h => c2 (h2.1 h))]
        by_cases c3 : (numAfter [35, 49, 47] l).isSome = true
        · rw [if_pos c3, if_pos (h3.2 c3), s7 c3]
        · rw [if_neg c3, if_neg (fun h => c3 (h3.1 h)), if_neg hv]
end Go.Proofs.YtmlnnbinbbmmhaaDoor
