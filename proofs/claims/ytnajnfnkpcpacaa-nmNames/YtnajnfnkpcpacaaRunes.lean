
import Derived.Lib.RuneBytes
import Derived.Lib.RuneCount
namespace Go.Proofs.Ytnajnfnkpcpacaa
open Go
set_option linter.unusedVariables false
set_option maxRecDepth 100000
/-- The document's table of well-formed runs: which bytes stand at each place. -/
def formsL : List (List (Nat × Nat)) :=
  [[(0, 127)], [(194, 223), (128, 191)], [(224, 224), (160, 191), (128, 191)], [(225, 236), (128, 191), (128, 191)], [(238, 239), (128, 191), (128, 191)],
   [(237, 237), (128, 159), (128, 191)], [(240, 240), (144, 191), (128, 191), (128, 191)], [(241, 243), (128, 191), (128, 191), (128, 191)], [(244, 244), (128, 143), (128, 191), (128, 191)]]
def fitsL : List (Nat × Nat) → List UInt8 → Bool
  | [], _ => true
  | _ :: _, [] => false
  | (lo, hi) :: f, c :: l => decide (lo ≤ c.toNat) && decide (c.toNat ≤ hi) && fitsL f l
/-- How many bytes the well-formed run at the head has; 0: none. -/
def runLen (l : List UInt8) : Nat := match formsL.find? (fun f => fitsL f l) with | some f => f.length | none => 0
/-- What range takes off. -/
def wid (l : List UInt8) : Nat := max 1 (runLen l)

def dec (l : List UInt8) : Nat × Nat :=
  let a (k : Nat) : Nat := (l.getD k 0).toNat
  let cont (k : Nat) : Bool := k < l.length && a k / 64 == 2
  let b0 := a 0
  if b0 < 0x80 then (b0, 1)
  else if b0 / 32 == 6 && cont 1 then
    let c := (b0 % 32) * 64 + a 1 % 64
    if c ≥ 0x80 then (c, 2) else (Utf8.runeError, 1)
  else if b0 / 16 == 14 && cont 1 && cont 2 then
    let c := (b0 % 16) * 4096 + (a 1 % 64) * 64 + a 2 % 64
    if c ≥ 0x800 && Utf8.valid c then (c, 3) else (Utf8.runeError, 1)
  else if b0 / 8 == 30 && cont 1 && cont 2 && cont 3 then
    let c := (b0 % 8) * 262144 + (a 1 % 64) * 4096 + (a 2 % 64) * 64 + a 3 % 64
    if c ≥ 0x10000 && Utf8.valid c then (c, 4) else (Utf8.runeError, 1)
  else (Utf8.runeError, 1)

theorem get_drop (s : ByteArray) (i k : Nat) : s.get! (i + k) = (s.data.toList.drop i).getD k 0 := by
  simp only [ByteArray.get!]
  by_cases h : i + k < s.data.size
  · rw [getElem!_pos s.data (i + k) h]; simp [List.getD, Array.getElem?_eq_getElem h]
  · rw [getElem!_neg s.data (i + k) h]; simp [List.getD, Array.getElem?_eq_none (Nat.not_lt.1 h)]; rfl
theorem decode_dec (s : ByteArray) (i : Nat) : Utf8.decode s i = dec (s.data.toList.drop i) := by
  have e : ∀ k, decide (i + k < s.size) = decide (k < (s.data.toList.drop i).length) := by
    intro k
    have : s.data.toList.length = s.size := by simp
    simp only [List.length_drop, this, decide_eq_decide]; omega
  unfold Utf8.decode dec
  simp only [get_drop, e]

theorem runLen_eq (l : List UInt8) : runLen l =
    (if fitsL [(0, 127)] l then 1 else if fitsL [(194, 223), (128, 191)] l then 2 else if fitsL [(224, 224), (160, 191), (128, 191)] l then 3
     else if fitsL [(225, 236), (128, 191), (128, 191)] l then 3 else if fitsL [(238, 239), (128, 191), (128, 191)] l then 3 else if fitsL [(237, 237), (128, 159), (128, 191)] l then 3
     else if fitsL [(240, 240), (144, 191), (128, 191), (128, 191)] l then 4 else if fitsL [(241, 243), (128, 191), (128, 191), (128, 191)] l then 4
     else if fitsL [(244, 244), (128, 143), (128, 191), (128, 191)] l then 4 else 0) := by
  unfold runLen formsL
  simp only [List.find?_cons, List.find?_nil]
  cases fitsL [(0, 127)] l
  · cases fitsL [(194, 223), (128, 191)] l
    · cases fitsL [(224, 224), (160, 191), (128, 191)] l
      · cases fitsL [(225, 236), (128, 191), (128, 191)] l
        · cases fitsL [(238, 239), (128, 191), (128, 191)] l
          · cases fitsL [(237, 237), (128, 159), (128, 191)] l
            · cases fitsL [(240, 240), (144, 191), (128, 191), (128, 191)] l
              · cases fitsL [(241, 243), (128, 191), (128, 191), (128, 191)] l
                · cases fitsL [(244, 244), (128, 143), (128, 191), (128, 191)] l <;> rfl
                · rfl
              · rfl
            · rfl
          · rfl
        · rfl
      · rfl
    · rfl
  · rfl

abbrev Run (l : List UInt8) : Prop :=
  (runLen l = 0 ∧ dec l = (65533, 1) ∧ ¬ [239, 191, 189] <+: l) ∨
  (∃ (c : UInt8) (r : List UInt8), l = c :: r ∧ c.toNat < 128 ∧ runLen l = 1 ∧ dec l = (c.toNat, 1)) ∨
  (∃ (c c1 : UInt8) (r : List UInt8), l = c :: c1 :: r ∧ 194 ≤ c.toNat ∧ c.toNat ≤ 223 ∧ 128 ≤ c1.toNat ∧ c1.toNat ≤ 191 ∧ runLen l = 2 ∧ dec l = ((c.toNat - 192) * 64 + (c1.toNat - 128), 2)) ∨
  (∃ (c c1 c2 : UInt8) (r : List UInt8), l = c :: c1 :: c2 :: r ∧ 224 ≤ c.toNat ∧ c.toNat ≤ 239 ∧ 128 ≤ c1.toNat ∧ c1.toNat ≤ 191 ∧ 128 ≤ c2.toNat ∧ c2.toNat ≤ 191 ∧
      (c.toNat = 224 → 160 ≤ c1.toNat) ∧ (c.toNat = 237 → c1.toNat ≤ 159) ∧ runLen l = 3 ∧ dec l = ((c.toNat - 224) * 4096 + (c1.toNat - 128) * 64 + (c2.toNat - 128), 3)) ∨
  (∃ (c c1 c2 c3 : UInt8) (r : List UInt8), l = c :: c1 :: c2 :: c3 :: r ∧ 240 ≤ c.toNat ∧ c.toNat ≤ 244 ∧ 128 ≤ c1.toNat ∧ c1.toNat ≤ 191 ∧ 128 ≤ c2.toNat ∧ c2.toNat ≤ 191 ∧ 128 ≤ c3.toNat ∧ c3.toNat ≤ 191 ∧
      (c.toNat = 240 → 144 ≤ c1.toNat) ∧ (c.toNat = 244 → c1.toNat ≤ 143) ∧ runLen l = 4 ∧ dec l = ((c.toNat - 240) * 262144 + (c1.toNat - 128) * 4096 + (c2.toNat - 128) * 64 + (c3.toNat - 128), 4))

theorem valid_nat (n : Nat) : Utf8.valid (n : Int) = decide (n < 55296 ∨ (57344 ≤ n ∧ n ≤ 1114111)) := by
  unfold Utf8.valid
  by_cases h : n < 55296 ∨ (57344 ≤ n ∧ n ≤ 1114111)
  · rw [decide_eq_true h]; simp; omega
  · rw [decide_eq_false h]; simp; omega
theorem toNat_lt (c : UInt8) : c.toNat < 256 := c.toNat_lt

theorem run1 (c : UInt8) (r : List UInt8) (h : c.toNat < 128) : Run (c :: r) := by
  refine .inr (.inl ⟨c, r, rfl, h, ?_, ?_⟩)
  · rw [runLen_eq]; simp [fitsL]; omega
  · simp [dec]; omega
theorem strayOf (c : UInt8) (r : List UInt8) (h : runLen (c :: r) = 0) (d : dec (c :: r) = (65533, 1)) : Run (c :: r) := by
  refine .inl ⟨h, d, ?_⟩
  rintro ⟨t, ht⟩
  rw [← ht] at h
  simp [runLen_eq, fitsL] at h


theorem runLen_cut (c c1 c2 c3 : UInt8) (r : List UInt8) (h : 128 ≤ c.toNat) :
    (runLen [c] = 0) ∧ (runLen [c, c1] = if 194 ≤ c.toNat ∧ c.toNat ≤ 223 ∧ 128 ≤ c1.toNat ∧ c1.toNat ≤ 191 then 2 else 0) ∧
    (224 ≤ c.toNat → c.toNat ≤ 239 → runLen (c :: c1 :: c2 :: r) = if 128 ≤ c1.toNat ∧ c1.toNat ≤ 191 ∧ 128 ≤ c2.toNat ∧ c2.toNat ≤ 191 ∧ (c.toNat = 224 → 160 ≤ c1.toNat) ∧ (c.toNat = 237 → c1.toNat ≤ 159) then 3 else 0) ∧
    (240 ≤ c.toNat → runLen (c :: c1 :: c2 :: c3 :: r) = if c.toNat ≤ 244 ∧ 128 ≤ c1.toNat ∧ c1.toNat ≤ 191 ∧ 128 ≤ c2.toNat ∧ c2.toNat ≤ 191 ∧ 128 ≤ c3.toNat ∧ c3.toNat ≤ 191 ∧ (c.toNat = 240 → 144 ≤ c1.toNat) ∧ (c.toNat = 244 → c1.toNat ≤ 143) then 4 else 0) ∧
    (240 ≤ c.toNat → runLen [c, c1, c2] = 0) ∧ (224 ≤ c.toNat → runLen [c, c1] = 0) ∧
    (c.toNat < 224 → runLen (c :: c1 :: r) = if 194 ≤ c.toNat ∧ 128 ≤ c1.toNat ∧ c1.toNat ≤ 191 then 2 else 0) := by
  simp only [runLen_eq, fitsL, Bool.and_true, Bool.and_false, Bool.and_eq_true, decide_eq_true_eq, Bool.false_eq_true, if_false]
  refine ⟨?_, ?_, ?_, ?_, ?_, ?_, ?_⟩
  · split <;> omega
  · repeat' split
    all_goals omega
  · intro _ _
    rw [if_neg (by omega), if_neg (by omega)]
    repeat' split
    all_goals omega
  · intro _
    rw [if_neg (by omega), if_neg (by omega), if_neg (by omega), if_neg (by omega), if_neg (by omega), if_neg (by omega)]
    repeat' split
    all_goals omega
  · intro _
    repeat' split
    all_goals omega
  · intro _
    repeat' split
    all_goals omega
  · intro _
    rw [if_neg (by omega)]
    split
    · rw [if_pos (by omega)]
    · rw [if_neg (by omega), if_neg (by omega), if_neg (by omega), if_neg (by omega), if_neg (by omega), if_neg (by omega), if_neg (by omega), if_neg (by omega)]

theorem runOf (l : List UInt8) (hl : l ≠ []) : Run l := by
  match l, hl with
  | [c], _ =>
    by_cases h : c.toNat < 128
    · exact run1 c [] h
    · refine strayOf _ _ (runLen_cut c 0 0 0 [] (by omega)).1 ?_
      simp [dec, h, Utf8.runeError]
  | [c, c1], _ =>
    have hc := toNat_lt c
    have hc1 := toNat_lt c1
    by_cases h : c.toNat < 128
    · exact run1 c _ h
    obtain ⟨-, k2, -, -, -, -, -⟩ := runLen_cut c c1 0 0 [] (by omega)
    by_cases k : 194 ≤ c.toNat ∧ c.toNat ≤ 223 ∧ 128 ≤ c1.toNat ∧ c1.toNat ≤ 191
    · rw [if_pos k] at k2
      obtain ⟨k0, k1, k3, k4⟩ := k
      refine .inr (.inr (.inl ⟨c, c1, [], rfl, k0, k1, k3, k4, k2, ?_⟩))
      have e1 : c.toNat / 32 = 6 := by omega
      have e2 : c1.toNat / 64 = 2 := by omega
      have e3 : 128 ≤ c.toNat % 32 * 64 + c1.toNat % 64 := by omega
      simp [dec, h, e1, e2, e3]; omega
    · rw [if_neg k] at k2
      refine strayOf _ _ k2 ?_
      by_cases e1 : c.toNat / 32 = 6 ∧ c1.toNat / 64 = 2
      · have e3 : ¬ 128 ≤ c.toNat % 32 * 64 + c1.toNat % 64 := by omega
        simp [dec, h, e1, e3, Utf8.runeError]
      · simp [dec, h, e1, Utf8.runeError]
  | c :: c1 :: c2 :: r, _ =>
    have hc := toNat_lt c
    have hc1 := toNat_lt c1
    have hc2 := toNat_lt c2
    by_cases h : c.toNat < 128
    · exact run1 c _ h
    obtain ⟨-, -, k3, -, k5, -, -⟩ := runLen_cut c c1 c2 0 r (by omega)
    obtain ⟨-, -, -, -, -, -, k7⟩ := runLen_cut c c1 0 0 (c2 :: r) (by omega)
    by_cases h2 : c.toNat < 224
    · have k2 := k7 h2
      have n1 : ¬ c.toNat / 16 = 14 := by omega
      have n2 : ¬ c.toNat / 8 = 30 := by omega
      by_cases k : 194 ≤ c.toNat ∧ 128 ≤ c1.toNat ∧ c1.toNat ≤ 191
      · rw [if_pos k] at k2
        obtain ⟨k0, k3, k4⟩ := k
        refine .inr (.inr (.inl ⟨c, c1, _, rfl, k0, (by omega), k3, k4, k2, ?_⟩))
        have e1 : c.toNat / 32 = 6 := by omega
        have e2 : c1.toNat / 64 = 2 := by omega
        have e3 : 128 ≤ c.toNat % 32 * 64 + c1.toNat % 64 := by omega
        simp [dec, h, e1, e2, e3]; omega
      · rw [if_neg k] at k2
        refine strayOf _ _ k2 ?_
        by_cases e1 : c.toNat / 32 = 6 ∧ c1.toNat / 64 = 2
        · have e3 : ¬ 128 ≤ c.toNat % 32 * 64 + c1.toNat % 64 := by omega
          simp [dec, h, e1, e3, Utf8.runeError]
        · simp [dec, h, e1, n1, n2, Utf8.runeError]
    · have m1 : ¬ c.toNat / 32 = 6 := by omega
      by_cases h3 : c.toNat ≤ 239
      · have k2 := k3 (by omega) h3
        have n1 : c.toNat / 16 = 14 := by omega
        have n2 : ¬ c.toNat / 8 = 30 := by omega
        by_cases k : 128 ≤ c1.toNat ∧ c1.toNat ≤ 191 ∧ 128 ≤ c2.toNat ∧ c2.toNat ≤ 191 ∧ (c.toNat = 224 → 160 ≤ c1.toNat) ∧ (c.toNat = 237 → c1.toNat ≤ 159)
        · rw [if_pos k] at k2
          obtain ⟨j1, j2, j3, j4, j5, j6⟩ := k
          refine .inr (.inr (.inr (.inl ⟨c, c1, c2, r, rfl, (by omega), h3, j1, j2, j3, j4, j5, j6, k2, ?_⟩)))
          have e1 : c1.toNat / 64 = 2 := by omega
          have e2 : c2.toNat / 64 = 2 := by omega
          have e3 : 2048 ≤ c.toNat % 16 * 4096 + c1.toNat % 64 * 64 + c2.toNat % 64 := by omega
          have e4 : Utf8.valid (((c.toNat % 16 * 4096 + c1.toNat % 64 * 64 + c2.toNat % 64 : Nat)) : Int) = true := by
            rw [valid_nat]; simp; omega
          have e5 : c.toNat % 16 * 4096 + c1.toNat % 64 * 64 + c2.toNat % 64 = (c.toNat - 224) * 4096 + (c1.toNat - 128) * 64 + (c2.toNat - 128) := by omega
          simp only [dec, List.getD_cons_zero, List.getD_cons_succ, List.length_cons, h, n1, e1, e2, ge_iff_le, e3, e4]
          simp [e5, m1]
        · rw [if_neg k] at k2
          refine strayOf _ _ k2 ?_
          by_cases e1 : c1.toNat / 64 = 2 ∧ c2.toNat / 64 = 2
          · have e3 : ¬ (2048 ≤ c.toNat % 16 * 4096 + c1.toNat % 64 * 64 + c2.toNat % 64 ∧ Utf8.valid (((c.toNat % 16 * 4096 + c1.toNat % 64 * 64 + c2.toNat % 64 : Nat)) : Int) = true) := by
              rw [valid_nat]; simp; omega
            simp only [dec, List.getD_cons_zero, List.getD_cons_succ, List.length_cons, h, n1, e1.1, e1.2, ge_iff_le, Bool.and_eq_true, decide_eq_true_eq, if_neg e3]
            simp [Utf8.runeError, m1]
          · have e3 : ¬ ((c1.toNat / 64 == 2) = true ∧ (c2.toNat / 64 == 2) = true) := by simpa using e1
            simp [dec, h, m1, n1, n2, Utf8.runeError]
            intro a b
            exact absurd ⟨a, b⟩ e1
      · have n1 : ¬ c.toNat / 16 = 14 := by omega
        match r with
        | [] =>
          refine strayOf _ _ (k5 (by omega)) ?_
          simp [dec, h, m1, n1, Utf8.runeError]
        | c3 :: r =>
          have hc3 := toNat_lt c3
          obtain ⟨-, -, -, k4, -, -, -⟩ := runLen_cut c c1 c2 c3 r (by omega)
          have k2 := k4 (by omega)
          by_cases k : c.toNat ≤ 244 ∧ 128 ≤ c1.toNat ∧ c1.toNat ≤ 191 ∧ 128 ≤ c2.toNat ∧ c2.toNat ≤ 191 ∧ 128 ≤ c3.toNat ∧ c3.toNat ≤ 191 ∧ (c.toNat = 240 → 144 ≤ c1.toNat) ∧ (c.toNat = 244 → c1.toNat ≤ 143)
          · rw [if_pos k] at k2
            obtain ⟨j0, j1, j2, j3, j4, j5, j6, j7, j8⟩ := k
            refine .inr (.inr (.inr (.inr ⟨c, c1, c2, c3, r, rfl, (by omega), j0, j1, j2, j3, j4, j5, j6, j7, j8, k2, ?_⟩)))
            have n2 : c.toNat / 8 = 30 := by omega
            have e1 : c1.toNat / 64 = 2 := by omega
            have e2 : c2.toNat / 64 = 2 := by omega
            have e6 : c3.toNat / 64 = 2 := by omega
            have e3 : 65536 ≤ c.toNat % 8 * 262144 + c1.toNat % 64 * 4096 + c2.toNat % 64 * 64 + c3.toNat % 64 := by omega
            have e4 : Utf8.valid (((c.toNat % 8 * 262144 + c1.toNat % 64 * 4096 + c2.toNat % 64 * 64 + c3.toNat % 64 : Nat)) : Int) = true := by
              rw [valid_nat]; simp; omega
            have e5 : c.toNat % 8 * 262144 + c1.toNat % 64 * 4096 + c2.toNat % 64 * 64 + c3.toNat % 64 = (c.toNat - 240) * 262144 + (c1.toNat - 128) * 4096 + (c2.toNat - 128) * 64 + (c3.toNat - 128) := by omega
            simp only [dec, List.getD_cons_zero, List.getD_cons_succ, List.length_cons, h, n2, e1, e2, e6, ge_iff_le, e3, e4]
            simp [e5, m1, n1]
          · rw [if_neg k] at k2
            refine strayOf _ _ k2 ?_
            by_cases e1 : c.toNat / 8 = 30 ∧ c1.toNat / 64 = 2 ∧ c2.toNat / 64 = 2 ∧ c3.toNat / 64 = 2
            · have e3 : ¬ (65536 ≤ c.toNat % 8 * 262144 + c1.toNat % 64 * 4096 + c2.toNat % 64 * 64 + c3.toNat % 64 ∧ Utf8.valid (((c.toNat % 8 * 262144 + c1.toNat % 64 * 4096 + c2.toNat % 64 * 64 + c3.toNat % 64 : Nat)) : Int) = true) := by
                rw [valid_nat]; simp; omega
              simp only [dec, List.getD_cons_zero, List.getD_cons_succ, List.length_cons, h, e1.1, e1.2.1, e1.2.2.1, e1.2.2.2, ge_iff_le, Bool.and_eq_true, decide_eq_true_eq, if_neg e3]
              simp [Utf8.runeError, m1, n1]
            · simp [dec, h, m1, n1, Utf8.runeError]
              intro a b d e
              exact absurd ⟨a, b, d, e⟩ e1
end Go.Proofs.Ytnajnfnkpcpacaa
