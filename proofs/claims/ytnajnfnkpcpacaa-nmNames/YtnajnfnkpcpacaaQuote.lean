
import Derived.Test.YtnajnfnkpcpacaaRunes
namespace Go.Proofs.Ytnajnfnkpcpacaa
open Go
set_option linter.unusedVariables false
set_option maxRecDepth 100000
def hexD (n : Nat) : UInt8 := if n < 10 then UInt8.ofNat (48 + n) else UInt8.ofNat (87 + n)
def hexB (c : UInt8) : List UInt8 := [92, 120, hexD (c.toNat / 16), hexD (c.toNat % 16)]
def hexs (l : List UInt8) : List UInt8 := l.flatMap hexB
/-- Is the rune at the head plain? -/
def plainL (l : List UInt8) : Bool :=
  match runLen l with
  | 0 => false
  | 1 => decide (33 ≤ (l.getD 0 0).toNat) && decide ((l.getD 0 0).toNat ≠ 34) && decide ((l.getD 0 0).toNat ≠ 92) && decide ((l.getD 0 0).toNat ≠ 127)
  | 2 => decide ((l.getD 0 0).toNat ≠ 194) || decide (159 < (l.getD 1 0).toNat)
  | _ => true
/-- How the rune at the head is told between quotes. -/
def oneL (l : List UInt8) : List UInt8 :=
  if plainL l = true ∨ (l.getD 0 0).toNat = 32 then l.take (wid l)
  else if (l.getD 0 0).toNat = 34 then [92, 34]
  else if (l.getD 0 0).toNat = 92 then [92, 92]
  else if (l.getD 0 0).toNat = 10 then [92, 110]
  else if (l.getD 0 0).toNat = 9 then [92, 116]
  else hexs (l.take (wid l))
theorem wid_pos (l : List UInt8) : 1 ≤ wid l := by unfold wid; omega
theorem runLen_le (l : List UInt8) : runLen l ≤ l.length := by
  by_cases hl : l = []
  · subst hl; decide
  · rcases runOf l hl with ⟨h, d, p⟩ | ⟨c, r, e, h0, h, d⟩ | ⟨c, c1, r, e, a0, b0, a1, b1, h, d⟩ | ⟨c, c1, c2, r, e, a0, b0, a1, b1, a2, b2, u, v, h, d⟩ | ⟨c, c1, c2, c3, r, e, a0, b0, a1, b1, a2, b2, a3, b3, u, v, h, d⟩ <;> simp_all
theorem wid_le (l : List UInt8) (h : l ≠ []) : wid l ≤ l.length := by
  have := runLen_le l
  have : 0 < l.length := List.length_pos_iff.2 h
  unfold wid; omega
theorem wid_le4 (l : List UInt8) : wid l ≤ 4 := by
  by_cases hl : l = []
  · subst hl; decide
  · unfold wid; rcases runOf l hl with ⟨h, d, p⟩ | ⟨c, r, e, h0, h, d⟩ | ⟨c, c1, r, e, a0, b0, a1, b1, h, d⟩ | ⟨c, c1, c2, r, e, a0, b0, a1, b1, a2, b2, u, v, h, d⟩ | ⟨c, c1, c2, c3, r, e, a0, b0, a1, b1, a2, b2, a3, b3, u, v, h, d⟩ <;> omega
/-- The rests of a list, rune by rune, with fuel. -/
def runsF : Nat → List UInt8 → List (List UInt8)
  | 0, _ => []
  | _ + 1, [] => []
  | n + 1, c :: r => (c :: r) :: runsF n ((c :: r).drop (wid (c :: r)))
def runsL (l : List UInt8) : List (List UInt8) := runsF l.length l
theorem runsF_eq (n : Nat) : ∀ (m : Nat) (l : List UInt8), l.length ≤ n → l.length ≤ m → runsF n l = runsF m l := by
  induction n with
  | zero =>
    intro m l h _
    have : l = [] := List.eq_nil_of_length_eq_zero (by omega)
    subst this
    cases m <;> rfl
  | succ n ih =>
    intro m l h h'
    cases l with
    | nil => cases m <;> rfl
    | cons c r =>
      cases m with
      | zero => simp at h'
      | succ m =>
        have hp := wid_pos (c :: r)
        have h1 : r.length + 1 ≤ n + 1 := h
        have h2 : r.length + 1 ≤ m + 1 := h'
        simp only [runsF]
        rw [ih m]
        · simp only [List.length_drop, List.length_cons]; omega
        · simp only [List.length_drop, List.length_cons]; omega
theorem runsL_nil : runsL [] = [] := rfl
theorem runsL_cons (l : List UInt8) (h : l ≠ []) : runsL l = l :: runsL (l.drop (wid l)) := by
  cases l with
  | nil => exact absurd rfl h
  | cons c r =>
    have hp := wid_pos (c :: r)
    show (c :: r) :: runsF r.length ((c :: r).drop (wid (c :: r))) = (c :: r) :: runsF ((c :: r).drop (wid (c :: r))).length ((c :: r).drop (wid (c :: r)))
    rw [runsF_eq r.length ((c :: r).drop (wid (c :: r))).length _ (by simp only [List.length_drop, List.length_cons]; omega) (Nat.le_refl _)]
def bodyL (l : List UInt8) : List UInt8 := (runsL l).flatMap oneL
def allPlain (l : List UInt8) : Bool := (runsL l).all plainL
def bareL (l : List UInt8) : Bool := !l.isEmpty && allPlain l
def quoteL (l : List UInt8) : List UInt8 := if bareL l then l else 34 :: (bodyL l ++ [34])

theorem bodyL_nil : bodyL [] = [] := rfl
theorem bodyL_cons (l : List UInt8) (h : l ≠ []) : bodyL l = oneL l ++ bodyL (l.drop (wid l)) := by
  unfold bodyL; rw [runsL_cons l h, List.flatMap_cons]
theorem allPlain_nil : allPlain [] = true := rfl
theorem allPlain_cons (l : List UInt8) (h : l ≠ []) : allPlain l = (plainL l && allPlain (l.drop (wid l))) := by
  unfold allPlain; rw [runsL_cons l h, List.all_cons]
theorem wid_of {l : List UInt8} {k : Nat} (h : runLen l = k) : wid l = max 1 k := by unfold wid; rw [h]

theorem hexs_length (l : List UInt8) : (hexs l).length = 4 * l.length := by
  induction l with
  | nil => rfl
  | cons c l ih => simp only [hexs, List.flatMap_cons, List.length_append, List.length_cons] at *; rw [ih]; simp [hexB]; omega
theorem oneL_length (l : List UInt8) (h : l ≠ []) : (oneL l).length ≤ 4 * wid l := by
  have := wid_pos l
  unfold oneL
  repeat' split
  · simp; omega
  all_goals try (simp; omega)
  rw [hexs_length]; simp; omega
theorem bodyL_length (n : Nat) : ∀ l : List UInt8, l.length ≤ n → (bodyL l).length ≤ 4 * l.length := by
  induction n with
  | zero => intro l hl; have : l = [] := List.eq_nil_of_length_eq_zero (by omega); subst this; rw [bodyL_nil]; simp
  | succ n ih =>
    intro l hl
    by_cases h : l = []
    · subst h; rw [bodyL_nil]; simp
    · rw [bodyL_cons l h, List.length_append]
      have a := oneL_length l h
      have b := wid_le l h
      have c := wid_pos l
      have d := ih (l.drop (wid l)) (by simp; omega)
      simp at d
      omega
theorem quoteL_length (l : List UInt8) : (quoteL l).length ≤ 4 * l.length + 2 := by
  unfold quoteL
  split
  · omega
  · have := bodyL_length _ l (Nat.le_refl _); simp; omega
theorem quoteL_ne (l : List UInt8) : quoteL l ≠ [] := by
  unfold quoteL
  split
  · rename_i h; intro e; subst e; simp [bareL] at h
  · simp

/-- What the program asks of the rune at the head, by its value. -/
def valL (l : List UInt8) : Nat := (dec l).1
def strayL (l : List UInt8) : Bool := decide (valL l = 65533) && !(decide ([239, 191, 189] <+: l))
theorem u8_eq {c : UInt8} {n : Nat} (h : c.toNat = n) : c = UInt8.ofNat n := by rw [← h]; simp
theorem stray_is (l : List UInt8) (hl : l ≠ []) : strayL l = decide (runLen l = 0) := by
  unfold strayL valL
  rcases runOf l hl with ⟨h, d, p⟩ | ⟨c, r, e, h0, h, d⟩ | ⟨c, c1, r, e, a0, b0, a1, b1, h, d⟩ | ⟨c, c1, c2, r, e, a0, b0, a1, b1, a2, b2, u, v, h, d⟩ | ⟨c, c1, c2, c3, r, e, a0, b0, a1, b1, a2, b2, a3, b3, u, v, h, d⟩
  · simp [h, d, p]
  · rw [d, h]; simp; omega
  · rw [d, h]; simp; omega
  · rw [d, h]
    by_cases hv : (c.toNat - 224) * 4096 + (c1.toNat - 128) * 64 + (c2.toNat - 128) = 65533
    · have e0 : c = 239 := u8_eq (n := 239) (by omega)
      have e1 : c1 = 191 := u8_eq (n := 191) (by omega)
      have e2 : c2 = 189 := u8_eq (n := 189) (by omega)
      subst e0 e1 e2 e; simp
    · simp [hv]
  · rw [d, h]; simp; omega
/-- The program's question, whether a rune is plain. -/
def plainV (l : List UInt8) : Bool :=
  if strayL l = true ∨ valL l = 34 ∨ valL l = 92 then false else (decide (32 < valL l) && decide (valL l < 127)) || decide (159 < valL l)
theorem plain_is (l : List UInt8) (hl : l ≠ []) : plainV l = plainL l := by
  unfold plainV
  rw [stray_is l hl]
  unfold plainL valL
  rcases runOf l hl with ⟨h, d, p⟩ | ⟨c, r, e, h0, h, d⟩ | ⟨c, c1, r, e, a0, b0, a1, b1, h, d⟩ | ⟨c, c1, c2, r, e, a0, b0, a1, b1, a2, b2, u, v, h, d⟩ | ⟨c, c1, c2, c3, r, e, a0, b0, a1, b1, a2, b2, a3, b3, u, v, h, d⟩
  · simp [h]
  · rw [d, h]; subst e
    simp only [List.getD_cons_zero]
    by_cases a : c.toNat = 34 <;> by_cases b : c.toNat = 92 <;> by_cases g : c.toNat = 127 <;> by_cases k : 33 ≤ c.toNat <;> simp [a, b, g, k] <;> omega
  · rw [d, h]; subst e
    simp only [List.getD_cons_zero, List.getD_cons_succ]
    rw [if_neg (by simp; omega)]
    by_cases a : c.toNat = 194 <;> by_cases b : 159 < c1.toNat <;> simp [a, b] <;> omega
  · rw [d, h]
    rw [if_neg (by simp; omega)]
    simp; omega
  · rw [d, h]
    rw [if_neg (by simp; omega)]
    simp; omega
/-- A well-formed run is what its value is written as. -/
theorem enc_is (l : List UInt8) (h0 : runLen l ≠ 0) (hl : l ≠ []) : Lib.encodeRune (valL l) = l.take (wid l) := by
  have u : ∀ (c : UInt8) (n : Nat), n = c.toNat → n.toUInt8 = c := fun c n h => by subst h; simp
  unfold valL
  rcases runOf l hl with ⟨h, d, p⟩ | ⟨c, r, e, k, h, d⟩ | ⟨c, c1, r, e, a0, b0, a1, b1, h, d⟩ | ⟨c, c1, c2, r, e, a0, b0, a1, b1, a2, b2, x, y, h, d⟩ | ⟨c, c1, c2, c3, r, e, a0, b0, a1, b1, a2, b2, a3, b3, x, y, h, d⟩
  · exact absurd h h0
  · rw [d, wid_of h, Lib.encodeRune, Lib.encodeRuneZ_one (by omega) (by show ((c.toNat : Nat) : Int) ≤ 127; omega)]; subst e; simp
  · rw [d, wid_of h, Lib.encodeRune]
    show List.map _ (Lib.encodeRuneZ (((c.toNat - 192) * 64 + (c1.toNat - 128) : Nat) : Int)) = _
    rw [Lib.encodeRuneZ_two (by omega) (by omega)]; subst e
    simp only [List.map_cons, List.map_nil]
    rw [u c _ (by omega), u c1 _ (by omega)]; rfl
  · rw [d, wid_of h, Lib.encodeRune]
    show List.map _ (Lib.encodeRuneZ (((c.toNat - 224) * 4096 + (c1.toNat - 128) * 64 + (c2.toNat - 128) : Nat) : Int)) = _
    rw [Lib.encodeRuneZ_three (by omega)]; subst e
    simp only [List.map_cons, List.map_nil]
    rw [u c _ (by omega), u c1 _ (by omega), u c2 _ (by omega)]; rfl
  · rw [d, wid_of h, Lib.encodeRune]
    show List.map _ (Lib.encodeRuneZ (((c.toNat - 240) * 262144 + (c1.toNat - 128) * 4096 + (c2.toNat - 128) * 64 + (c3.toNat - 128) : Nat) : Int)) = _
    rw [Lib.encodeRuneZ_four (by omega) (by omega)]; subst e
    simp only [List.map_cons, List.map_nil]
    rw [u c _ (by omega), u c1 _ (by omega), u c2 _ (by omega), u c3 _ (by omega)]; rfl
theorem dec_wid (l : List UInt8) (hl : l ≠ []) : (dec l).2 = wid l := by
  rcases runOf l hl with ⟨h, d, p⟩ | ⟨c, r, e, k, h, d⟩ | ⟨c, c1, r, e, a0, b0, a1, b1, h, d⟩ | ⟨c, c1, c2, r, e, a0, b0, a1, b1, a2, b2, x, y, h, d⟩ | ⟨c, c1, c2, c3, r, e, a0, b0, a1, b1, a2, b2, a3, b3, x, y, h, d⟩
  · rw [d, wid_of h]; rfl
  · rw [d, wid_of h]; rfl
  · rw [d, wid_of h]; rfl
  · rw [d, wid_of h]; rfl
  · rw [d, wid_of h]; rfl
/-- By its value: the small ones are one byte. -/
theorem val_small (l : List UInt8) (hl : l ≠ []) (n : Nat) (hn : n < 128) : valL l = n ↔ (runLen l = 1 ∧ (l.getD 0 0).toNat = n) := by
  unfold valL
  rcases runOf l hl with ⟨h, d, p⟩ | ⟨c, r, e, k, h, d⟩ | ⟨c, c1, r, e, a0, b0, a1, b1, h, d⟩ | ⟨c, c1, c2, r, e, a0, b0, a1, b1, a2, b2, x, y, h, d⟩ | ⟨c, c1, c2, c3, r, e, a0, b0, a1, b1, a2, b2, a3, b3, x, y, h, d⟩
  · rw [d, h]; simp; omega
  · rw [d, h]; subst e; simp
  · rw [d, h]; simp; omega
  · rw [d, h]; simp; omega
  · rw [d, h]; simp; omega
theorem head_small (l : List UInt8) (hl : l ≠ []) (h : (l.getD 0 0).toNat < 128) : runLen l = 1 := by
  cases l with
  | nil => exact absurd rfl hl
  | cons c r => rw [runLen_eq]; simp at h; simp [fitsL]; omega
end Go.Proofs.Ytnajnfnkpcpacaa
