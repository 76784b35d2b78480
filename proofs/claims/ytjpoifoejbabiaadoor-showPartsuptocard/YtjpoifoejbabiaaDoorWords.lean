
import Derived.Test.YtjpoifoejbabiaaDoorQuote
namespace Go.Proofs.YtjpoifoejbabiaaDoor
open Go
set_option linter.unusedVariables false
set_option maxRecDepth 100000
/-- A line split: the words, or the place and the error of the first fault. -/
abbrev WRes : Type := Sum (Nat × Nat) (List ByteArray)
def partsB (c : UInt8) : Bool := c == 32 || c == 9 || c == 10
/-- The value of a hexadecimal digit. -/
def hexV (c : UInt8) : Option Nat :=
  if 48 ≤ c.toNat ∧ c.toNat ≤ 57 then some (c.toNat - 48) else if 97 ≤ c.toNat ∧ c.toNat ≤ 102 then some (c.toNat - 87) else if 65 ≤ c.toNat ∧ c.toNat ≤ 70 then some (c.toNat - 55) else none
def escX (a b : UInt8) : Option (UInt8 × Nat) :=
  match hexV a, hexV b with
  | some x, some y => some (UInt8.ofNat (16 * x + y), 4)
  | _, _ => none
/-- What stands behind a backslash: the byte, and the width of the whole escape. -/
def escL : List UInt8 → Option (UInt8 × Nat)
  | [] => none
  | c :: r => if c = 34 then some (34, 2) else if c = 92 then some (92, 2) else if c = 110 then some (10, 2) else if c = 116 then some (9, 2)
    else if c = 120 then (match r with | a :: b :: _ => escX a b | _ => none) else none
def strB (l : List UInt8) : ByteArray := ⟨l.toArray⟩
def endW (inn : Bool) (wd : List UInt8) (ws : List ByteArray) : List ByteArray := if inn then ws ++ [strB wd] else ws
theorem escL_width {l : List UInt8} {b : UInt8} {n : Nat} (h : escL l = some (b, n)) : (n = 2 ∨ n = 4) ∧ n - 1 ≤ l.length := by
  cases l with
  | nil => simp [escL] at h
  | cons c r =>
    simp only [escL] at h
    split at h
    · simp at h; simp; omega
    · split at h
      · simp at h; simp; omega
      · split at h
        · simp at h; simp; omega
        · split at h
          · simp at h; simp; omega
          · split at h
            · split at h
              · rename_i a b' t
                unfold escX at h
                split at h
                · simp at h; simp; omega
                · cases h
              · cases h
            · cases h
def scanF : Nat → List UInt8 → Nat → Option Nat → Bool → List UInt8 → List ByteArray → WRes
  | _, [], _, q, inn, wd, ws => match q with
    | some p => .inl (p, 20)
    | none => .inr (endW inn wd ws)
  | 0, _ :: _, _, _, _, _, _ => .inl (0, 0)
  | k + 1, c :: r, pos, q, inn, wd, ws =>
    if partsB c = true ∧ q = none then scanF k r (pos + 1) none false [] (endW inn wd ws)
    else if c = 92 then
      match escL r with
      | none => .inl (pos, 21)
      | some (b, n) => scanF k (r.drop (n - 1)) (pos + n) q true (wd ++ [b]) ws
    else if c = 34 then scanF k r (pos + 1) (if q = none then some pos else none) true wd ws
    else scanF k r (pos + 1) q true (wd ++ [c]) ws
theorem scanF_nil (k pos : Nat) (q : Option Nat) (inn : Bool) (wd : List UInt8) (ws : List ByteArray) :
    scanF k [] pos q inn wd ws = match q with | some p => .inl (p, 20) | none => .inr (endW inn wd ws) := by cases k <;> rfl
theorem scanF_eq (k : Nat) : ∀ (m : Nat) (l : List UInt8) (pos : Nat) (q : Option Nat) (inn : Bool) (wd : List UInt8) (ws : List ByteArray), l.length ≤ k → l.length ≤ m →
    scanF k l pos q inn wd ws = scanF m l pos q inn wd ws := by
  induction k with
  | zero =>
    intro m l pos q inn wd ws h _
    have : l = [] := List.eq_nil_of_length_eq_zero (by omega)
    subst this; rw [scanF_nil, scanF_nil]
  | succ k ih =>
    intro m l pos q inn wd ws h h'
    cases l with
    | nil => rw [scanF_nil, scanF_nil]
    | cons c r =>
      cases m with
      | zero => simp at h'
      | succ m =>
        have h1 : r.length ≤ k := Nat.le_of_succ_le_succ h
        have h2 : r.length ≤ m := Nat.le_of_succ_le_succ h'
        simp only [scanF]
        split
        · exact ih _ _ _ _ _ _ _ h1 h2
        · split
          · cases escL r with
            | none => rfl
            | some x => exact ih _ _ _ _ _ _ _ (by simp only [List.length_drop]; omega) (by simp only [List.length_drop]; omega)
          · split
            · exact ih _ _ _ _ _ _ _ h1 h2
            · exact ih _ _ _ _ _ _ _ h1 h2
def scanL (l : List UInt8) (pos : Nat) (q : Option Nat) (inn : Bool) (wd : List UInt8) (ws : List ByteArray) : WRes := scanF l.length l pos q inn wd ws
theorem scan_nil (pos : Nat) (q : Option Nat) (inn : Bool) (wd : List UInt8) (ws : List ByteArray) :
    scanL [] pos q inn wd ws = match q with | some p => .inl (p, 20) | none => .inr (endW inn wd ws) := rfl
theorem scan_cons (c : UInt8) (r : List UInt8) (pos : Nat) (q : Option Nat) (inn : Bool) (wd : List UInt8) (ws : List ByteArray) :
    scanL (c :: r) pos q inn wd ws = (if partsB c = true ∧ q = none then scanF r.length r (pos + 1) none false [] (endW inn wd ws)
      else if c = 92 then
        match escL r with
        | none => .inl (pos, 21)
        | some (b, n) => scanF r.length (r.drop (n - 1)) (pos + n) q true (wd ++ [b]) ws
      else if c = 34 then scanF r.length r (pos + 1) (if q = none then some pos else none) true wd ws
      else scanF r.length r (pos + 1) q true (wd ++ [c]) ws) := rfl
theorem scan_part {c : UInt8} (r : List UInt8) (pos : Nat) (inn : Bool) (wd : List UInt8) (ws : List ByteArray) (h : partsB c = true) :
    scanL (c :: r) pos none inn wd ws = scanL r (pos + 1) none false [] (endW inn wd ws) := by rw [scan_cons, if_pos ⟨h, rfl⟩]; rfl
theorem scan_esc (r : List UInt8) (pos : Nat) (q : Option Nat) (inn : Bool) (wd : List UInt8) (ws : List ByteArray) (b : UInt8) (n : Nat) (h : escL r = some (b, n)) :
    scanL (92 :: r) pos q inn wd ws = scanL (r.drop (n - 1)) (pos + n) q true (wd ++ [b]) ws := by
  rw [scan_cons, if_neg (by simp [partsB]), if_pos rfl, h]
  exact scanF_eq _ _ _ _ _ _ _ _ (by simp only [List.length_drop]; omega) (Nat.le_refl _)
theorem scan_bad (r : List UInt8) (pos : Nat) (q : Option Nat) (inn : Bool) (wd : List UInt8) (ws : List ByteArray) (h : escL r = none) :
    scanL (92 :: r) pos q inn wd ws = .inl (pos, 21) := by
  rw [scan_cons, if_neg (by simp [partsB]), if_pos rfl, h]
theorem scan_quote (r : List UInt8) (pos : Nat) (q : Option Nat) (inn : Bool) (wd : List UInt8) (ws : List ByteArray) :
    scanL (34 :: r) pos q inn wd ws = scanL r (pos + 1) (if q = none then some pos else none) true wd ws := by
  rw [scan_cons, if_neg (by simp [partsB]), if_neg (by decide), if_pos rfl]; rfl
theorem scan_byte {c : UInt8} (r : List UInt8) (pos : Nat) (q : Option Nat) (inn : Bool) (wd : List UInt8) (ws : List ByteArray)
    (h1 : ¬ (partsB c = true ∧ q = none)) (h2 : c ≠ 92) (h3 : c ≠ 34) :
    scanL (c :: r) pos q inn wd ws = scanL r (pos + 1) q true (wd ++ [c]) ws := by
  rw [scan_cons, if_neg h1, if_neg h2, if_neg h3]; rfl
/-- Where a word stands, it is open from its first byte on. -/
theorem scan_in (c : UInt8) (r : List UInt8) (pos : Nat) (ws : List ByteArray) (h : partsB c = false) :
    scanL (c :: r) pos none false [] ws = scanL (c :: r) pos none true [] ws := by
  by_cases h1 : c = 92
  · subst h1
    cases e : escL r with
    | none => rw [scan_bad _ _ _ _ _ _ e, scan_bad _ _ _ _ _ _ e]
    | some x => obtain ⟨b, n⟩ := x; rw [scan_esc _ _ _ _ _ _ b n e, scan_esc _ _ _ _ _ _ b n e]
  · by_cases h2 : c = 34
    · subst h2; rw [scan_quote, scan_quote]
    · rw [scan_byte _ _ _ _ _ _ (by simp [h]) h1 h2, scan_byte _ _ _ _ _ _ (by simp [h]) h1 h2]
def wordsL (l : List UInt8) : WRes := scanL l 0 none false [] []

theorem hexV_hexD (n : Nat) (h : n < 16) : hexV (hexD n) = some n := by
  have : ∀ k : Fin 16, hexV (hexD k.val) = some k.val := by decide
  exact this ⟨n, h⟩
theorem escX_hex (c : UInt8) : escX (hexD (c.toNat / 16)) (hexD (c.toNat % 16)) = some (c, 4) := by
  have hc := c.toNat_lt
  unfold escX
  rw [hexV_hexD _ (by omega), hexV_hexD _ (by omega)]
  have : 16 * (c.toNat / 16) + c.toNat % 16 = c.toNat := by omega
  simp [this]
theorem scan_hexB (c : UInt8) (rest : List UInt8) (pos : Nat) (q : Option Nat) (inn : Bool) (wd : List UInt8) (ws : List ByteArray) :
    scanL (hexB c ++ rest) pos q inn wd ws = scanL rest (pos + 4) q true (wd ++ [c]) ws := by
  have e : escL (120 :: hexD (c.toNat / 16) :: hexD (c.toNat % 16) :: rest) = some (c, 4) := by
    simp [escL, escX_hex]
  show scanL (92 :: 120 :: hexD (c.toNat / 16) :: hexD (c.toNat % 16) :: rest) pos q inn wd ws = _
  rw [scan_esc _ _ _ _ _ _ c 4 e]; rfl
theorem scan_hexs (l rest : List UInt8) : ∀ (pos : Nat) (q : Option Nat) (wd : List UInt8) (ws : List ByteArray),
    scanL (hexs l ++ rest) pos q true wd ws = scanL rest (pos + 4 * l.length) q true (wd ++ l) ws := by
  induction l with
  | nil => intro pos q wd ws; simp [hexs]
  | cons c l ih =>
    intro pos q wd ws
    have e : hexs (c :: l) ++ rest = hexB c ++ (hexs l ++ rest) := by simp [hexs]
    rw [e, scan_hexB, ih]
    simp only [List.length_cons, List.append_assoc, List.singleton_append]
    rw [show pos + 4 + 4 * l.length = pos + 4 * (l.length + 1) by omega]
/-- Bytes that stand for themselves between quotes. -/
theorem scan_selfs (l rest : List UInt8) (p : Nat) (hl : ∀ c ∈ l, c ≠ 92 ∧ c ≠ 34) : ∀ (pos : Nat) (wd : List UInt8) (ws : List ByteArray),
    scanL (l ++ rest) pos (some p) true wd ws = scanL rest (pos + l.length) (some p) true (wd ++ l) ws := by
  induction l with
  | nil => intro pos wd ws; simp
  | cons c l ih =>
    intro pos wd ws
    rw [List.cons_append, scan_byte _ _ _ _ _ _ (by simp) (hl c (by simp)).1 (hl c (by simp)).2, ih (fun d hd => hl d (by simp [hd]))]
    simp only [List.length_cons, List.append_assoc, List.singleton_append]
    rw [show pos + 1 + l.length = pos + (l.length + 1) by omega]
theorem scan_bares (l rest : List UInt8) (hl : ∀ c ∈ l, c ≠ 92 ∧ c ≠ 34 ∧ partsB c = false) : ∀ (pos : Nat) (wd : List UInt8) (ws : List ByteArray),
    scanL (l ++ rest) pos none true wd ws = scanL rest (pos + l.length) none true (wd ++ l) ws := by
  induction l with
  | nil => intro pos wd ws; simp
  | cons c l ih =>
    intro pos wd ws
    rw [List.cons_append, scan_byte _ _ _ _ _ _ (by simp [(hl c (by simp)).2.2]) (hl c (by simp)).1 (hl c (by simp)).2.1, ih (fun d hd => hl d (by simp [hd]))]
    simp only [List.length_cons, List.append_assoc, List.singleton_append]
    rw [show pos + 1 + l.length = pos + (l.length + 1) by omega]
theorem u8ne {c : UInt8} (n : UInt8) (h : c.toNat ≠ n.toNat) : c ≠ n := fun e => h (by rw [e])
theorem parts_false {c : UInt8} (h : c.toNat ≠ 32 ∧ c.toNat ≠ 9 ∧ c.toNat ≠ 10) : partsB c = false := by
  have a := u8ne 32 (c := c) h.1
  have b := u8ne 9 (c := c) h.2.1
  have d := u8ne 10 (c := c) h.2.2
  simp [partsB, a, b, d]
/-- The bytes of a plain rune. -/
theorem plain_bytes (l : List UInt8) (hl : l ≠ []) (h : plainL l = true) : ∀ c ∈ l.take (wid l), 33 ≤ c.toNat ∧ c.toNat ≠ 34 ∧ c.toNat ≠ 92 ∧ c.toNat ≠ 127 := by
  unfold plainL at h
  rcases runOf l hl with ⟨k, d, p⟩ | ⟨c, r, e, k, h', d⟩ | ⟨c, c1, r, e, a0, b0, a1, b1, h', d⟩ | ⟨c, c1, c2, r, e, a0, b0, a1, b1, a2, b2, u, v, h', d⟩ | ⟨c, c1, c2, c3, r, e, a0, b0, a1, b1, a2, b2, a3, b3, u, v, h', d⟩
  · rw [k] at h; cases h
  · rw [h'] at h; rw [wid_of h']; subst e
    simp at h
    intro x hx
    simp at hx; subst hx; omega
  · rw [wid_of h']; subst e; intro x hx; simp at hx; rcases hx with rfl | rfl <;> omega
  · rw [wid_of h']; subst e; intro x hx; simp at hx; rcases hx with rfl | rfl | rfl <;> omega
  · rw [wid_of h']; subst e; intro x hx; simp at hx; rcases hx with rfl | rfl | rfl | rfl <;> omega
theorem take_one (l : List UInt8) (hl : l ≠ []) (h : runLen l = 1) : l.take (wid l) = [l.getD 0 0] := by
  rw [wid_of h]; cases l with
  | nil => exact absurd rfl hl
  | cons c r => simp
theorem scan_one (l rest : List UInt8) (hl : l ≠ []) (pos p : Nat) (wd : List UInt8) (ws : List ByteArray) :
    scanL (oneL l ++ rest) pos (some p) true wd ws = scanL rest (pos + (oneL l).length) (some p) true (wd ++ l.take (wid l)) ws := by
  have two : ∀ (x b : UInt8), escL (x :: rest) = some (b, 2) → scanL ([92, x] ++ rest) pos (some p) true wd ws = scanL rest (pos + 2) (some p) true (wd ++ [b]) ws := by
    intro x b hx
    show scanL (92 :: x :: rest) pos (some p) true wd ws = _
    rw [scan_esc _ _ _ _ _ _ b 2 hx]; rfl
  have single : ∀ n : Nat, n < 128 → (l.getD 0 0).toNat = n → l.take (wid l) = [UInt8.ofNat n] := by
    intro n hn h
    rw [take_one l hl (head_small l hl (by omega)), u8_eq h]
  unfold oneL
  split
  · rename_i h
    have hb : ∀ c ∈ l.take (wid l), c ≠ 92 ∧ c ≠ 34 := by
      rcases h with h | h
      · intro c hc
        have := plain_bytes l hl h c hc
        exact ⟨u8ne 92 (by show c.toNat ≠ 92; omega), u8ne 34 (by show c.toNat ≠ 34; omega)⟩
      · rw [single 32 (by omega) h]; intro c hc; simp at hc; subst hc; decide
    rw [scan_selfs _ _ _ hb]
  · split
    · rename_i h1 h2; rw [two 34 34 rfl, single 34 (by omega) h2]; rfl
    · split
      · rename_i h2; rw [two 92 92 rfl, single 92 (by omega) h2]; rfl
      · split
        · rename_i h2; rw [two 110 10 rfl, single 10 (by omega) h2]; rfl
        · split
          · rename_i h2; rw [two 116 9 rfl, single 9 (by omega) h2]; rfl
          · rw [scan_hexs, hexs_length]
theorem scan_body (n : Nat) : ∀ (l rest : List UInt8) (pos p : Nat) (wd : List UInt8) (ws : List ByteArray), l.length ≤ n →
    scanL (bodyL l ++ rest) pos (some p) true wd ws = scanL rest (pos + (bodyL l).length) (some p) true (wd ++ l) ws := by
  induction n with
  | zero => intro l rest pos p wd ws h; have : l = [] := List.eq_nil_of_length_eq_zero (by omega); subst this; simp [bodyL_nil]
  | succ n ih =>
    intro l rest pos p wd ws h
    by_cases hl : l = []
    · subst hl; simp [bodyL_nil]
    · rw [bodyL_cons l hl, List.append_assoc, scan_one l _ hl, ih]
      · simp only [List.append_assoc, List.take_append_drop, List.length_append]
        rw [Nat.add_assoc]
      · have := wid_pos l
        have : 0 < l.length := List.length_pos_iff.2 hl
        simp; omega
theorem allPlain_bytes (n : Nat) : ∀ l : List UInt8, l.length ≤ n → allPlain l = true → ∀ c ∈ l, 33 ≤ c.toNat ∧ c.toNat ≠ 34 ∧ c.toNat ≠ 92 ∧ c.toNat ≠ 127 := by
  induction n with
  | zero => intro l h; have : l = [] := List.eq_nil_of_length_eq_zero (by omega); subst this; simp
  | succ n ih =>
    intro l h hp c hc
    by_cases hl : l = []
    · subst hl; simp at hc
    · rw [allPlain_cons l hl, Bool.and_eq_true] at hp
      rw [← List.take_append_drop (wid l) l, List.mem_append] at hc
      rcases hc with hc | hc
      · exact plain_bytes l hl hp.1 c hc
      · refine ih (l.drop (wid l)) ?_ hp.2 c hc
        have := wid_pos l
        have : 0 < l.length := List.length_pos_iff.2 hl
        simp; omega
/-- A told name is read as that one word. -/
theorem scan_quoteL (l rest : List UInt8) (pos : Nat) (ws : List ByteArray) :
    scanL (quoteL l ++ rest) pos none false [] ws = scanL rest (pos + (quoteL l).length) none true l ws := by
  unfold quoteL
  split
  · rename_i h
    unfold bareL at h
    rw [Bool.and_eq_true] at h
    have hb : ∀ c ∈ l, c ≠ 92 ∧ c ≠ 34 ∧ partsB c = false := by
      intro c hc
      have := allPlain_bytes _ l (Nat.le_refl _) h.2 c hc
      exact ⟨u8ne 92 (by show c.toNat ≠ 92; omega), u8ne 34 (by show c.toNat ≠ 34; omega), parts_false ⟨by omega, by omega, by omega⟩⟩
    cases l with
    | nil => simp at h
    | cons c r =>
      rw [List.cons_append, scan_in _ _ _ _ (hb c (by simp)).2.2, ← List.cons_append, scan_bares _ _ hb]; simp
  · rw [List.cons_append, scan_quote, List.append_assoc, if_pos rfl, scan_body _ _ _ _ _ _ _ (Nat.le_refl _)]
    show scanL (34 :: rest) _ _ _ _ _ = _
    rw [scan_quote]
    simp only [List.length_cons, List.length_append, List.length_nil, List.nil_append]
    rw [show pos + 1 + (bodyL l).length + 1 = pos + ((bodyL l).length + (0 + 1) + 1) by omega]
    rfl
def joinL : List (List UInt8) → List UInt8
  | [] => []
  | [w] => quoteL w
  | w :: v :: r => quoteL w ++ 32 :: joinL (v :: r)
theorem scan_join (ws : List (List UInt8)) : ∀ (pos : Nat) (acc : List ByteArray), scanL (joinL ws) pos none false [] acc = .inr (acc ++ ws.map strB) := by
  induction ws with
  | nil => intro pos acc; simp [joinL, scan_nil, endW]
  | cons w r ih =>
    intro pos acc
    cases r with
    | nil =>
      have := scan_quoteL w [] pos acc
      rw [List.append_nil] at this
      simp only [joinL, this, scan_nil, endW]; simp
    | cons v r =>
      simp only [joinL]
      rw [scan_quoteL, scan_part _ _ _ _ _ (by decide), ih]
      simp [endW]
theorem words_join (ws : List (List UInt8)) : wordsL (joinL ws) = .inr (ws.map strB) := by
  unfold wordsL; rw [scan_join]; simp
theorem words_quote (l : List UInt8) : wordsL (quoteL l) = .inr [strB l] := words_join [l]
theorem quote_inj {a b : List UInt8} (h : quoteL a = quoteL b) : a = b := by
  have e := words_quote a
  rw [h, words_quote b] at e
  injection e with e
  injection e with e
  have := congrArg (fun x => x.data.toList) e
  simpa [strB] using this.symm
/-- No well-formed run goes over a newline. -/
theorem fits_nl (f : List (Nat × Nat)) (hf : ∀ x ∈ f.tail, 10 < x.1) (hne : f ≠ []) (a b : List UInt8) (ha : a ≠ []) : fitsL f (a ++ 10 :: b) = fitsL f a := by
  have go : ∀ (f : List (Nat × Nat)), (∀ x ∈ f, 10 < x.1) → ∀ a : List UInt8, fitsL f (a ++ 10 :: b) = fitsL f a := by
    intro f
    induction f with
    | nil => intro _ a; simp [fitsL]
    | cons x f ih =>
      intro h a
      obtain ⟨lo, hi⟩ := x
      cases a with
      | nil =>
        have := h (lo, hi) (by simp)
        simp [fitsL]; intro h1; simp at this; omega
      | cons c a => simp only [List.cons_append, fitsL, ih (fun y hy => h y (by simp [hy])) a]
  cases f with
  | nil => exact absurd rfl hne
  | cons x f =>
    obtain ⟨lo, hi⟩ := x
    cases a with
    | nil => exact absurd rfl ha
    | cons c a => simp only [List.cons_append, fitsL]; rw [go f (by simpa using hf) a]
theorem runLen_nl (a b : List UInt8) (ha : a ≠ []) : runLen (a ++ 10 :: b) = runLen a := by
  rw [runLen_eq, runLen_eq]
  rw [fits_nl [(0, 127)] (by decide) (by decide) a b ha, fits_nl [(194, 223), (128, 191)] (by decide) (by decide) a b ha, fits_nl [(224, 224), (160, 191), (128, 191)] (by decide) (by decide) a b ha,
    fits_nl [(225, 236), (128, 191), (128, 191)] (by decide) (by decide) a b ha, fits_nl [(238, 239), (128, 191), (128, 191)] (by decide) (by decide) a b ha, fits_nl [(237, 237), (128, 159), (128, 191)] (by decide) (by decide) a b ha,
    fits_nl [(240, 240), (144, 191), (128, 191), (128, 191)] (by decide) (by decide) a b ha, fits_nl [(241, 243), (128, 191), (128, 191), (128, 191)] (by decide) (by decide) a b ha, fits_nl [(244, 244), (128, 143), (128, 191), (128, 191)] (by decide) (by decide) a b ha]
theorem oneL_nl (a b : List UInt8) (ha : a ≠ []) : oneL (a ++ 10 :: b) = oneL a := by
  have hr := runLen_nl a b ha
  have hw : wid (a ++ 10 :: b) = wid a := by unfold wid; rw [hr]
  have h0 : (a ++ 10 :: b).getD 0 0 = a.getD 0 0 := by cases a with | nil => exact absurd rfl ha | cons c r => simp
  have ht : (a ++ 10 :: b).take (wid a) = a.take (wid a) := by
    rw [List.take_append_of_le_length (wid_le a ha)]
  have hp : plainL (a ++ 10 :: b) = plainL a := by
    unfold plainL
    rw [hr, h0]
    have : runLen a = 2 → (a ++ 10 :: b).getD 1 0 = a.getD 1 0 := by
      intro h2
      have := runLen_le a
      match a, ha with
      | [c], _ => simp at this; omega
      | c :: d :: r, _ => simp
    split
    · rfl
    · rfl
    · rename_i h2; rw [this h2]
    · rfl
  unfold oneL
  rw [hp, h0, hw, ht]
theorem body_nl (n : Nat) : ∀ a b : List UInt8, a.length ≤ n → bodyL (a ++ 10 :: b) = bodyL a ++ 92 :: 110 :: bodyL b := by
  induction n with
  | zero =>
    intro a b h
    have : a = [] := List.eq_nil_of_length_eq_zero (by omega)
    subst this
    have hw : runLen (10 :: b) = 1 := head_small _ (by simp) (by simp)
    rw [List.nil_append, bodyL_cons _ (by simp), bodyL_nil]
    have : oneL (10 :: b) = [92, 110] := by
      have hp : plainL (10 :: b) = false := by unfold plainL; rw [hw]; simp
      unfold oneL; rw [hp]; simp
    rw [this, wid_of hw]; simp
  | succ n ih =>
    intro a b h
    by_cases ha : a = []
    · subst ha; exact (fun x => x) (by
        have hw : runLen (10 :: b) = 1 := head_small _ (by simp) (by simp)
        rw [List.nil_append, bodyL_cons _ (by simp), bodyL_nil]
        have : oneL (10 :: b) = [92, 110] := by
          have hp : plainL (10 :: b) = false := by unfold plainL; rw [hw]; simp
          unfold oneL; rw [hp]; simp
        rw [this, wid_of hw]; simp)
    · have hw : wid (a ++ 10 :: b) = wid a := by unfold wid; rw [runLen_nl a b ha]
      rw [bodyL_cons _ (by simp), oneL_nl a b ha, hw, List.drop_append_of_le_length (wid_le a ha), ih, bodyL_cons a ha]
      · simp
      · have := wid_pos a
        have : 0 < a.length := List.length_pos_iff.2 ha
        simp; omega
theorem quote_nl (a : List UInt8) : quoteL (10 :: a) = [34, 92, 110] ++ bodyL a ++ [34] := by
  have hw : runLen (10 :: a) = 1 := head_small _ (by simp) (by simp)
  have hp : plainL (10 :: a) = false := by unfold plainL; rw [hw]; simp
  have hb : bareL (10 :: a) = false := by unfold bareL; rw [allPlain_cons _ (by simp), hp]; simp
  have := body_nl 0 [] a (by simp)
  rw [bodyL_nil, List.nil_append, List.nil_append] at this
  unfold quoteL
  rw [hb, this]; simp
theorem quote_split (a b : List UInt8) : quoteL (10 :: (a ++ 10 :: b)) = [34, 92, 110] ++ bodyL a ++ [92, 110] ++ bodyL b ++ [34] := by
  rw [quote_nl, body_nl _ a b (Nat.le_refl _)]; simp
end Go.Proofs.YtjpoifoejbabiaaDoor
