
-- Plain mathematics: fields of digits.
namespace Go.Proofs.YtmlnnbinbbmmhaaDoor

def dig (base : Nat) (c : UInt8) : Bool := decide (48 ≤ c.toNat) && decide (c.toNat < 48 + base)

/-- how many digits the text begins with -/
def cnt (base : Nat) : List UInt8 → Nat
  | [] => 0
  | c :: r => if dig base c then cnt base r + 1 else 0

def blank (l : List UInt8) : Bool := l.all (fun c => c.toNat == 32)

def dv (c : UInt8) : Nat := c.toNat - 48
def val (base : Nat) (n : Nat) (l : List UInt8) : Nat := l.foldl (fun n c => n * base + dv c) n
theorem val_nil (base n : Nat) : val base n [] = n := by simp only [val, List.foldl_nil]
theorem val_cons (base n : Nat) (c : UInt8) (r : List UInt8) : val base n (c :: r) = val base (n * base + dv c) r := by simp only [val, List.foldl_cons]

theorem cnt_le (base : Nat) (l : List UInt8) : cnt base l ≤ l.length := by
  induction l with
  | nil => simp [cnt]
  | cons c r ih => simp only [cnt]; split <;> simp <;> omega

theorem cnt_dig (base : Nat) (l : List UInt8) (i : Nat) (h : i < cnt base l) : ∃ c, l[i]? = some c ∧ dig base c = true := by
  induction l generalizing i with
  | nil => simp [cnt] at h
  | cons c r ih =>
    simp only [cnt] at h
    split at h
    · rename_i hd
      cases i with
      | zero => exact ⟨c, by simp, hd⟩
      | succ i => simpa using ih i (by omega)
    · omega

/-- the text from i on begins with no digit, all ahead of it are digits: i is the count -/
theorem cnt_of (base : Nat) (l : List UInt8) (i : Nat) (ha : ∀ j, j < i → ∃ c, l[j]? = some c ∧ dig base c = true) (hb : ∀ c, l[i]? = some c → dig base c = false) : cnt base l = i := by
  induction l generalizing i with
  | nil =>
    cases i with
    | zero => rfl
    | succ i => obtain ⟨c, h, _⟩ := ha 0 (by omega); simp at h
  | cons c r ih =>
    cases i with
    | zero => have := hb c (by simp); simp [cnt, this]
    | succ i =>
      obtain ⟨c', h, hd⟩ := ha 0 (by omega)
      simp at h; subst h
      simp only [cnt, hd, if_true]
      rw [ih i (fun j hj => by simpa using ha (j + 1) (by omega)) (fun c hc => hb c (by simpa using hc))]

theorem val_append (base n : Nat) (a b : List UInt8) : val base n (a ++ b) = val base (val base n a) b := by
  simp only [val, List.foldl_append]

theorem val_lin (base n : Nat) (l : List UInt8) : val base n l = n * base ^ l.length + val base 0 l := by
  induction l generalizing n with
  | nil => simp [val_nil]
  | cons c r ih =>
    simp only [val_cons, List.length_cons]
    rw [ih (n * base + _), ih (0 * base + _), Nat.add_mul, Nat.add_mul, Nat.pow_succ]
    rw [Nat.zero_mul, Nat.zero_mul, Nat.zero_add, Nat.mul_assoc, Nat.mul_comm base (base ^ r.length)]
    omega

theorem le_val (base n : Nat) (l : List UInt8) (hb : 1 ≤ base) : n ≤ val base n l := by
  rw [val_lin]
  have : 1 ≤ base ^ l.length := Nat.one_le_pow _ _ hb
  have := Nat.le_mul_of_pos_right n this
  omega

/-- each prefix is worth no more than the whole -/
theorem val_take_le (base : Nat) (l : List UInt8) (i : Nat) (hb : 1 ≤ base) : val base 0 (l.take i) ≤ val base 0 l := by
  have e : val base 0 l = val base (val base 0 (l.take i)) (l.drop i) := by rw [← val_append, List.take_append_drop]
  rw [e]; exact le_val _ _ _ hb

theorem val_snoc (base : Nat) (l : List UInt8) (c : UInt8) : val base 0 (l ++ [c]) = val base 0 l * base + dv c := by
  rw [val_append, val_cons, val_nil]

theorem val_lt (base : Nat) (l : List UInt8) (h : ∀ c ∈ l, dig base c = true) : val base 0 l < base ^ l.length := by
  induction l with
  | nil => simp [val_nil]
  | cons c r ih =>
    have h1 := ih (fun c hc => h c (by simp [hc]))
    have h2 := h c (by simp)
    simp only [dig, Bool.and_eq_true, decide_eq_true_eq] at h2
    simp only [val_cons, List.length_cons]
    rw [val_lin, Nat.zero_mul, Nat.zero_add, Nat.pow_succ]
    have : dv c + 1 ≤ base := by unfold dv; omega
    have := Nat.mul_le_mul_right (base ^ r.length) this
    rw [Nat.add_mul, Nat.mul_comm base] at this
    omega

/-- the document's answer to a field: number and errno -/
def rd (base : Nat) (l : List UInt8) : Nat × Nat :=
  if blank (l.drop (cnt base l)) then
    if val base 0 (l.take (cnt base l)) ≤ 9223372036854775807 then (val base 0 (l.take (cnt base l)), 0) else (0, 11)
  else (0, 10)
end Go.Proofs.YtmlnnbinbbmmhaaDoor
