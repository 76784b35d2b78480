
-- shelfref1.Dec and Oct: contracts.
import Derived.Test.YtbkfkanknfdelaaDoorRef
namespace Go.Proofs.YtbkfkanknfdelaaDoor.Rd
open Go.ChangeShapes Go.WideShapes Go.ChangeAt Go.RowKit
set_option linter.unusedVariables false
set_option maxRecDepth 100000

theorem val_zeros (B : Nat) (l : List UInt8) (h : ∀ x ∈ l, x.toNat = 48) : val B 0 l = 0 := by
  induction l with
  | nil => rw [val_nil]
  | cons c r ih =>
    have hc := h c (by simp)
    have e : 0 * B + dv c = 0 := by unfold dv; omega
    rw [val_cons, e]; exact ih (fun x hx => h x (by simp [hx]))
theorem val_bare (B : Nat) (s : ByteArray) (z n : Nat) (hz : zeros s.data.toList z) (h : z ≤ n) : val B 0 (s.data.toList.take n) = val B 0 (barePart s z n) := by
  have e : s.data.toList.take n = s.data.toList.take z ++ barePart s z n := by
    unfold barePart
    rw [← List.take_add, show z + (n - z) = n from by omega]
  have h0 : val B 0 (s.data.toList.take z) = 0 := by
    refine val_zeros B _ (fun x hx => ?_)
    obtain ⟨j, hj, ej⟩ := List.mem_iff_getElem.1 hx
    rw [List.length_take] at hj
    obtain ⟨c, h1, h2⟩ := hz j (by omega)
    rw [List.getElem_take] at ej
    rw [List.getElem?_eq_getElem (by omega), ej] at h1
    injection h1 with h1
    rw [h1]; exact h2
  rw [e, val_append, h0]
theorem bare_len (s : ByteArray) (z n : Nat) (hn : n ≤ s.size) : (barePart s z n).length = n - z := by
  have hl : s.data.toList.length = s.size := by simp
  unfold barePart; rw [List.length_take, List.length_drop]; omega
theorem bare_digits (B : Nat) (s : ByteArray) (z : Nat) : ∀ x ∈ barePart s z (cnt B s.data.toList), dig B x = true := by
  intro x hx
  have hl : s.data.toList.length = s.size := by simp
  have hn := cnt_lt B s
  obtain ⟨j, hj, ej⟩ := List.mem_iff_getElem.1 hx
  have hlen := bare_len s z (cnt B s.data.toList) hn
  have ej' : s.data.toList[z + j]'(by omega) = x := by
    rw [← ej]; simp only [barePart, List.getElem_take, List.getElem_drop]
  clear ej
  have ej := ej'
  obtain ⟨c, h1, h2⟩ := cnt_dig B s.data.toList (z + j) (by omega)
  rw [List.getElem?_eq_getElem (by omega), ej] at h1
  injection h1 with h1
  rw [h1]; exact h2
theorem bare_first (B : Nat) (s : ByteArray) (z n : Nat) (hn : n ≤ s.size) (h : z < n) (hz : notZero s.data.toList z) : ∃ c r, barePart s z n = c :: r ∧ ¬ c.toNat = 48 := by
  have hl : s.data.toList.length = s.size := by simp
  obtain ⟨c, h1, h2⟩ := hz
  rw [List.getElem?_eq_getElem (by omega)] at h1
  injection h1 with h1
  unfold barePart
  rw [List.drop_eq_getElem_cons (by omega), show n - z = (n - z - 1) + 1 from by omega, List.take_succ_cons]
  exact ⟨_, _, rfl, by rw [h1]; exact h2⟩
-- how many zeros a text begins with
def zc : List UInt8 → Nat
  | [] => 0
  | c :: r => if c.toNat = 48 then zc r + 1 else 0
theorem zc_of : ∀ (l : List UInt8) (n z : Nat), n ≤ l.length → z ≤ n → zeros l z → (z < n → notZero l z) → z = min (zc l) n
  | [], n, z, hn, hz, _, _ => by simp at hn; omega
  | c :: r, n, 0, hn, hz, h0, h1 => by
    by_cases h : n = 0
    · omega
    · obtain ⟨x, hx, hx2⟩ := h1 (by omega)
      simp at hx; subst hx
      simp [zc, hx2]
  | c :: r, 0, z + 1, hn, hz, h0, h1 => by omega
  | c :: r, n + 1, z + 1, hn, hz, h0, h1 => by
    obtain ⟨x, hx, hx2⟩ := h0 0 (by omega)
    simp at hx; subst hx
    have ih := zc_of r n z (by simpa using hn) (by omega) (fun j hj => by simpa using h0 (j + 1) (by omega)) (fun h => by
      obtain ⟨y, hy, hy2⟩ := h1 (by omega)
      exact ⟨y, by simpa using hy, hy2⟩)
    simp only [zc, hx2, if_true]
    omega
theorem zc_zeros : ∀ (l : List UInt8), zeros l (zc l)
  | [] => fun j hj => absurd hj (by simp [zc])
  | c :: r => fun j hj => by
    simp only [zc] at hj
    split at hj
    · rename_i h
      cases j with
      | zero => exact ⟨c, by simp, h⟩
      | succ j => obtain ⟨x, h1, h2⟩ := zc_zeros r j (by omega); exact ⟨x, by simpa using h1, h2⟩
    · omega
theorem zc_not : ∀ (l : List UInt8), zc l < l.length → notZero l (zc l)
  | [], h => by simp at h
  | c :: r, h => by
    by_cases hc : c.toNat = 48
    · have e : zc (c :: r) = zc r + 1 := by simp [zc, hc]
      rw [e] at h ⊢
      obtain ⟨x, h1, h2⟩ := zc_not r (by simp at h; omega)
      exact ⟨x, by simpa using h1, h2⟩
    · have e : zc (c :: r) = 0 := by simp [zc, hc]
      rw [e]; exact ⟨c, by simp, hc⟩
def zat (B : Nat) (s : ByteArray) : Nat := min (zc s.data.toList) (cnt B s.data.toList)
def bareOf (B : Nat) (s : ByteArray) : List UInt8 := barePart s (zat B s) (cnt B s.data.toList)
theorem bareOf_val (B : Nat) (s : ByteArray) : val B 0 (s.data.toList.take (cnt B s.data.toList)) = val B 0 (bareOf B s) :=
  val_bare B s _ _ (fun j hj => zc_zeros s.data.toList j (by unfold zat at hj; omega)) (by unfold zat; omega)
theorem bareOf_digits (B : Nat) (s : ByteArray) : ∀ x ∈ bareOf B s, dig B x = true := bare_digits B s _
theorem bareOf_len (B : Nat) (s : ByteArray) : (bareOf B s).length ≤ s.size := by
  have := cnt_lt B s
  unfold bareOf; rw [bare_len s _ _ this]; omega
theorem bareOf_first (B : Nat) (s : ByteArray) (h : 0 < (bareOf B s).length) : ∃ c r, bareOf B s = c :: r ∧ ¬ c.toNat = 48 := by
  have hn := cnt_lt B s
  have hl : s.data.toList.length = s.size := by simp
  unfold bareOf at h ⊢
  rw [bare_len s _ _ hn] at h
  have e : zat B s = zc s.data.toList := by unfold zat at h ⊢; omega
  exact bare_first B s _ _ hn (by omega) (by rw [e]; exact zc_not _ (by rw [hl]; omega))
theorem val_first (B : Nat) (c : UInt8) (r : List UInt8) (h : dig B c = true) (hc : ¬ c.toNat = 48) : B ^ r.length ≤ val B 0 (c :: r) := by
  have hd := (dig_iff _ _).1 h
  rw [val_cons, val_lin, Nat.zero_mul, Nat.zero_add]
  have h1 : 1 ≤ dv c := by unfold dv; omega
  have := Nat.mul_le_mul_right (B ^ r.length) h1
  omega
theorem lex : ∀ (a b : List UInt8), a.length = b.length → (∀ x ∈ a, dig 10 x = true) → (∀ x ∈ b, dig 10 x = true) →
    (Op.bytesLess a b = true → val 10 0 a < val 10 0 b) ∧ (Op.bytesLess a b = false → (a == b) = false → val 10 0 b < val 10 0 a)
  | [], [], _, _, _ => ⟨fun h => by simp [Op.bytesLess] at h, fun _ h => by simp at h⟩
  | [], _ :: _, h, _, _ => by simp at h
  | _ :: _, [], h, _, _ => by simp at h
  | x :: a, y :: b, h, ha, hb => by
    have hl : a.length = b.length := by simpa using h
    have ih := lex a b hl (fun z hz => ha z (by simp [hz])) (fun z hz => hb z (by simp [hz]))
    have va := val_lt 10 a (fun z hz => ha z (by simp [hz]))
    have vb := val_lt 10 b (fun z hz => hb z (by simp [hz]))
    have hx := (dig_iff _ _).1 (ha x (by simp))
    have hy := (dig_iff _ _).1 (hb y (by simp))
    have ex : val 10 0 (x :: a) = dv x * 10 ^ a.length + val 10 0 a := by rw [val_cons, val_lin, Nat.zero_mul, Nat.zero_add]
    have ey : val 10 0 (y :: b) = dv y * 10 ^ a.length + val 10 0 b := by rw [val_cons, val_lin, Nat.zero_mul, Nat.zero_add, hl]
    rw [← hl] at vb
    rw [ex, ey]
    have key : ∀ p q : Nat, p < q → p * 10 ^ a.length + 10 ^ a.length ≤ q * 10 ^ a.length := by
      intro p q hpq
      have := Nat.mul_le_mul_right (10 ^ a.length) hpq
      rw [Nat.succ_mul] at this; exact this
    by_cases hlt : x < y
    · have h1 : dv x < dv y := by have := UInt8.lt_iff_toNat_lt.1 hlt; unfold dv; omega
      have := key _ _ h1
      refine ⟨fun _ => by omega, fun hf => ?_⟩
      simp [Op.bytesLess, hlt] at hf
    · by_cases heq : x = y
      · subst heq
        refine ⟨fun ht => ?_, fun hf hne => ?_⟩
        · simp [Op.bytesLess] at ht
          have := ih.1 ht; omega
        · simp [Op.bytesLess] at hf
          have hne' : (a == b) = false := by simpa using hne
          have := ih.2 hf hne'; omega
      · have h1 : dv y < dv x := by
          have h2 : ¬ x.toNat < y.toNat := fun c => hlt (UInt8.lt_iff_toNat_lt.2 c)
          have h3 : ¬ x.toNat = y.toNat := fun c => heq (UInt8.toNat_inj.1 c)
          unfold dv; omega
        have := key _ _ h1
        refine ⟨fun ht => ?_, fun _ _ => by omega⟩
        simp [Op.bytesLess, hlt, heq] at ht
def maxD : List UInt8 := [57, 50, 50, 51, 51, 55, 50, 48, 51, 54, 56, 53, 52, 55, 55, 53, 56, 48, 55]
theorem maxD_val : val 10 0 maxD = 9223372036854775807 := by decide
theorem maxD_dig : ∀ x ∈ maxD, dig 10 x = true := by decide
theorem pow10_19 : (10 : Nat) ^ 19 = 10000000000000000000 := by decide
theorem pow10_18 : (10 : Nat) ^ 18 = 1000000000000000000 := by decide
theorem pow8_21 : (8 : Nat) ^ 21 = 9223372036854775808 := by decide

theorem bare_is_10 (s : ByteArray) (w : World) (hm : s.size ≤ maxLen) :
    Calls Tryd.prog 40 #[.string s, .int .i64 10] w fun e w' => e = .returned (.string (strOf (bareOf 10 s))) ∧ w' = w := by
  have hn := cnt_lt 10 s
  have hl : s.data.toList.length = s.size := by simp
  refine (bare_10 s w hm).mono fun e w' ⟨z, h1, h2, h3, h4, h5⟩ => ?_
  have e1 := zc_of s.data.toList (cnt 10 s.data.toList) z (by omega) h1 h2 h3
  refine ⟨?_, h5⟩
  rw [h4, e1]; rfl
theorem ref_dec_form (s : ByteArray) (w : World) (HF : Hid (∀ w, Calls Tryd.prog 39 #[.string s, .int .i64 10] w fun e w' => e = .returned (.bool false) ∧ w' = w)) :
    Calls Tryd.prog 23 #[.string s] w fun e w' => e = .returned (.tuple #[.int .i64 0, .int .i64 10]) ∧ w' = w := by
  go_enter Tryd.func23, Tryd.ntmps23
  go_wp2_with (go_at_call 39; refine (HF.out _).mono ?_; rintro e w1 ⟨rfl, hw1⟩; subst w1)
  go_ret2
  exact ⟨rfl, rfl⟩

theorem bare_is_8 (s : ByteArray) (w : World) (hm : s.size ≤ maxLen) :
    Calls Tryd.prog 40 #[.string s, .int .i64 8] w fun e w' => e = .returned (.string (strOf (bareOf 8 s))) ∧ w' = w := by
  have hn := cnt_lt 8 s
  have hl : s.data.toList.length = s.size := by simp
  refine (bare_8 s w hm).mono fun e w' ⟨z, h1, h2, h3, h4, h5⟩ => ?_
  have e1 := zc_of s.data.toList (cnt 8 s.data.toList) z (by omega) h1 h2 h3
  refine ⟨?_, h5⟩
  rw [h4, e1]; rfl
theorem ref_oct_form (s : ByteArray) (w : World) (HF : Hid (∀ w, Calls Tryd.prog 39 #[.string s, .int .i64 8] w fun e w' => e = .returned (.bool false) ∧ w' = w)) :
    Calls Tryd.prog 24 #[.string s] w fun e w' => e = .returned (.tuple #[.int .i64 0, .int .i64 10]) ∧ w' = w := by
  go_enter Tryd.func24, Tryd.ntmps24
  go_wp2_with (go_at_call 39; refine (HF.out _).mono ?_; rintro e w1 ⟨rfl, hw1⟩; subst w1)
  go_ret2
  exact ⟨rfl, rfl⟩

set_option maxHeartbeats 400000 in
theorem ref_oct_wide (s : ByteArray) (D : List UInt8) (w : World) (hl : 21 < D.length) (h9 : D.length ≤ 9223372036854775807)
    (HF : Hid (∀ w, Calls Tryd.prog 39 #[.string s, .int .i64 8] w fun e w' => e = .returned (.bool true) ∧ w' = w))
    (HB : Hid (∀ w, Calls Tryd.prog 40 #[.string s, .int .i64 8] w fun e w' => e = .returned (.string (strOf D)) ∧ w' = w))  :
    Calls Tryd.prog 24 #[.string s] w fun e w' => e = .returned (.tuple #[.int .i64 0, .int .i64 11]) ∧ w' = w := by
  have hsz := strOf_size D
  go_enter Tryd.func24, Tryd.ntmps24
  go_wp2_with (first
    | (go_at_call 39; refine (HF.out _).mono ?_; rintro e w1 ⟨rfl, hw1⟩; subst w1)
    | (go_at_call 40; refine (HB.out _).mono ?_; rintro e w1 ⟨rfl, hw1⟩; subst w1))
  go_ret2
  exact ⟨rfl, rfl⟩

set_option maxHeartbeats 400000 in
theorem ref_oct_ok (s : ByteArray) (D : List UInt8) (w : World) (hl : D.length ≤ 21) (h9 : D.length ≤ 9223372036854775807)
    (HF : Hid (∀ w, Calls Tryd.prog 39 #[.string s, .int .i64 8] w fun e w' => e = .returned (.bool true) ∧ w' = w))
    (HB : Hid (∀ w, Calls Tryd.prog 40 #[.string s, .int .i64 8] w fun e w' => e = .returned (.string (strOf D)) ∧ w' = w)) (HS : Hid (∀ w, Calls Tryd.prog 41 #[.string (strOf D), .int .i64 8] w fun e w' => e = .returned (.int .i64 (val 8 0 D)) ∧ w' = w)) :
    Calls Tryd.prog 24 #[.string s] w fun e w' => e = .returned (.tuple #[.int .i64 (val 8 0 D), .int .i64 0]) ∧ w' = w := by
  have hsz := strOf_size D
  go_enter Tryd.func24, Tryd.ntmps24
  go_wp2_with (first
    | (go_at_call 39; refine (HF.out _).mono ?_; rintro e w1 ⟨rfl, hw1⟩; subst w1)
    | (go_at_call 40; refine (HB.out _).mono ?_; rintro e w1 ⟨rfl, hw1⟩; subst w1)
    | (go_at_call 41; refine (HS.out _).mono ?_; rintro e w1 ⟨rfl, hw1⟩; subst w1))
  go_ret2
  exact ⟨rfl, rfl⟩

set_option maxHeartbeats 400000 in
theorem ref_dec_long (s : ByteArray) (D : List UInt8) (w : World) (hl : 19 < D.length) (h9 : D.length ≤ 9223372036854775807)
    (HF : Hid (∀ w, Calls Tryd.prog 39 #[.string s, .int .i64 10] w fun e w' => e = .returned (.bool true) ∧ w' = w))
    (HB : Hid (∀ w, Calls Tryd.prog 40 #[.string s, .int .i64 10] w fun e w' => e = .returned (.string (strOf D)) ∧ w' = w))  :
    Calls Tryd.prog 23 #[.string s] w fun e w' => e = .returned (.tuple #[.int .i64 0, .int .i64 11]) ∧ w' = w := by
  have hsz := strOf_size D
  have b1 : decide (19 < D.length) = true := by simp; omega
  go_enter Tryd.func23, Tryd.ntmps23
  go_wp2_with (first
    | (go_at_call 39; refine (HF.out _).mono ?_; rintro e w1 ⟨rfl, hw1⟩; subst w1)
    | (go_at_call 40; refine (HB.out _).mono ?_; rintro e w1 ⟨rfl, hw1⟩; subst w1))
  go_ret2
  exact ⟨rfl, rfl⟩

set_option maxHeartbeats 400000 in
theorem ref_dec_great (s : ByteArray) (D : List UInt8) (w : World) (hl : D.length = 19) (l1 : Op.bytesLess (strOf D).toList [57, 50, 50, 51, 51, 55, 50, 48, 51, 54, 56, 53, 52, 55, 55, 53, 56, 48, 55] = false) (l2 : ((strOf D).toList == [57, 50, 50, 51, 51, 55, 50, 48, 51, 54, 56, 53, 52, 55, 55, 53, 56, 48, 55]) = false) (h9 : D.length ≤ 9223372036854775807)
    (HF : Hid (∀ w, Calls Tryd.prog 39 #[.string s, .int .i64 10] w fun e w' => e = .returned (.bool true) ∧ w' = w))
    (HB : Hid (∀ w, Calls Tryd.prog 40 #[.string s, .int .i64 10] w fun e w' => e = .returned (.string (strOf D)) ∧ w' = w))  :
    Calls Tryd.prog 23 #[.string s] w fun e w' => e = .returned (.tuple #[.int .i64 0, .int .i64 11]) ∧ w' = w := by
  have hsz := strOf_size D
  rw [hl] at hsz
  clear hl
  go_enter Tryd.func23, Tryd.ntmps23
  go_wp2_with (first
    | (go_at_call 39; refine (HF.out _).mono ?_; rintro e w1 ⟨rfl, hw1⟩; subst w1)
    | (go_at_call 40; refine (HB.out _).mono ?_; rintro e w1 ⟨rfl, hw1⟩; subst w1))
  go_ret2
  exact ⟨rfl, rfl⟩

set_option maxHeartbeats 400000 in
theorem ref_dec_short (s : ByteArray) (D : List UInt8) (w : World) (hl : D.length < 19) (h9 : D.length ≤ 9223372036854775807)
    (HF : Hid (∀ w, Calls Tryd.prog 39 #[.string s, .int .i64 10] w fun e w' => e = .returned (.bool true) ∧ w' = w))
    (HB : Hid (∀ w, Calls Tryd.prog 40 #[.string s, .int .i64 10] w fun e w' => e = .returned (.string (strOf D)) ∧ w' = w)) (HS : Hid (∀ w, Calls Tryd.prog 41 #[.string (strOf D), .int .i64 10] w fun e w' => e = .returned (.int .i64 (val 10 0 D)) ∧ w' = w)) :
    Calls Tryd.prog 23 #[.string s] w fun e w' => e = .returned (.tuple #[.int .i64 (val 10 0 D), .int .i64 0]) ∧ w' = w := by
  have hsz := strOf_size D
  have b1 : decide (19 < D.length) = false := by simp; omega
  have b2 : ((D.length : Int) == 19) = false := by simp; omega
  go_enter Tryd.func23, Tryd.ntmps23
  go_wp2_with (first
    | (go_at_call 39; refine (HF.out _).mono ?_; rintro e w1 ⟨rfl, hw1⟩; subst w1)
    | (go_at_call 40; refine (HB.out _).mono ?_; rintro e w1 ⟨rfl, hw1⟩; subst w1)
    | (go_at_call 41; refine (HS.out _).mono ?_; rintro e w1 ⟨rfl, hw1⟩; subst w1))
  go_ret2
  exact ⟨rfl, rfl⟩

set_option maxHeartbeats 400000 in
theorem ref_dec_less (s : ByteArray) (D : List UInt8) (w : World) (hl : D.length = 19) (l1 : Op.bytesLess (strOf D).toList [57, 50, 50, 51, 51, 55, 50, 48, 51, 54, 56, 53, 52, 55, 55, 53, 56, 48, 55] = true) (h9 : D.length ≤ 9223372036854775807)
    (HF : Hid (∀ w, Calls Tryd.prog 39 #[.string s, .int .i64 10] w fun e w' => e = .returned (.bool true) ∧ w' = w))
    (HB : Hid (∀ w, Calls Tryd.prog 40 #[.string s, .int .i64 10] w fun e w' => e = .returned (.string (strOf D)) ∧ w' = w)) (HS : Hid (∀ w, Calls Tryd.prog 41 #[.string (strOf D), .int .i64 10] w fun e w' => e = .returned (.int .i64 (val 10 0 D)) ∧ w' = w)) :
    Calls Tryd.prog 23 #[.string s] w fun e w' => e = .returned (.tuple #[.int .i64 (val 10 0 D), .int .i64 0]) ∧ w' = w := by
  have hsz := strOf_size D
  rw [hl] at hsz
  clear hl
  go_enter Tryd.func23, Tryd.ntmps23
  go_wp2_with (first
    | (go_at_call 39; refine (HF.out _).mono ?_; rintro e w1 ⟨rfl, hw1⟩; subst w1)
    | (go_at_call 40; refine (HB.out _).mono ?_; rintro e w1 ⟨rfl, hw1⟩; subst w1)
    | (go_at_call 41; refine (HS.out _).mono ?_; rintro e w1 ⟨rfl, hw1⟩; subst w1))
  go_ret2
  exact ⟨rfl, rfl⟩

set_option maxHeartbeats 400000 in
theorem ref_dec_same (s : ByteArray) (D : List UInt8) (w : World) (hl : D.length = 19) (l1 : Op.bytesLess (strOf D).toList [57, 50, 50, 51, 51, 55, 50, 48, 51, 54, 56, 53, 52, 55, 55, 53, 56, 48, 55] = false) (l2 : ((strOf D).toList == [57, 50, 50, 51, 51, 55, 50, 48, 51, 54, 56, 53, 52, 55, 55, 53, 56, 48, 55]) = true) (h9 : D.length ≤ 9223372036854775807)
    (HF : Hid (∀ w, Calls Tryd.prog 39 #[.string s, .int .i64 10] w fun e w' => e = .returned (.bool true) ∧ w' = w))
    (HB : Hid (∀ w, Calls Tryd.prog 40 #[.string s, .int .i64 10] w fun e w' => e = .returned (.string (strOf D)) ∧ w' = w)) (HS : Hid (∀ w, Calls Tryd.prog 41 #[.string (strOf D), .int .i64 10] w fun e w' => e = .returned (.int .i64 (val 10 0 D)) ∧ w' = w)) :
    Calls Tryd.prog 23 #[.string s] w fun e w' => e = .returned (.tuple #[.int .i64 (val 10 0 D), .int .i64 0]) ∧ w' = w := by
  have hsz := strOf_size D
  rw [hl] at hsz
  clear hl
  go_enter Tryd.func23, Tryd.ntmps23
  go_wp2_with (first
    | (go_at_call 39; refine (HF.out _).mono ?_; rintro e w1 ⟨rfl, hw1⟩; subst w1)
    | (go_at_call 40; refine (HB.out _).mono ?_; rintro e w1 ⟨rfl, hw1⟩; subst w1)
    | (go_at_call 41; refine (HS.out _).mono ?_; rintro e w1 ⟨rfl, hw1⟩; subst w1))
  go_ret2
  exact ⟨rfl, rfl⟩

theorem ref_oct (s : ByteArray) (w : World) (hm : s.size ≤ maxLen) :
    Calls Tryd.prog 24 #[.string s] w fun e w' => e = .returned (.tuple #[.int .i64 (rd 8 s.data.toList).1, .int .i64 (rd 8 s.data.toList).2]) ∧ w' = w := by
  have hf0 : Hid (∀ w, Calls Tryd.prog 39 #[.string s, .int .i64 8] w fun e w' => e = .returned (.bool (blank (s.data.toList.drop (cnt 8 s.data.toList)))) ∧ w' = w) := fun w => form_8 s w hm
  have hb : Hid (∀ w, Calls Tryd.prog 40 #[.string s, .int .i64 8] w fun e w' => e = .returned (.string (strOf (bareOf 8 s))) ∧ w' = w) := fun w => bare_is_8 s w hm
  have hlen := bareOf_len 8 s
  have h9 : (bareOf 8 s).length ≤ 9223372036854775807 := by unfold maxLen at hm; omega
  have hdg := bareOf_digits 8 s
  unfold rd
  rw [bareOf_val]
  cases hf : blank (s.data.toList.drop (cnt 8 s.data.toList))
  · rw [hf] at hf0; rw [if_neg (by decide)]; exact ref_oct_form s w hf0
  · rw [hf] at hf0; rw [if_pos rfl]
    by_cases hl : (bareOf 8 s).length ≤ 21
    · have hv : val 8 0 (bareOf 8 s) ≤ 9223372036854775807 := by
        have h1 := val_lt 8 _ hdg
        have h2 : 8 ^ (bareOf 8 s).length ≤ 8 ^ 21 := Nat.pow_le_pow_right (by omega) hl
        rw [pow8_21] at h2; omega
      rw [if_pos hv]
      exact ref_oct_ok s _ w hl h9 hf0 hb (fun w => sum_8 _ w hl hdg hv)
    · have hv : ¬ val 8 0 (bareOf 8 s) ≤ 9223372036854775807 := by
        obtain ⟨c, r, e, hc⟩ := bareOf_first 8 s (by omega)
        have h1 := val_first 8 c r (hdg c (by rw [e]; simp)) hc
        rw [← e] at h1
        have hr : 21 ≤ r.length := by rw [e] at hl; simp at hl; omega
        have h2 : 8 ^ 21 ≤ 8 ^ r.length := Nat.pow_le_pow_right (by omega) hr
        rw [pow8_21] at h2; omega
      rw [if_neg hv]
      exact ref_oct_wide s _ w (by omega) h9 hf0 hb
theorem ref_dec (s : ByteArray) (w : World) (hm : s.size ≤ maxLen) :
    Calls Tryd.prog 23 #[.string s] w fun e w' => e = .returned (.tuple #[.int .i64 (rd 10 s.data.toList).1, .int .i64 (rd 10 s.data.toList).2]) ∧ w' = w := by
  have hf0 : Hid (∀ w, Calls Tryd.prog 39 #[.string s, .int .i64 10] w fun e w' => e = .returned (.bool (blank (s.data.toList.drop (cnt 10 s.data.toList)))) ∧ w' = w) := fun w => form_10 s w hm
  have hb : Hid (∀ w, Calls Tryd.prog 40 #[.string s, .int .i64 10] w fun e w' => e = .returned (.string (strOf (bareOf 10 s))) ∧ w' = w) := fun w => bare_is_10 s w hm
  have hlen := bareOf_len 10 s
  have h9 : (bareOf 10 s).length ≤ 9223372036854775807 := by unfold maxLen at hm; omega
  have hdg := bareOf_digits 10 s
  unfold rd
  rw [bareOf_val]
  cases hf : blank (s.data.toList.drop (cnt 10 s.data.toList))
  · rw [hf] at hf0; rw [if_neg (by decide)]; exact ref_dec_form s w hf0
  · rw [hf] at hf0; rw [if_pos rfl]
    by_cases hl : (bareOf 10 s).length < 19
    · have hv : val 10 0 (bareOf 10 s) ≤ 9223372036854775807 := by
        have h1 := val_lt 10 _ hdg
        have h2 : 10 ^ (bareOf 10 s).length ≤ 10 ^ 18 := Nat.pow_le_pow_right (by omega) (by omega)
        rw [pow10_18] at h2; omega
      rw [if_pos hv]
      exact ref_dec_short s _ w hl h9 hf0 hb (fun w => sum_10 _ w (by omega) hdg hv)
    · by_cases hl2 : (bareOf 10 s).length = 19
      · have ed : (strOf (bareOf 10 s)).toList = bareOf 10 s := by rw [Lib.toList_data, strOf_data]
        have L := lex (bareOf 10 s) maxD (by rw [hl2]; rfl) hdg maxD_dig
        rw [maxD_val] at L
        cases l1 : Op.bytesLess (bareOf 10 s) maxD
        · cases l2 : (bareOf 10 s == maxD)
          · have hv : ¬ val 10 0 (bareOf 10 s) ≤ 9223372036854775807 := by have := L.2 l1 l2; omega
            rw [if_neg hv]
            exact ref_dec_great s _ w hl2 (by rw [ed]; exact l1) (by rw [ed]; exact l2) h9 hf0 hb
          · have e : bareOf 10 s = maxD := by simpa using l2
            have hv : val 10 0 (bareOf 10 s) ≤ 9223372036854775807 := by rw [e, maxD_val]; exact Nat.le_refl _
            rw [if_pos hv]
            exact ref_dec_same s _ w hl2 (by rw [ed]; exact l1) (by rw [ed]; exact l2) h9 hf0 hb (fun w => sum_10 _ w (by omega) hdg hv)
        · have hv : val 10 0 (bareOf 10 s) ≤ 9223372036854775807 := by have := L.1 l1; omega
          rw [if_pos hv]
          exact ref_dec_less s _ w hl2 (by rw [ed]; exact l1) h9 hf0 hb (fun w => sum_10 _ w (by omega) hdg hv)
      · have hv : ¬ val 10 0 (bareOf 10 s) ≤ 9223372036854775807 := by
          obtain ⟨c, r, e, hc⟩ := bareOf_first 10 s (by omega)
          have h1 := val_first 10 c r (hdg c (by rw [e]; simp)) hc
          rw [← e] at h1
          have hr : 19 ≤ r.length := by rw [e] at hl hl2; simp at hl hl2; omega
          have h2 : 10 ^ 19 ≤ 10 ^ r.length := Nat.pow_le_pow_right (by omega) hr
          rw [pow10_19] at h2; omega
        rw [if_neg hv]
        exact ref_dec_long s _ w (by omega) h9 hf0 hb
end Go.Proofs.YtbkfkanknfdelaaDoor.Rd
