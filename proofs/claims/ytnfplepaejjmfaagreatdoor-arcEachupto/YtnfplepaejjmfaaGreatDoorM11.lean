import Derived.Test.YtnfplepaejjmfaaGreatDoorSome
import Derived.Test.YtnfplepaejjmfaaGreatDoorX4

-- shelfref1.figures, form, bare, sum: contracts.
namespace Go.Proofs.YtnfplepaejjmfaaGreatDoor.Rd
open Go.ChangeShapes Go.WideShapes Go.ChangeAt Go.RowKit
set_option linter.unusedVariables false
set_option maxRecDepth 100000

def blankFrom (l : List UInt8) (a k : Nat) : Prop := ∀ j, a ≤ j → j < k → ∃ c, l[j]? = some c ∧ c.toNat = 32
theorem blankFrom_end (s : ByteArray) (a : Nat) (h : blankFrom s.data.toList a s.size) : blank (s.data.toList.drop a) = true := by
  have hl : s.data.toList.length = s.size := by simp
  unfold blank
  rw [List.all_eq_true]
  intro c hc
  obtain ⟨j, hj, e⟩ := List.mem_iff_getElem.1 hc
  rw [List.length_drop] at hj
  obtain ⟨c', h1, h2⟩ := h (a + j) (by omega) (by omega)
  rw [List.getElem_drop] at e
  rw [List.getElem?_eq_getElem (by omega), e] at h1
  injection h1 with h1
  simpa [h1] using h2
theorem blankFrom_not (s : ByteArray) (a k : Nat) (ha : a ≤ k) (h : k < s.size) (hc : ¬ s[k].toNat = 32) : blank (s.data.toList.drop a) = false := by
  have hl : s.data.toList.length = s.size := by simp
  cases e : blank (s.data.toList.drop a)
  · rfl
  · unfold blank at e
    rw [List.all_eq_true] at e
    have hm : s[k] ∈ s.data.toList.drop a := by
      refine List.mem_of_getElem? (i := k - a) ?_
      rw [List.getElem?_drop, show a + (k - a) = k from by omega]
      exact at_some s k h
    have := e s[k] hm
    simp at this; exact absurd this hc
theorem blankFrom_next (s : ByteArray) (a k : Nat) (h : k < s.size) (hd : blankFrom s.data.toList a k) (hc : s[k].toNat = 32) : blankFrom s.data.toList a (k + 1) := by
  intro j ha hj
  by_cases e : j = k
  · subst e; exact ⟨_, at_some s j h, hc⟩
  · exact hd j ha (by omega)
-- the zeros ahead of k places
def zeros (l : List UInt8) (k : Nat) : Prop := ∀ j, j < k → ∃ c, l[j]? = some c ∧ c.toNat = 48
theorem zeros_next (s : ByteArray) (k : Nat) (h : k < s.size) (hd : zeros s.data.toList k) (hc : s[k].toNat = 48) : zeros s.data.toList (k + 1) := by
  intro j hj
  by_cases e : j = k
  · subst e; exact ⟨_, at_some s j h, hc⟩
  · exact hd j (by omega)
def notZero (l : List UInt8) (z : Nat) : Prop := ∃ c, l[z]? = some c ∧ ¬ c.toNat = 48
def barePart (s : ByteArray) (z n : Nat) : List UInt8 := (s.data.toList.drop z).take (n - z)
theorem ext_bare (s : ByteArray) (z n : Nat) : s.extract z n = strOf (barePart s z n) := by
  rw [Lib.extract_eq]; rfl
theorem slice_bare (s : ByteArray) (z n : Nat) (h : z ≤ n) (hn : n ≤ s.size) : ∀ w, (Instr.slice 9 (.string s) (some (.int .i64 (z : Int))) (some (.int .i64 (n : Int))) none).run Tryz.prog w = .ok (.string (strOf (barePart s z n))) w := by
  intro w
  rw [run_slice_string w 9 s .i64 .i64 z n Tryz.underlying9 (by omega) (by omega) (by omega), Int.toNat_natCast, Int.toNat_natCast, ext_bare]

set_option maxHeartbeats 400000 in
theorem figures_10 (s : ByteArray) (w : World) (hm : s.size ≤ maxLen) :
    Calls Tryz.prog 142 #[.string s, .int .i64 10] w fun e w' => e = .returned (.int .i64 (cnt 10 s.data.toList)) ∧ w' = w := by
  unfold maxLen at hm
  go_enter Tryz.func142, Tryz.ntmps142
  go_wp2
  go_loop [5] (fun i => ∃ k : Nat, k ≤ s.size ∧ i = .int .i64 k ∧ digs 10 s.data.toList k) (fun i => s.size - (intOf i).toNat)
  case atStart => exact ⟨0, Nat.zero_le _, rfl, fun j hj => absurd hj (Nat.not_lt_zero _)⟩
  case round =>
    obtain ⟨k, hk, rfl, hd⟩ := hrel
    have HD : Hid (digs 10 s.data.toList k) := hd
    clear hd
    by_cases hlt : k < s.size
    · have hidx := idx s k hlt
      have hc9 := u8_lt' s[k]
      have b0 : decide (k < s.size) = true := by simp; omega
      obtain ⟨c, hcc⟩ : ∃ c : Nat, c = s[k].toNat := ⟨_, rfl⟩
      rw [← hcc] at hidx hc9
      have HC : Hid (c = s[k].toNat) := hcc
      clear hcc
      by_cases h1 : c < 48
      · have b1 : decide ((48 : Int) ≤ (c : Int)) = false := by simp; omega
        go_wp2
        go_ret
        exact ⟨ret_int (by rw [digs_end 10 s k hlt HD.out (dig_no _ _ (by have := HC.out; omega))]), rfl⟩
      · have b1 : decide ((48 : Int) ≤ (c : Int)) = true := by simp; omega
        by_cases h2 : 58 ≤ c
        · have b2 : decide ((c : Int) < 58) = false := by simp; omega
          go_wp2
          go_ret
          exact ⟨ret_int (by rw [digs_end 10 s k hlt HD.out (dig_no _ _ (by have := HC.out; omega))]), rfl⟩
        · have b2 : decide ((c : Int) < 58) = true := by simp; omega
          go_wp2
          go_round
          case rel => exact ⟨k + 1, by omega, by go_num, digs_next 10 s k hlt HD.out ((dig_iff _ _).2 (by have := HC.out; omega))⟩
          case measure => simp [intOf]; omega
    · obtain rfl : k = s.size := by omega
      have b0 : decide (s.size < s.size) = false := by simp
      go_wp2
      go_ret
      exact ⟨ret_int (by rw [digs_all 10 s HD.out]), rfl⟩
set_option maxHeartbeats 400000 in
theorem form_10 (s : ByteArray) (w : World) (hm : s.size ≤ maxLen) :
    Calls Tryz.prog 128 #[.string s, .int .i64 10] w fun e w' => e = .returned (.bool (blank (s.data.toList.drop (cnt 10 s.data.toList)))) ∧ w' = w := by
  have HC : Hid (∀ w, Calls Tryz.prog 142 #[.string s, .int .i64 10] w fun e w' => e = .returned (.int .i64 (cnt 10 s.data.toList)) ∧ w' = w) := fun w => figures_10 s w hm
  have hcl := cnt_lt 10 s
  unfold maxLen at hm
  obtain ⟨n, hn⟩ : ∃ n, n = cnt 10 s.data.toList := ⟨_, rfl⟩
  rw [← hn] at hcl HC ⊢
  clear hn
  go_enter Tryz.func128, Tryz.ntmps128
  go_wp2_with (go_at_call 142; refine (HC.out _).mono ?_; rintro e w1 ⟨rfl, hw1⟩; subst w1)
  go_loop [5] (fun i => ∃ k : Nat, n ≤ k ∧ k ≤ s.size ∧ i = .int .i64 k ∧ blankFrom s.data.toList n k) (fun i => s.size - (intOf i).toNat)
  case atStart => exact ⟨n, Nat.le_refl _, hcl, rfl, fun j h1 h2 => absurd h1 (by omega)⟩
  case round =>
    obtain ⟨k, hnk, hk, rfl, hd⟩ := hrel
    have HD : Hid (blankFrom s.data.toList n k) := hd
    clear hd
    by_cases hlt : k < s.size
    · have hidx := idx s k hlt
      by_cases hc : s[k].toNat = 32
      · have hc' : ((s[k].toNat : Int) != 32) = false := by simp; omega
        have HX : Hid (s[k].toNat = 32) := hc
        clear hc
        go_wp2
        go_round
        case rel => exact ⟨k + 1, by omega, by omega, by go_num, blankFrom_next s n k hlt HD.out HX.out⟩
        case measure => simp [intOf]; omega
      · have hc' : ((s[k].toNat : Int) != 32) = true := by simp; omega
        have HX : Hid (¬ s[k].toNat = 32) := hc
        clear hc
        go_wp2
        go_ret
        exact ⟨by rw [blankFrom_not s n k hnk hlt HX.out]; rfl, rfl⟩
    · obtain rfl : k = s.size := by omega
      go_wp2
      go_ret
      exact ⟨by rw [blankFrom_end s n HD.out]; rfl, rfl⟩
set_option maxHeartbeats 400000 in
theorem bare_10 (s : ByteArray) (w : World) (hm : s.size ≤ maxLen) :
    Calls Tryz.prog 129 #[.string s, .int .i64 10] w fun e w' => ∃ z, z ≤ cnt 10 s.data.toList ∧ zeros s.data.toList z ∧ (z < cnt 10 s.data.toList → notZero s.data.toList z) ∧ e = .returned (.string (strOf (barePart s z (cnt 10 s.data.toList)))) ∧ w' = w := by
  have HC : Hid (∀ w, Calls Tryz.prog 142 #[.string s, .int .i64 10] w fun e w' => e = .returned (.int .i64 (cnt 10 s.data.toList)) ∧ w' = w) := fun w => figures_10 s w hm
  have hcl := cnt_lt 10 s
  unfold maxLen at hm
  obtain ⟨n, hn⟩ : ∃ n, n = cnt 10 s.data.toList := ⟨_, rfl⟩
  rw [← hn] at hcl HC ⊢
  clear hn
  go_enter Tryz.func129, Tryz.ntmps129
  go_wp2_with (go_at_call 142; refine (HC.out _).mono ?_; rintro e w1 ⟨rfl, hw1⟩; subst w1)
  go_loop [6] (fun i => ∃ k : Nat, k ≤ n ∧ i = .int .i64 k ∧ zeros s.data.toList k) (fun i => n - (intOf i).toNat)
  case atStart => exact ⟨0, Nat.zero_le _, rfl, fun j hj => absurd hj (Nat.not_lt_zero _)⟩
  case round =>
    obtain ⟨k, hk, rfl, hd⟩ := hrel
    have HD : Hid (zeros s.data.toList k) := hd
    clear hd
    have hsl := slice_bare s k n hk hcl
    by_cases hlt : k < n
    · have hk2 : k < s.size := by omega
      have hidx := idx s k hk2
      have b0 : decide (k < n) = true := by simp; omega
      by_cases hc : s[k].toNat = 48
      · have hc' : ((s[k].toNat : Int) == 48) = true := by simp; omega
        have HX : Hid (s[k].toNat = 48) := hc
        clear hc
        go_wp2
        go_round
        case rel => exact ⟨k + 1, by omega, by go_num, zeros_next s k hk2 HD.out HX.out⟩
        case measure => simp [intOf]; omega
      · have hc' : ((s[k].toNat : Int) == 48) = false := by simp; omega
        have HX : Hid (¬ s[k].toNat = 48) := hc
        clear hc
        go_wp2
        go_ret
        exact ⟨k, hk, HD.out, fun _ => ⟨_, at_some s k hk2, HX.out⟩, rfl, rfl⟩
    · obtain rfl : k = n := by omega
      have b0 : decide (k < k) = false := by simp
      go_wp2
      go_ret
      exact ⟨k, hk, HD.out, fun h => absurd h (by omega), rfl, rfl⟩

set_option maxHeartbeats 400000 in
theorem figures_8 (s : ByteArray) (w : World) (hm : s.size ≤ maxLen) :
    Calls Tryz.prog 142 #[.string s, .int .i64 8] w fun e w' => e = .returned (.int .i64 (cnt 8 s.data.toList)) ∧ w' = w := by
  unfold maxLen at hm
  go_enter Tryz.func142, Tryz.ntmps142
  go_wp2
  go_loop [5] (fun i => ∃ k : Nat, k ≤ s.size ∧ i = .int .i64 k ∧ digs 8 s.data.toList k) (fun i => s.size - (intOf i).toNat)
  case atStart => exact ⟨0, Nat.zero_le _, rfl, fun j hj => absurd hj (Nat.not_lt_zero _)⟩
  case round =>
    obtain ⟨k, hk, rfl, hd⟩ := hrel
    have HD : Hid (digs 8 s.data.toList k) := hd
    clear hd
    by_cases hlt : k < s.size
    · have hidx := idx s k hlt
      have hc9 := u8_lt' s[k]
      have b0 : decide (k < s.size) = true := by simp; omega
      obtain ⟨c, hcc⟩ : ∃ c : Nat, c = s[k].toNat := ⟨_, rfl⟩
      rw [← hcc] at hidx hc9
      have HC : Hid (c = s[k].toNat) := hcc
      clear hcc
      by_cases h1 : c < 48
      · have b1 : decide ((48 : Int) ≤ (c : Int)) = false := by simp; omega
        go_wp2
        go_ret
        exact ⟨ret_int (by rw [digs_end 8 s k hlt HD.out (dig_no _ _ (by have := HC.out; omega))]), rfl⟩
      · have b1 : decide ((48 : Int) ≤ (c : Int)) = true := by simp; omega
        by_cases h2 : 56 ≤ c
        · have b2 : decide ((c : Int) < 56) = false := by simp; omega
          go_wp2
          go_ret
          exact ⟨ret_int (by rw [digs_end 8 s k hlt HD.out (dig_no _ _ (by have := HC.out; omega))]), rfl⟩
        · have b2 : decide ((c : Int) < 56) = true := by simp; omega
          go_wp2
          go_round
          case rel => exact ⟨k + 1, by omega, by go_num, digs_next 8 s k hlt HD.out ((dig_iff _ _).2 (by have := HC.out; omega))⟩
          case measure => simp [intOf]; omega
    · obtain rfl : k = s.size := by omega
      have b0 : decide (s.size < s.size) = false := by simp
      go_wp2
      go_ret
      exact ⟨ret_int (by rw [digs_all 8 s HD.out]), rfl⟩
set_option maxHeartbeats 400000 in
theorem form_8 (s : ByteArray) (w : World) (hm : s.size ≤ maxLen) :
    Calls Tryz.prog 128 #[.string s, .int .i64 8] w fun e w' => e = .returned (.bool (blank (s.data.toList.drop (cnt 8 s.data.toList)))) ∧ w' = w := by
  have HC : Hid (∀ w, Calls Tryz.prog 142 #[.string s, .int .i64 8] w fun e w' => e = .returned (.int .i64 (cnt 8 s.data.toList)) ∧ w' = w) := fun w => figures_8 s w hm
  have hcl := cnt_lt 8 s
  unfold maxLen at hm
  obtain ⟨n, hn⟩ : ∃ n, n = cnt 8 s.data.toList := ⟨_, rfl⟩
  rw [← hn] at hcl HC ⊢
  clear hn
  go_enter Tryz.func128, Tryz.ntmps128
  go_wp2_with (go_at_call 142; refine (HC.out _).mono ?_; rintro e w1 ⟨rfl, hw1⟩; subst w1)
  go_loop [5] (fun i => ∃ k : Nat, n ≤ k ∧ k ≤ s.size ∧ i = .int .i64 k ∧ blankFrom s.data.toList n k) (fun i => s.size - (intOf i).toNat)
  case atStart => exact ⟨n, Nat.le_refl _, hcl, rfl, fun j h1 h2 => absurd h1 (by omega)⟩
  case round =>
    obtain ⟨k, hnk, hk, rfl, hd⟩ := hrel
    have HD : Hid (blankFrom s.data.toList n k) := hd
    clear hd
    by_cases hlt : k < s.size
    · have hidx := idx s k hlt
      by_cases hc : s[k].toNat = 32
      · have hc' : ((s[k].toNat : Int) != 32) = false := by simp; omega
        have HX : Hid (s[k].toNat = 32) := hc
        clear hc
        go_wp2
        go_round
        case rel => exact ⟨k + 1, by omega, by omega, by go_num, blankFrom_next s n k hlt HD.out HX.out⟩
        case measure => simp [intOf]; omega
      · have hc' : ((s[k].toNat : Int) != 32) = true := by simp; omega
        have HX : Hid (¬ s[k].toNat = 32) := hc
        clear hc
        go_wp2
        go_ret
        exact ⟨by rw [blankFrom_not s n k hnk hlt HX.out]; rfl, rfl⟩
    · obtain rfl : k = s.size := by omega
      go_wp2
      go_ret
      exact ⟨by rw [blankFrom_end s n HD.out]; rfl, rfl⟩
set_option maxHeartbeats 400000 in
theorem bare_8 (s : ByteArray) (w : World) (hm : s.size ≤ maxLen) :
    Calls Tryz.prog 129 #[.string s, .int .i64 8] w fun e w' => ∃ z, z ≤ cnt 8 s.data.toList ∧ zeros s.data.toList z ∧ (z < cnt 8 s.data.toList → notZero s.data.toList z) ∧ e = .returned (.string (strOf (barePart s z (cnt 8 s.data.toList)))) ∧ w' = w := by
  have HC : Hid (∀ w, Calls Tryz.prog 142 #[.string s, .int .i64 8] w fun e w' => e = .returned (.int .i64 (cnt 8 s.data.toList)) ∧ w' = w) := fun w => figures_8 s w hm
  have hcl := cnt_lt 8 s
  unfold maxLen at hm
  obtain ⟨n, hn⟩ : ∃ n, n = cnt 8 s.data.toList := ⟨_, rfl⟩
  rw [← hn] at hcl HC ⊢
  clear hn
  go_enter Tryz.func129, Tryz.ntmps129
  go_wp2_with (go_at_call 142; refine (HC.out _).mono ?_; rintro e w1 ⟨rfl, hw1⟩; subst w1)
  go_loop [6] (fun i => ∃ k : Nat, k ≤ n ∧ i = .int .i64 k ∧ zeros s.data.toList k) (fun i => n - (intOf i).toNat)
  case atStart => exact ⟨0, Nat.zero_le _, rfl, fun j hj => absurd hj (Nat.not_lt_zero _)⟩
  case round =>
    obtain ⟨k, hk, rfl, hd⟩ := hrel
    have HD : Hid (zeros s.data.toList k) := hd
    clear hd
    have hsl := slice_bare s k n hk hcl
    by_cases hlt : k < n
    · have hk2 : k < s.size := by omega
      have hidx := idx s k hk2
      have b0 : decide (k < n) = true := by simp; omega
      by_cases hc : s[k].toNat = 48
      · have hc' : ((s[k].toNat : Int) == 48) = true := by simp; omega
        have HX : Hid (s[k].toNat = 48) := hc
        clear hc
        go_wp2
        go_round
        case rel => exact ⟨k + 1, by omega, by go_num, zeros_next s k hk2 HD.out HX.out⟩
        case measure => simp [intOf]; omega
      · have hc' : ((s[k].toNat : Int) == 48) = false := by simp; omega
        have HX : Hid (¬ s[k].toNat = 48) := hc
        clear hc
        go_wp2
        go_ret
        exact ⟨k, hk, HD.out, fun _ => ⟨_, at_some s k hk2, HX.out⟩, rfl, rfl⟩
    · obtain rfl : k = n := by omega
      have b0 : decide (k < k) = false := by simp
      go_wp2
      go_ret
      exact ⟨k, hk, HD.out, fun h => absurd h (by omega), rfl, rfl⟩

def sufAt (B : Nat) (D : List UInt8) (j : Nat) : Nat := val B 0 (D.drop j)
def worth (B m j : Nat) : Nat := B ^ (min (m - j) (m - 1))
theorem suf_prev (B : Nat) (D : List UInt8) (j : Nat) (h : j < D.length) : sufAt B D j = dv D[j] * B ^ (D.length - (j + 1)) + sufAt B D (j + 1) := by
  unfold sufAt
  rw [List.drop_eq_getElem_cons h, val_cons, val_lin, List.length_drop, Nat.zero_mul, Nat.zero_add]
theorem suf_le (B : Nat) (D : List UInt8) (j : Nat) : sufAt B D j ≤ val B 0 D := by
  have e : val B 0 D = val B (val B 0 (D.take j)) (D.drop j) := by rw [← val_append, List.take_append_drop]
  have h := val_lin B (val B 0 (D.take j)) (D.drop j)
  unfold sufAt
  rw [e, h]; exact Nat.le_add_left _ _
theorem worth_next (B m j : Nat) (h1 : 1 ≤ j) (h2 : j < m) : worth B m (j + 1) * B = worth B m j := by
  unfold worth
  rw [Nat.min_eq_left (by omega), Nat.min_eq_left (by omega), ← Nat.pow_succ]
  congr 1; omega
theorem worth_zero (B m i : Nat) (h : i = 0) : worth B m (i + 1) = worth B m i := by
  subst h; unfold worth
  congr 1; omega
theorem worth_at (B m j : Nat) (h1 : j < m) : worth B m (j + 1) = B ^ (m - (j + 1)) := by
  unfold worth; rw [Nat.min_eq_left (by omega)]
theorem worth_10 (m j : Nat) (hm : m ≤ 19) : worth 10 m j ≤ 1000000000000000000 := by
  unfold worth
  have h : 10 ^ (min (m - j) (m - 1)) ≤ 10 ^ 18 := Nat.pow_le_pow_right (by omega) (by omega)
  have e : (10 : Nat) ^ 18 = 1000000000000000000 := by decide
  omega
theorem worth_8 (m j : Nat) (hm : m ≤ 21) : worth 8 m j ≤ 1152921504606846976 := by
  unfold worth
  have h : 8 ^ (min (m - j) (m - 1)) ≤ 8 ^ 20 := Nat.pow_le_pow_right (by omega) (by omega)
  have e : (8 : Nat) ^ 20 = 1152921504606846976 := by decide
  omega
theorem add_step (c x n r : Nat) (h : 48 ≤ c) (e : r = (c - 48) * x + n) (hr : r ≤ 9223372036854775807) : wrap64 ((n : Int) + wrap64 (((c : Int) - 48) * (x : Int))) = (r : Int) := by
  have e1 : ((c : Int) - 48) * (x : Int) = (((c - 48) * x : Nat) : Int) := by
    rw [Int.natCast_mul]; congr 1; omega
  rw [e1]
  simp only [wrap64]
  omega
theorem mul_step (x y B : Nat) (e : x * B = y) (hy : y ≤ 9223372036854775807) : wrap64 ((x : Int) * (B : Int)) = (y : Int) := by
  have e1 : (x : Int) * (B : Int) = (y : Int) := by rw [← e, Int.natCast_mul]
  rw [e1]; simp only [wrap64]; omega

set_option maxHeartbeats 400000 in
theorem sum_10 (D : List UInt8) (w : World) (hm : D.length ≤ 19) (hd : ∀ x ∈ D, dig 10 x = true) (hv : val 10 0 D ≤ 9223372036854775807) :
    Calls Tryz.prog 130 #[.string (strOf D), .int .i64 10] w fun e w' => e = .returned (.int .i64 (val 10 0 D)) ∧ w' = w := by
  have HD : Hid (∀ x ∈ D, dig 10 x = true) := hd
  have HV : Hid (val 10 0 D ≤ 9223372036854775807) := hv
  have hsz := strOf_size D
  clear hd hv
  go_enter Tryz.func130, Tryz.ntmps130
  go_wp2
  go_loop [5, 6, 7] (fun n t i => ∃ j : Nat, j ≤ D.length ∧ i = .int .i64 ((j : Int) - 1) ∧ n = .int .i64 (sufAt 10 D j) ∧ t = .int .i64 (worth 10 D.length j)) (fun _ _ i => (intOf i + 1).toNat)
  case atStart => exact ⟨D.length, Nat.le_refl _, rfl, by simp [sufAt, val_nil], by simp [worth]⟩
  case round =>
    obtain ⟨j, hj, rfl, rfl, rfl⟩ := hrel
    by_cases hlt : 1 ≤ j
    · obtain ⟨i, rfl⟩ : ∃ i, j = i + 1 := ⟨j - 1, by omega⟩
      have hi : i < D.length := by omega
      have hi2 : i < (strOf D).size := by omega
      have ei : (((i + 1 : Nat) : Int) - 1) = (i : Int) := by omega
      rw [ei]
      have hidx := idx (strOf D) i hi2
      have hcd : (strOf D)[i] = D[i] := rfl
      have hdg := (dig_iff _ _).1 (HD.out D[i] (List.getElem_mem hi))
      have hsp := suf_prev 10 D i hi
      have hsl := Nat.le_trans (suf_le 10 D i) HV.out
      have hw9 := worth_10 D.length (i + 1) hm
      rw [hcd] at hidx
      obtain ⟨c, hc⟩ : ∃ c : Nat, c = D[i].toNat := ⟨_, rfl⟩
      rw [← hc] at hidx hdg
      have HS : Hid (sufAt 10 D i = (c - 48) * worth 10 D.length (i + 1) + sufAt 10 D (i + 1)) := by
        have hwa := worth_at 10 D.length i hi
        rw [hwa, hsp, hc]; rfl
      have HL : Hid (sufAt 10 D i ≤ 9223372036854775807) := hsl
      have hc9 : c < 256 := by omega
      clear hcd hsp hsl hc
      by_cases hz : 0 < i
      · have HW : Hid (worth 10 D.length (i + 1) * 10 = worth 10 D.length i) := worth_next 10 D.length i hz hi
        have HW9 : Hid (worth 10 D.length i ≤ 1000000000000000000) := worth_10 D.length i hm
        go_wp2
        go_round
        case rel =>
          refine ⟨i, by omega, by go_num, int_eq_of ?_, int_eq_of ?_⟩
          · exact add_step c _ _ _ (by omega) HS.out HL.out
          · first | exact mul_step _ _ 10 HW.out (by have := HW9.out; omega) | (have := HW.out; omega)
        case measure => simp [intOf]
      · have HZ : Hid (worth 10 D.length (i + 1) = worth 10 D.length i) := worth_zero 10 D.length i (by omega)
        go_wp2
        go_round
        case rel =>
          refine ⟨i, by omega, by go_num, int_eq_of ?_, int_eq_of (by rw [HZ.out])⟩
          exact add_step c _ _ _ (by omega) HS.out HL.out
        case measure => simp [intOf]
    · obtain rfl : j = 0 := by omega
      go_wp2
      go_ret
      exact ⟨rfl, rfl⟩

set_option maxHeartbeats 400000 in
theorem sum_8 (D : List UInt8) (w : World) (hm : D.length ≤ 21) (hd : ∀ x ∈ D, dig 8 x = true) (hv : val 8 0 D ≤ 9223372036854775807) :
    Calls Tryz.prog 130 #[.string (strOf D), .int .i64 8] w fun e w' => e = .returned (.int .i64 (val 8 0 D)) ∧ w' = w := by
  have HD : Hid (∀ x ∈ D, dig 8 x = true) := hd
  have HV : Hid (val 8 0 D ≤ 9223372036854775807) := hv
  have hsz := strOf_size D
  clear hd hv
  go_enter Tryz.func130, Tryz.ntmps130
  go_wp2
  go_loop [5, 6, 7] (fun n t i => ∃ j : Nat, j ≤ D.length ∧ i = .int .i64 ((j : Int) - 1) ∧ n = .int .i64 (sufAt 8 D j) ∧ t = .int .i64 (worth 8 D.length j)) (fun _ _ i => (intOf i + 1).toNat)
  case atStart => exact ⟨D.length, Nat.le_refl _, rfl, by simp [sufAt, val_nil], by simp [worth]⟩
  case round =>
    obtain ⟨j, hj, rfl, rfl, rfl⟩ := hrel
    by_cases hlt : 1 ≤ j
    · obtain ⟨i, rfl⟩ : ∃ i, j = i + 1 := ⟨j - 1, by omega⟩
      have hi : i < D.length := by omega
      have hi2 : i < (strOf D).size := by omega
      have ei : (((i + 1 : Nat) : Int) - 1) = (i : Int) := by omega
      rw [ei]
      have hidx := idx (strOf D) i hi2
      have hcd : (strOf D)[i] = D[i] := rfl
      have hdg := (dig_iff _ _).1 (HD.out D[i] (List.getElem_mem hi))
      have hsp := suf_prev 8 D i hi
      have hsl := Nat.le_trans (suf_le 8 D i) HV.out
      have hw9 := worth_8 D.length (i + 1) hm
      rw [hcd] at hidx
      obtain ⟨c, hc⟩ : ∃ c : Nat, c = D[i].toNat := ⟨_, rfl⟩
      rw [← hc] at hidx hdg
      have HS : Hid (sufAt 8 D i = (c - 48) * worth 8 D.length (i + 1) + sufAt 8 D (i + 1)) := by
        have hwa := worth_at 8 D.length i hi
        rw [hwa, hsp, hc]; rfl
      have HL : Hid (sufAt 8 D i ≤ 9223372036854775807) := hsl
      have hc9 : c < 256 := by omega
      clear hcd hsp hsl hc
      by_cases hz : 0 < i
      · have HW : Hid (worth 8 D.length (i + 1) * 8 = worth 8 D.length i) := worth_next 8 D.length i hz hi
        have HW9 : Hid (worth 8 D.length i ≤ 1152921504606846976) := worth_8 D.length i hm
        go_wp2
        go_round
        case rel =>
          refine ⟨i, by omega, by go_num, int_eq_of ?_, int_eq_of ?_⟩
          · exact add_step c _ _ _ (by omega) HS.out HL.out
          · first | exact mul_step _ _ 8 HW.out (by have := HW9.out; omega) | (have := HW.out; omega)
        case measure => simp [intOf]
      · have HZ : Hid (worth 8 D.length (i + 1) = worth 8 D.length i) := worth_zero 8 D.length i (by omega)
        go_wp2
        go_round
        case rel =>
          refine ⟨i, by omega, by go_num, int_eq_of ?_, int_eq_of (by rw [HZ.out])⟩
          exact add_step c _ _ _ (by omega) HS.out HL.out
        case measure => simp [intOf]
    · obtain rfl : j = 0 := by omega
      go_wp2
      go_ret
      exact ⟨rfl, rfl⟩
end Go.Proofs.YtnfplepaejjmfaaGreatDoor.Rd

-- shelfref1.Dec and Oct: contracts.
namespace Go.Proofs.YtnfplepaejjmfaaGreatDoor.Rd
open Go.ChangeShapes Go.WideShapes Go.ChangeAt Go.RowKit
set_option linter.unusedVariables false
set_option maxRecDepth 100000

theorem val_zeros (B : Nat) (l : List UInt8) (h : ∀ x ∈ l, x.toNat = 48) : val B 0 l = 0 := by
  induction l with
  | nil => rw [val_nil]
  | cons c r ih =>
    have hc := h c (by simp)
    have e : 0 * B + dv c = 0 := by unfold dv; omega
    rw [val_cons, e]; exact ih (fun x hx => h x (by simp [hx]))
theorem val_bare (B : Nat) (s : ByteArray) (z n : Nat) (hz : zeros s.data.toList z) (h : z ≤ n) : val B 0 (s.data.toList.take n) = val B 0 (barePart s z n) := by
  have e : s.data.toList.take n = s.data.toList.take z ++ barePart s z n := by
    unfold barePart
    rw [← List.take_add, show z + (n - z) = n from by omega]
  have h0 : val B 0 (s.data.toList.take z) = 0 := by
    refine val_zeros B _ (fun x hx => ?_)
    obtain ⟨j, hj, ej⟩ := List.mem_iff_getElem.1 hx
    rw [List.length_take] at hj
    obtain ⟨c, h1, h2⟩ := hz j (by omega)
    rw [List.getElem_take] at ej
    rw [List.getElem?_eq_getElem (by omega), ej] at h1
    injection h1 with h1
    rw [h1]; exact h2
  rw [e, val_append, h0]
theorem bare_len (s : ByteArray) (z n : Nat) (hn : n ≤ s.size) : (barePart s z n).length = n - z := by
  have hl : s.data.toList.length = s.size := by simp
  unfold barePart; rw [List.length_take, List.length_drop]; omega
theorem bare_digits (B : Nat) (s : ByteArray) (z : Nat) : ∀ x ∈ barePart s z (cnt B s.data.toList), dig B x = true := by
  intro x hx
  have hl : s.data.toList.length = s.size := by simp
  have hn := cnt_lt B s
  obtain ⟨j, hj, ej⟩ := List.mem_iff_getElem.1 hx
  have hlen := bare_len s z (cnt B s.data.toList) hn
  have ej' : s.data.toList[z + j]'(by omega) = x := by
    rw [← ej]; simp only [barePart, List.getElem_take, List.getElem_drop]
  clear ej
  have ej := ej'
  obtain ⟨c, h1, h2⟩ := cnt_dig B s.data.toList (z + j) (by omega)
  rw [List.getElem?_eq_getElem (by omega), ej] at h1
  injection h1 with h1
  rw [h1]; exact h2
theorem bare_first (B : Nat) (s : ByteArray) (z n : Nat) (hn : n ≤ s.size) (h : z < n) (hz : notZero s.data.toList z) : ∃ c r, barePart s z n = c :: r ∧ ¬ c.toNat = 48 := by
  have hl : s.data.toList.length = s.size := by simp
  obtain ⟨c, h1, h2⟩ := hz
  rw [List.getElem?_eq_getElem (by omega)] at h1
  injection h1 with h1
  unfold barePart
  rw [List.drop_eq_getElem_cons (by omega), show n - z = (n - z - 1) + 1 from by omega, List.take_succ_cons]
  exact ⟨_, _, rfl, by rw [h1]; exact h2⟩
-- how many zeros a text begins with
def zc : List UInt8 → Nat
  | [] => 0
  | c :: r => if c.toNat = 48 then zc r + 1 else 0
theorem zc_of : ∀ (l : List UInt8) (n z : Nat), n ≤ l.length → z ≤ n → zeros l z → (z < n → notZero l z) → z = min (zc l) n
  | [], n, z, hn, hz, _, _ => by simp at hn; omega
  | c :: r, n, 0, hn, hz, h0, h1 => by
    by_cases h : n = 0
    · omega
    · obtain ⟨x, hx, hx2⟩ := h1 (by omega)
      simp at hx; subst hx
      simp [zc, hx2]
  | c :: r, 0, z + 1, hn, hz, h0, h1 => by omega
  | c :: r, n + 1, z + 1, hn, hz, h0, h1 => by
    obtain ⟨x, hx, hx2⟩ := h0 0 (by omega)
    simp at hx; subst hx
    have ih := zc_of r n z (by simpa using hn) (by omega) (fun j hj => by simpa using h0 (j + 1) (by omega)) (fun h => by
      obtain ⟨y, hy, hy2⟩ := h1 (by omega)
      exact ⟨y, by simpa using hy, hy2⟩)
    simp only [zc, hx2, if_true]
    omega
theorem zc_zeros : ∀ (l : List UInt8), zeros l (zc l)
  | [] => fun j hj => absurd hj (by simp [zc])
  | c :: r => fun j hj => by
    simp only [zc] at hj
    split at hj
    · rename_i h
      cases j with
      | zero => exact ⟨c, by simp, h⟩
      | succ j => obtain ⟨x, h1, h2⟩ := zc_zeros r j (by omega); exact ⟨x, by simpa using h1, h2⟩
    · omega
theorem zc_not : ∀ (l : List UInt8), zc l < l.length → notZero l (zc l)
  | [], h => by simp at h
  | c :: r, h => by
    by_cases hc : c.toNat = 48
    · have e : zc (c :: r) = zc r + 1 := by simp [zc, hc]
      rw [e] at h ⊢
      obtain ⟨x, h1, h2⟩ := zc_not r (by simp at h; omega)
      exact ⟨x, by simpa using h1, h2⟩
    · have e : zc (c :: r) = 0 := by simp [zc, hc]
      rw [e]; exact ⟨c, by simp, hc⟩
def zat (B : Nat) (s : ByteArray) : Nat := min (zc s.data.toList) (cnt B s.data.toList)
def bareOf (B : Nat) (s : ByteArray) : List UInt8 := barePart s (zat B s) (cnt B s.data.toList)
theorem bareOf_val (B : Nat) (s : ByteArray) : val B 0 (s.data.toList.take (cnt B s.data.toList)) = val B 0 (bareOf B s) :=
  val_bare B s _ _ (fun j hj => zc_zeros s.data.toList j (by unfold zat at hj; omega)) (by unfold zat; omega)
theorem bareOf_digits (B : Nat) (s : ByteArray) : ∀ x ∈ bareOf B s, dig B x = true := bare_digits B s _
theorem bareOf_len (B : Nat) (s : ByteArray) : (bareOf B s).length ≤ s.size := by
  have := cnt_lt B s
  unfold bareOf; rw [bare_len s _ _ this]; omega
theorem bareOf_first (B : Nat) (s : ByteArray) (h : 0 < (bareOf B s).length) : ∃ c r, bareOf B s = c :: r ∧ ¬ c.toNat = 48 := by
  have hn := cnt_lt B s
  have hl : s.data.toList.length = s.size := by simp
  unfold bareOf at h ⊢
  rw [bare_len s _ _ hn] at h
  have e : zat B s = zc s.data.toList := by unfold zat at h ⊢; omega
  exact bare_first B s _ _ hn (by omega) (by rw [e]; exact zc_not _ (by rw [hl]; omega))
theorem val_first (B : Nat) (c : UInt8) (r : List UInt8) (h : dig B c = true) (hc : ¬ c.toNat = 48) : B ^ r.length ≤ val B 0 (c :: r) := by
  have hd := (dig_iff _ _).1 h
  rw [val_cons, val_lin, Nat.zero_mul, Nat.zero_add]
  have h1 : 1 ≤ dv c := by unfold dv; omega
  have := Nat.mul_le_mul_right (B ^ r.length) h1
  omega
theorem lex : ∀ (a b : List UInt8), a.length = b.length → (∀ x ∈ a, dig 10 x = true) → (∀ x ∈ b, dig 10 x = true) →
    (Op.bytesLess a b = true → val 10 0 a < val 10 0 b) ∧ (Op.bytesLess a b = false → (a == b) = false → val 10 0 b < val 10 0 a)
  | [], [], _, _, _ => ⟨fun h => by simp [Op.bytesLess] at h, fun _ h => by simp at h⟩
  | [], _ :: _, h, _, _ => by simp at h
  | _ :: _, [], h, _, _ => by simp at h
  | x :: a, y :: b, h, ha, hb => by
    have hl : a.length = b.length := by simpa using h
    have ih := lex a b hl (fun z hz => ha z (by simp [hz])) (fun z hz => hb z (by simp [hz]))
    have va := val_lt 10 a (fun z hz => ha z (by simp [hz]))
    have vb := val_lt 10 b (fun z hz => hb z (by simp [hz]))
    have hx := (dig_iff _ _).1 (ha x (by simp))
    have hy := (dig_iff _ _).1 (hb y (by simp))
    have ex : val 10 0 (x :: a) = dv x * 10 ^ a.length + val 10 0 a := by rw [val_cons, val_lin, Nat.zero_mul, Nat.zero_add]
    have ey : val 10 0 (y :: b) = dv y * 10 ^ a.length + val 10 0 b := by rw [val_cons, val_lin, Nat.zero_mul, Nat.zero_add, hl]
    rw [← hl] at vb
    rw [ex, ey]
    have key : ∀ p q : Nat, p < q → p * 10 ^ a.length + 10 ^ a.length ≤ q * 10 ^ a.length := by
      intro p q hpq
      have := Nat.mul_le_mul_right (10 ^ a.length) hpq
      rw [Nat.succ_mul] at this; exact this
    by_cases hlt : x < y
    · have h1 : dv x < dv y := by have := UInt8.lt_iff_toNat_lt.1 hlt; unfold dv; omega
      have := key _ _ h1
      refine ⟨fun _ => by omega, fun hf => ?_⟩
      simp [Op.bytesLess, hlt] at hf
    · by_cases heq : x = y
      · subst heq
        refine ⟨fun ht => ?_, fun hf hne => ?_⟩
        · simp [Op.bytesLess] at ht
          have := ih.1 ht; omega
        · simp [Op.bytesLess] at hf
          have hne' : (a == b) = false := by simpa using hne
          have := ih.2 hf hne'; omega
      · have h1 : dv y < dv x := by
          have h2 : ¬ x.toNat < y.toNat := fun c => hlt (UInt8.lt_iff_toNat_lt.2 c)
          have h3 : ¬ x.toNat = y.toNat := fun c => heq (UInt8.toNat_inj.1 c)
          unfold dv; omega
        have := key _ _ h1
        refine ⟨fun ht => ?_, fun _ _ => by omega⟩
        simp [Op.bytesLess, hlt, heq] at ht
def maxD : List UInt8 := [57, 50, 50, 51, 51, 55, 50, 48, 51, 54, 56, 53, 52, 55, 55, 53, 56, 48, 55]
theorem maxD_val : val 10 0 maxD = 9223372036854775807 := by decide
theorem maxD_dig : ∀ x ∈ maxD, dig 10 x = true := by decide
theorem pow10_19 : (10 : Nat) ^ 19 = 10000000000000000000 := by decide
theorem pow10_18 : (10 : Nat) ^ 18 = 1000000000000000000 := by decide
theorem pow8_21 : (8 : Nat) ^ 21 = 9223372036854775808 := by decide

theorem bare_is_10 (s : ByteArray) (w : World) (hm : s.size ≤ maxLen) :
    Calls Tryz.prog 129 #[.string s, .int .i64 10] w fun e w' => e = .returned (.string (strOf (bareOf 10 s))) ∧ w' = w := by
  have hn := cnt_lt 10 s
  have hl : s.data.toList.length = s.size := by simp
  refine (bare_10 s w hm).mono fun e w' ⟨z, h1, h2, h3, h4, h5⟩ => ?_
  have e1 := zc_of s.data.toList (cnt 10 s.data.toList) z (by omega) h1 h2 h3
  refine ⟨?_, h5⟩
  rw [h4, e1]; rfl
theorem ref_dec_form (s : ByteArray) (w : World) (HF : Hid (∀ w, Calls Tryz.prog 128 #[.string s, .int .i64 10] w fun e w' => e = .returned (.bool false) ∧ w' = w)) :
    Calls Tryz.prog 110 #[.string s] w fun e w' => e = .returned (.tuple #[.int .i64 0, .int .i64 10]) ∧ w' = w := by
  go_enter Tryz.func110, Tryz.ntmps110
  go_wp2_with (go_at_call 128; refine (HF.out _).mono ?_; rintro e w1 ⟨rfl, hw1⟩; subst w1)
  go_ret2
  exact ⟨rfl, rfl⟩

theorem bare_is_8 (s : ByteArray) (w : World) (hm : s.size ≤ maxLen) :
    Calls Tryz.prog 129 #[.string s, .int .i64 8] w fun e w' => e = .returned (.string (strOf (bareOf 8 s))) ∧ w' = w := by
  have hn := cnt_lt 8 s
  have hl : s.data.toList.length = s.size := by simp
  refine (bare_8 s w hm).mono fun e w' ⟨z, h1, h2, h3, h4, h5⟩ => ?_
  have e1 := zc_of s.data.toList (cnt 8 s.data.toList) z (by omega) h1 h2 h3
  refine ⟨?_, h5⟩
  rw [h4, e1]; rfl
theorem ref_oct_form (s : ByteArray) (w : World) (HF : Hid (∀ w, Calls Tryz.prog 128 #[.string s, .int .i64 8] w fun e w' => e = .returned (.bool false) ∧ w' = w)) :
    Calls Tryz.prog 111 #[.string s] w fun e w' => e = .returned (.tuple #[.int .i64 0, .int .i64 10]) ∧ w' = w := by
  go_enter Tryz.func111, Tryz.ntmps111
  go_wp2_with (go_at_call 128; refine (HF.out _).mono ?_; rintro e w1 ⟨rfl, hw1⟩; subst w1)
  go_ret2
  exact ⟨rfl, rfl⟩

set_option maxHeartbeats 400000 in
theorem ref_oct_wide (s : ByteArray) (D : List UInt8) (w : World) (hl : 21 < D.length) (h9 : D.length ≤ 9223372036854775807)
    (HF : Hid (∀ w, Calls Tryz.prog 128 #[.string s, .int .i64 8] w fun e w' => e = .returned (.bool true) ∧ w' = w))
    (HB : Hid (∀ w, Calls Tryz.prog 129 #[.string s, .int .i64 8] w fun e w' => e = .returned (.string (strOf D)) ∧ w' = w))  :
    Calls Tryz.prog 111 #[.string s] w fun e w' => e = .returned (.tuple #[.int .i64 0, .int .i64 11]) ∧ w' = w := by
  have hsz := strOf_size D
  go_enter Tryz.func111, Tryz.ntmps111
  go_wp2_with (first
    | (go_at_call 128; refine (HF.out _).mono ?_; rintro e w1 ⟨rfl, hw1⟩; subst w1)
    | (go_at_call 129; refine (HB.out _).mono ?_; rintro e w1 ⟨rfl, hw1⟩; subst w1))
  go_ret2
  exact ⟨rfl, rfl⟩

set_option maxHeartbeats 400000 in
theorem ref_oct_ok (s : ByteArray) (D : List UInt8) (w : World) (hl : D.length ≤ 21) (h9 : D.length ≤ 9223372036854775807)
    (HF : Hid (∀ w, Calls Tryz.prog 128 #[.string s, .int .i64 8] w fun e w' => e = .returned (.bool true) ∧ w' = w))
    (HB : Hid (∀ w, Calls Tryz.prog 129 #[.string s, .int .i64 8] w fun e w' => e = .returned (.string (strOf D)) ∧ w' = w)) (HS : Hid (∀ w, Calls Tryz.prog 130 #[.string (strOf D), .int .i64 8] w fun e w' => e = .returned (.int .i64 (val 8 0 D)) ∧ w' = w)) :
    Calls Tryz.prog 111 #[.string s] w fun e w' => e = .returned (.tuple #[.int .i64 (val 8 0 D), .int .i64 0]) ∧ w' = w := by
  have hsz := strOf_size D
  go_enter Tryz.func111, Tryz.ntmps111
  go_wp2_with (first
    | (go_at_call 128; refine (HF.out _).mono ?_; rintro e w1 ⟨rfl, hw1⟩; subst w1)
    | (go_at_call 129; refine (HB.out _).mono ?_; rintro e w1 ⟨rfl, hw1⟩; subst w1)
    | (go_at_call 130; refine (HS.out _).mono ?_; rintro e w1 ⟨rfl, hw1⟩; subst w1))
  go_ret2
  exact ⟨rfl, rfl⟩

set_option maxHeartbeats 400000 in
theorem ref_dec_long (s : ByteArray) (D : List UInt8) (w : World) (hl : 19 < D.length) (h9 : D.length ≤ 9223372036854775807)
    (HF : Hid (∀ w, Calls Tryz.prog 128 #[.string s, .int .i64 10] w fun e w' => e = .returned (.bool true) ∧ w' = w))
    (HB : Hid (∀ w, Calls Tryz.prog 129 #[.string s, .int .i64 10] w fun e w' => e = .returned (.string (strOf D)) ∧ w' = w))  :
    Calls Tryz.prog 110 #[.string s] w fun e w' => e = .returned (.tuple #[.int .i64 0, .int .i64 11]) ∧ w' = w := by
  have hsz := strOf_size D
  have b1 : decide (19 < D.length) = true := by simp; omega
  go_enter Tryz.func110, Tryz.ntmps110
  go_wp2_with (first
    | (go_at_call 128; refine (HF.out _).mono ?_; rintro e w1 ⟨rfl, hw1⟩; subst w1)
    | (go_at_call 129; refine (HB.out _).mono ?_; rintro e w1 ⟨rfl, hw1⟩; subst w1))
  go_ret2
  exact ⟨rfl, rfl⟩

set_option maxHeartbeats 400000 in
theorem ref_dec_great (s : ByteArray) (D : List UInt8) (w : World) (hl : D.length = 19) (l1 : Op.bytesLess (strOf D).toList [57, 50, 50, 51, 51, 55, 50, 48, 51, 54, 56, 53, 52, 55, 55, 53, 56, 48, 55] = false) (l2 : ((strOf D).toList == [57, 50, 50, 51, 51, 55, 50, 48, 51, 54, 56, 53, 52, 55, 55, 53, 56, 48, 55]) = false) (h9 : D.length ≤ 9223372036854775807)
    (HF : Hid (∀ w, Calls Tryz.prog 128 #[.string s, .int .i64 10] w fun e w' => e = .returned (.bool true) ∧ w' = w))
    (HB : Hid (∀ w, Calls Tryz.prog 129 #[.string s, .int .i64 10] w fun e w' => e = .returned (.string (strOf D)) ∧ w' = w))  :
    Calls Tryz.prog 110 #[.string s] w fun e w' => e = .returned (.tuple #[.int .i64 0, .int .i64 11]) ∧ w' = w := by
  have hsz := strOf_size D
  rw [hl] at hsz
  clear hl
  go_enter Tryz.func110, Tryz.ntmps110
  go_wp2_with (first
    | (go_at_call 128; refine (HF.out _).mono ?_; rintro e w1 ⟨rfl, hw1⟩; subst w1)
    | (go_at_call 129; refine (HB.out _).mono ?_; rintro e w1 ⟨rfl, hw1⟩; subst w1))
  go_ret2
  exact ⟨rfl, rfl⟩

set_option maxHeartbeats 400000 in
theorem ref_dec_short (s : ByteArray) (D : List UInt8) (w : World) (hl : D.length < 19) (h9 : D.length ≤ 9223372036854775807)
    (HF : Hid (∀ w, Calls Tryz.prog 128 #[.string s, .int .i64 10] w fun e w' => e = .returned (.bool true) ∧ w' = w))
    (HB : Hid (∀ w, Calls Tryz.prog 129 #[.string s, .int .i64 10] w fun e w' => e = .returned (.string (strOf D)) ∧ w' = w)) (HS : Hid (∀ w, Calls Tryz.prog 130 #[.string (strOf D), .int .i64 10] w fun e w' => e = .returned (.int .i64 (val 10 0 D)) ∧ w' = w)) :
    Calls Tryz.prog 110 #[.string s] w fun e w' => e = .returned (.tuple #[.int .i64 (val 10 0 D), .int .i64 0]) ∧ w' = w := by
  have hsz := strOf_size D
  have b1 : decide (19 < D.length) = false := by simp; omega
  have b2 : ((D.length : Int) == 19) = false := by simp; omega
  go_enter Tryz.func110, Tryz.ntmps110
  go_wp2_with (first
    | (go_at_call 128; refine (HF.out _).mono ?_; rintro e w1 ⟨rfl, hw1⟩; subst w1)
    | (go_at_call 129; refine (HB.out _).mono ?_; rintro e w1 ⟨rfl, hw1⟩; subst w1)
    | (go_at_call 130; refine (HS.out _).mono ?_; rintro e w1 ⟨rfl, hw1⟩; subst w1))
  go_ret2
  exact ⟨rfl, rfl⟩

set_option maxHeartbeats 400000 in
theorem ref_dec_less (s : ByteArray) (D : List UInt8) (w : World) (hl : D.length = 19) (l1 : Op.bytesLess (strOf D).toList [57, 50, 50, 51, 51, 55, 50, 48, 51, 54, 56, 53, 52, 55, 55, 53, 56, 48, 55] = true) (h9 : D.length ≤ 9223372036854775807)
    (HF : Hid (∀ w, Calls Tryz.prog 128 #[.string s, .int .i64 10] w fun e w' => e = .returned (.bool true) ∧ w' = w))
    (HB : Hid (∀ w, Calls Tryz.prog 129 #[.string s, .int .i64 10] w fun e w' => e = .returned (.string (strOf D)) ∧ w' = w)) (HS : Hid (∀ w, Calls Tryz.prog 130 #[.string (strOf D), .int .i64 10] w fun e w' => e = .returned (.int .i64 (val 10 0 D)) ∧ w' = w)) :
    Calls Tryz.prog 110 #[.string s] w fun e w' => e = .returned (.tuple #[.int .i64 (val 10 0 D), .int .i64 0]) ∧ w' = w := by
  have hsz := strOf_size D
  rw [hl] at hsz
  clear hl
  go_enter Tryz.func110, Tryz.ntmps110
  go_wp2_with (first
    | (go_at_call 128; refine (HF.out _).mono ?_; rintro e w1 ⟨rfl, hw1⟩; subst w1)
    | (go_at_call 129; refine (HB.out _).mono ?_; rintro e w1 ⟨rfl, hw1⟩; subst w1)
    | (go_at_call 130; refine (HS.out _).mono ?_; rintro e w1 ⟨rfl, hw1⟩; subst w1))
  go_ret2
  exact ⟨rfl, rfl⟩

set_option maxHeartbeats 400000 in
theorem ref_dec_same (s : ByteArray) (D : List UInt8) (w : World) (hl : D.length = 19) (l1 : Op.bytesLess (strOf D).toList [57, 50, 50, 51, 51, 55, 50, 48, 51, 54, 56, 53, 52, 55, 55, 53, 56, 48, 55] = false) (l2 : ((strOf D).toList == [57, 50, 50, 51, 51, 55, 50, 48, 51, 54, 56, 53, 52, 55, 55, 53, 56, 48, 55]) = true) (h9 : D.length ≤ 9223372036854775807)
    (HF : Hid (∀ w, Calls Tryz.prog 128 #[.string s, .int .i64 10] w fun e w' => e = .returned (.bool true) ∧ w' = w))
    (HB : Hid (∀ w, Calls Tryz.prog 129 #[.string s, .int .i64 10] w fun e w' => e = .returned (.string (strOf D)) ∧ w' = w)) (HS : Hid (∀ w, Calls Tryz.prog 130 #[.string (strOf D), .int .i64 10] w fun e w' => e = .returned (.int .i64 (val 10 0 D)) ∧ w' = w)) :
    Calls Tryz.prog 110 #[.string s] w fun e w' => e = .returned (.tuple #[.int .i64 (val 10 0 D), .int .i64 0]) ∧ w' = w := by
  have hsz := strOf_size D
  rw [hl] at hsz
  clear hl
  go_enter Tryz.func110, Tryz.ntmps110
  go_wp2_with (first
    | (go_at_call 128; refine (HF.out _).mono ?_; rintro e w1 ⟨rfl, hw1⟩; subst w1)
    | (go_at_call 129; refine (HB.out _).mono ?_; rintro e w1 ⟨rfl, hw1⟩; subst w1)
    | (go_at_call 130; refine (HS.out _).mono ?_; rintro e w1 ⟨rfl, hw1⟩; subst w1))
  go_ret2
  exact ⟨rfl, rfl⟩

theorem ref_oct (s : ByteArray) (w : World) (hm : s.size ≤ maxLen) :
    Calls Tryz.prog 111 #[.string s] w fun e w' => e = .returned (.tuple #[.int .i64 (rd 8 s.data.toList).1, .int .i64 (rd 8 s.data.toList).2]) ∧ w' = w := by
  have hf0 : Hid (∀ w, Calls Tryz.prog 128 #[.string s, .int .i64 8] w fun e w' => e = .returned (.bool (blank (s.data.toList.drop (cnt 8 s.data.toList)))) ∧ w' = w) := fun w => form_8 s w hm
  have hb : Hid (∀ w, Calls Tryz.prog 129 #[.string s, .int .i64 8] w fun e w' => e = .returned (.string (strOf (bareOf 8 s))) ∧ w' = w) := fun w => bare_is_8 s w hm
  have hlen := bareOf_len 8 s
  have h9 : (bareOf 8 s).length ≤ 9223372036854775807 := by unfold maxLen at hm; omega
  have hdg := bareOf_digits 8 s
  unfold rd
  rw [bareOf_val]
  cases hf : blank (s.data.toList.drop (cnt 8 s.data.toList))
  · rw [hf] at hf0; rw [if_neg (by decide)]; exact ref_oct_form s w hf0
  · rw [hf] at hf0; rw [if_pos rfl]
    by_cases hl : (bareOf 8 s).length ≤ 21
    · have hv : val 8 0 (bareOf 8 s) ≤ 9223372036854775807 := by
        have h1 := val_lt 8 _ hdg
        have h2 : 8 ^ (bareOf 8 s).length ≤ 8 ^ 21 := Nat.pow_le_pow_right (by omega) hl
        rw [pow8_21] at h2; omega
      rw [if_pos hv]
      exact ref_oct_ok s _ w hl h9 hf0 hb (fun w => sum_8 _ w hl hdg hv)
    · have hv : ¬ val 8 0 (bareOf 8 s) ≤ 9223372036854775807 := by
        obtain ⟨c, r, e, hc⟩ := bareOf_first 8 s (by omega)
        have h1 := val_first 8 c r (hdg c (by rw [e]; simp)) hc
        rw [← e] at h1
        have hr : 21 ≤ r.length := by rw [e] at hl; simp at hl; omega
        have h2 : 8 ^ 21 ≤ 8 ^ r.length := Nat.pow_le_pow_right (by omega) hr
        rw [pow8_21] at h2; omega
      rw [if_neg hv]
      exact ref_oct_wide s _ w (by omega) h9 hf0 hb
theorem ref_dec (s : ByteArray) (w : World) (hm : s.size ≤ maxLen) :
    Calls Tryz.prog 110 #[.string s] w fun e w' => e = .returned (.tuple #[.int .i64 (rd 10 s.data.toList).1, .int .i64 (rd 10 s.data.toList).2]) ∧ w' = w := by
  have hf0 : Hid (∀ w, Calls Tryz.prog 128 #[.string s, .int .i64 10] w fun e w' => e = .returned (.bool (blank (s.data.toList.drop (cnt 10 s.data.toList)))) ∧ w' = w) := fun w => form_10 s w hm
  have hb : Hid (∀ w, Calls Tryz.prog 129 #[.string s, .int .i64 10] w fun e w' => e = .returned (.string (strOf (bareOf 10 s))) ∧ w' = w) := fun w => bare_is_10 s w hm
  have hlen := bareOf_len 10 s
  have h9 : (bareOf 10 s).length ≤ 9223372036854775807 := by unfold maxLen at hm; omega
  have hdg := bareOf_digits 10 s
  unfold rd
  rw [bareOf_val]
  cases hf : blank (s.data.toList.drop (cnt 10 s.data.toList))
  · rw [hf] at hf0; rw [if_neg (by decide)]; exact ref_dec_form s w hf0
  · rw [hf] at hf0; rw [if_pos rfl]
    by_cases hl : (bareOf 10 s).length < 19
    · have hv : val 10 0 (bareOf 10 s) ≤ 9223372036854775807 := by
        have h1 := val_lt 10 _ hdg
        have h2 : 10 ^ (bareOf 10 s).length ≤ 10 ^ 18 := Nat.pow_le_pow_right (by omega) (by omega)
        rw [pow10_18] at h2; omega
      rw [if_pos hv]
      exact ref_dec_short s _ w hl h9 hf0 hb (fun w => sum_10 _ w (by omega) hdg hv)
    · by_cases hl2 : (bareOf 10 s).length = 19
      · have ed : (strOf (bareOf 10 s)).toList = bareOf 10 s := by rw [Lib.toList_data, strOf_data]
        have L := lex (bareOf 10 s) maxD (by rw [hl2]; rfl) hdg maxD_dig
        rw [maxD_val] at L
        cases l1 : Op.bytesLess (bareOf 10 s) maxD
        · cases l2 : (bareOf 10 s == maxD)
          · have hv : ¬ val 10 0 (bareOf 10 s) ≤ 9223372036854775807 := by have := L.2 l1 l2; omega
            rw [if_neg hv]
            exact ref_dec_great s _ w hl2 (by rw [ed]; exact l1) (by rw [ed]; exact l2) h9 hf0 hb
          · have e : bareOf 10 s = maxD := by simpa using l2
            have hv : val 10 0 (bareOf 10 s) ≤ 9223372036854775807 := by rw [e, maxD_val]; exact Nat.le_refl _
            rw [if_pos hv]
            exact ref_dec_same s _ w hl2 (by rw [ed]; exact l1) (by rw [ed]; exact l2) h9 hf0 hb (fun w => sum_10 _ w (by omega) hdg hv)
        · have hv : val 10 0 (bareOf 10 s) ≤ 9223372036854775807 := by have := L.1 l1; omega
          rw [if_pos hv]
          exact ref_dec_less s _ w hl2 (by rw [ed]; exact l1) h9 hf0 hb (fun w => sum_10 _ w (by omega) hdg hv)
      · have hv : ¬ val 10 0 (bareOf 10 s) ≤ 9223372036854775807 := by
          obtain ⟨c, r, e, hc⟩ := bareOf_first 10 s (by omega)
          have h1 := val_first 10 c r (hdg c (by rw [e]; simp)) hc
          rw [← e] at h1
          have hr : 19 ≤ r.length := by rw [e] at hl hl2; simp at hl hl2; omega
          have h2 : 10 ^ 19 ≤ 10 ^ r.length := Nat.pow_le_pow_right (by omega) hr
          rw [pow10_19] at h2; omega
        rw [if_neg hv]
        exact ref_dec_long s _ w (by omega) h9 hf0 hb
end Go.Proofs.YtnfplepaejjmfaaGreatDoor.Rd

-- shelfref7.name, Parse: contracts.
namespace Go.Proofs.YtnfplepaejjmfaaGreatDoor
open Go.ChangeShapes Go.WideShapes Go.ChangeAt Go.RowKit
set_option linter.unusedVariables false
set_option maxRecDepth 100000

def fromB (l : List UInt8) (k : Nat) : Prop := ∀ (j : Nat) b, k ≤ j → l[j]? = some b → b = 32
theorem fromB_next (s : ByteArray) (q : Nat) (hq : q < s.size) (h : fromB s.data.toList (q + 1)) (hc : s[q].toNat = 32) : fromB s.data.toList q := by
  intro j b hj hb
  by_cases e : j = q
  · subst e
    rw [Rd.at_some s j hq] at hb
    injection hb with hb
    rw [← hb]; exact UInt8.toNat_inj.1 hc
  · exact h j b (by omega) hb
theorem fromB_end (s : ByteArray) (k : Nat) (hk : k ≤ s.size) (h : fromB s.data.toList k) (h2 : ∀ hq : k - 1 < s.size, 0 < k → ¬ s[k - 1].toNat = 32) : trimN s.data.toList = s.data.toList.take k := by
  have hl : s.data.toList.length = s.size := by simp
  refine trimN_is _ k (by omega) h (fun b h0 hb hc => ?_)
  rw [Rd.at_some s (k - 1) (by omega)] at hb
  injection hb with hb
  exact h2 (by omega) h0 (by rw [hb, hc]; rfl)
set_option maxHeartbeats 1000000 in
theorem name_c (s : ByteArray) (w : World) (hm : s.size ≤ maxLen) :
    Calls Tryz.prog 112 #[.string s] w fun e w' => e = .returned (.string (strL (trimN s.data.toList))) ∧ w' = w := by
  have hm' := hm
  unfold maxLen at hm
  go_enter Tryz.func112, Tryz.ntmps112
  go_wp2
  go_loop [3] (fun i => ∃ k : Nat, k ≤ s.size ∧ i = .int .i64 k ∧ fromB s.data.toList k) (fun i => (intOf i).toNat)
  case atStart => exact ⟨s.size, Nat.le_refl _, rfl, fun j b hj hb => by rw [List.getElem?_eq_none (by simpa using hj)] at hb; cases hb⟩
  case round =>
    obtain ⟨k, hk, rfl, hd⟩ := hrel
    have HD : Hid (fromB s.data.toList k) := hd
    clear hd
    by_cases h0 : k = 0
    · subst h0
      go_wp2
      go_ret
      refine ⟨?_, rfl⟩
      rw [fromB_end s 0 (by omega) HD.out (fun _ h => absurd h (by omega))]
      rfl
    · obtain ⟨q, rfl⟩ : ∃ q, k = q + 1 := ⟨k - 1, by omega⟩
      have hidx := Rd.idx s q (by omega)
      by_cases hc : s[q].toNat = 32
      · have hc' : ((s[q].toNat : Int) == 32) = true := by simp; omega
        have HC : Hid (s[q].toNat = 32) := hc
        clear hc
        go_wp2
        go_round
        case rel => exact ⟨q, by omega, by go_num, fromB_next s q (by omega) HD.out HC.out⟩
        case measure => simp [intOf]
      · have hc' : ((s[q].toNat : Int) == 32) = false := by simp; omega
        have HC : Hid (¬ s[q].toNat = 32) := hc
        clear hc
        go_wp2
        go_ret
        refine ⟨?_, rfl⟩
        rw [fromB_end s (q + 1) (by omega) HD.out (fun _ _ => HC.out)]
        exact congrArg (fun z => Ending.returned (Value.string z)) (Lib.extract_upto s (q + 1))
theorem rparse_neg (b : ByteArray) (i : Int) (w : World) (hm : b.size ≤ maxLen) (h : i < 0) :
    Calls Tryz.prog 89 #[.string b, .int .i64 i] w fun e w' => e = .returned (.tuple #[.agg #[.int .i64 0, .int .i64 0, .int .i64 0, .int .i64 0, .string ⟨#[]⟩, .int .i64 0], .int .i64 70]) ∧ Below w.heap.size w w' := by
  unfold maxLen at hm
  have b1 : decide (i < 0) = true := by simp; omega
  go_enter Tryz.func89, Tryz.ntmps89
  go_wp2
  exact bodyPost_ret (results_cell_tmp_rowX rfl _ _ w.heap.size _ _ _ _ _ rfl rfl (heap_alloc_new _ _) Tryz.underlying59 rfl (by kernel_rfl)) rfl ⟨rfl, bup (Below.refl _ _) _⟩
theorem rparse_over (b : ByteArray) (i : Int) (w : World) (hm : b.size ≤ maxLen) (h0 : 0 ≤ i) (h : (b.size : Int) < i) :
    Calls Tryz.prog 89 #[.string b, .int .i64 i] w fun e w' => e = .returned (.tuple #[.agg #[.int .i64 0, .int .i64 0, .int .i64 0, .int .i64 0, .string ⟨#[]⟩, .int .i64 0], .int .i64 70]) ∧ Below w.heap.size w w' := by
  unfold maxLen at hm
  have b1 : decide (i < 0) = false := by simp; omega
  have b2 : decide ((b.size : Int) < i) = true := by simp; omega
  go_enter Tryz.func89, Tryz.ntmps89
  go_wp2
  exact bodyPost_ret (results_cell_tmp_rowX rfl _ _ w.heap.size _ _ _ _ _ rfl rfl (heap_alloc_new _ _) Tryz.underlying59 rfl (by kernel_rfl)) rfl ⟨rfl, bup (Below.refl _ _) _⟩
theorem rparse_few (b : ByteArray) (i : Int) (w : World) (hm : b.size ≤ maxLen) (h0 : 0 ≤ i) (h1 : i ≤ (b.size : Int)) (h : (b.size : Int) - i < 60) :
    Calls Tryz.prog 89 #[.string b, .int .i64 i] w fun e w' => e = .returned (.tuple #[.agg #[.int .i64 0, .int .i64 0, .int .i64 0, .int .i64 0, .string ⟨#[]⟩, .int .i64 0], .int .i64 70]) ∧ Below w.heap.size w w' := by
  unfold maxLen at hm
  have b1 : decide (i < 0) = false := by simp; omega
  have b2 : decide ((b.size : Int) < i) = false := by simp; omega
  have b3 : decide ((b.size : Int) - i < 60) = true := by simp; omega
  go_enter Tryz.func89, Tryz.ntmps89
  go_wp2
  exact bodyPost_ret (results_cell_tmp_rowX rfl _ _ w.heap.size _ _ _ _ _ rfl rfl (heap_alloc_new _ _) Tryz.underlying59 rfl (by kernel_rfl)) rfl ⟨rfl, bup (Below.refl _ _) _⟩
set_option maxHeartbeats 1000000 in
theorem rparse_tail (b Hs : ByteArray) (i x y : Int) (w : World) (hm : b.size ≤ maxLen) (h0 : 0 ≤ i) (h1 : i ≤ (b.size : Int) - 60)
    (hsl : ∀ w, (Instr.slice 9 (.string b) (some (.int .i64 i)) (some (.int .i64 (i + 60))) none).run Tryz.prog w = .ok (.string Hs) w)
    (x58 : ∀ w, (Instr.index 9 (.string Hs) (.int .i64 58)).run Tryz.prog w = .ok (.int .u8 x) w) (x59 : ∀ w, (Instr.index 9 (.string Hs) (.int .i64 59)).run Tryz.prog w = .ok (.int .u8 y) w) (ht : ¬ (x = 96 ∧ y = 10)) :
    Calls Tryz.prog 89 #[.string b, .int .i64 i] w fun e w' => e = .returned (.tuple #[.agg #[.int .i64 0, .int .i64 0, .int .i64 0, .int .i64 0, .string ⟨#[]⟩, .int .i64 0], .int .i64 71]) ∧ Below w.heap.size w w' := by
  unfold maxLen at hm
  have b1 : decide (i < 0) = false := by simp; omega
  have b2 : decide ((b.size : Int) < i) = false := by simp; omega
  have b3 : decide ((b.size : Int) - i < 60) = false := by simp; omega
  by_cases hx : x = 96
  · have hy : ¬ y = 10 := fun h => ht ⟨hx, h⟩
    have c1 : (x != 96) = false := by simp [hx]
    have c2 : (y != 10) = true := by simp [hy]
    clear hx hy ht
    go_enter Tryz.func89, Tryz.ntmps89
    go_wp2
    exact bodyPost_ret (results_cell_tmp_rowX rfl _ _ w.heap.size _ _ _ _ _ rfl rfl (heap_alloc_new _ _) Tryz.underlying59 rfl (by kernel_rfl)) rfl ⟨rfl, bup (Below.refl _ _) _⟩
  · have c1 : (x != 96) = true := by simp [hx]
    clear hx ht
    go_enter Tryz.func89, Tryz.ntmps89
    go_wp2
    exact bodyPost_ret (results_cell_tmp_rowX rfl _ _ w.heap.size _ _ _ _ _ rfl rfl (heap_alloc_new _ _) Tryz.underlying59 rfl (by kernel_rfl)) rfl ⟨rfl, bup (Below.refl _ _) _⟩
set_option maxHeartbeats 2000000 in
theorem rparse_bad (b Hs g1 g2 g3 g4 g5 : ByteArray) (i x y : Int) (dv de ov oe : ByteArray → Int) (w : World) (hm : b.size ≤ maxLen) (h0 : 0 ≤ i) (h1 : i ≤ (b.size : Int) - 60)
    (hsl : ∀ w, (Instr.slice 9 (.string b) (some (.int .i64 i)) (some (.int .i64 (i + 60))) none).run Tryz.prog w = .ok (.string Hs) w)
    (x58 : ∀ w, (Instr.index 9 (.string Hs) (.int .i64 58)).run Tryz.prog w = .ok (.int .u8 x) w) (x59 : ∀ w, (Instr.index 9 (.string Hs) (.int .i64 59)).run Tryz.prog w = .ok (.int .u8 y) w) (c1 : (x != 96) = false) (c2 : (y != 10) = false)
    (s1 : ∀ w, (Instr.slice 9 (.string Hs) (some (.int .i64 16)) (some (.int .i64 28)) none).run Tryz.prog w = .ok (.string g1) w) (z1 : g1.size ≤ 60)
    (s2 : ∀ w, (Instr.slice 9 (.string Hs) (some (.int .i64 28)) (some (.int .i64 34)) none).run Tryz.prog w = .ok (.string g2) w) (z2 : g2.size ≤ 60)
    (s3 : ∀ w, (Instr.slice 9 (.string Hs) (some (.int .i64 34)) (some (.int .i64 40)) none).run Tryz.prog w = .ok (.string g3) w) (z3 : g3.size ≤ 60)
    (s4 : ∀ w, (Instr.slice 9 (.string Hs) (some (.int .i64 40)) (some (.int .i64 48)) none).run Tryz.prog w = .ok (.string g4) w) (z4 : g4.size ≤ 60)
    (s5 : ∀ w, (Instr.slice 9 (.string Hs) (some (.int .i64 48)) (some (.int .i64 58)) none).run Tryz.prog w = .ok (.string g5) w) (z5 : g5.size ≤ 60)
    (HD : Hid (∀ (g : ByteArray) (w : World), g.size ≤ 60 → Calls Tryz.prog 110 #[.string g] w fun e w' => e = .returned (.tuple #[.int .i64 (dv g), .int .i64 (de g)]) ∧ w' = w))
    (HO : Hid (∀ (g : ByteArray) (w : World), g.size ≤ 60 → Calls Tryz.prog 111 #[.string g] w fun e w' => e = .returned (.tuple #[.int .i64 (ov g), .int .i64 (oe g)]) ∧ w' = w))
    (hb : ¬ (de g1 = 0 ∧ de g2 = 0 ∧ de g3 = 0 ∧ oe g4 = 0 ∧ de g5 = 0)) :
    Calls Tryz.prog 89 #[.string b, .int .i64 i] w fun e w' => e = .returned (.tuple #[.agg #[.int .i64 0, .int .i64 0, .int .i64 0, .int .i64 0, .string ⟨#[]⟩, .int .i64 0], .int .i64 72]) ∧ Below w.heap.size w w' := by
  unfold maxLen at hm
  have b1 : decide (i < 0) = false := by simp; omega
  have b2 : decide ((b.size : Int) < i) = false := by simp; omega
  have b3 : decide ((b.size : Int) - i < 60) = false := by simp; omega
  by_cases q1 : de g1 = 0
  rotate_left
  · have y1 : (de g1 != 0) = true := by simp [q1]
    clear hb q1
    go_enter Tryz.func89, Tryz.ntmps89
    go_wp2_with (first | (go_at_call 110; refine (HD.out _ _ (by assumption)).mono ?_; rintro e w1 ⟨rfl, hw1⟩; subst w1) | (go_at_call 111; refine (HO.out _ _ (by assumption)).mono ?_; rintro e w1 ⟨rfl, hw1⟩; subst w1))
    exact bodyPost_ret (results_cell_tmp_rowX rfl _ _ w.heap.size _ _ _ _ _ rfl rfl (heap_alloc_new _ _) Tryz.underlying59 rfl (by kernel_rfl)) rfl ⟨rfl, bup (Below.refl _ _) _⟩
  have y1 : (de g1 != 0) = false := by simp [q1]
  by_cases q2 : de g2 = 0
  rotate_left
  · have y2 : (de g2 != 0) = true := by simp [q2]
    clear hb q1 q2
    go_enter Tryz.func89, Tryz.ntmps89
    go_wp2_with (first | (go_at_call 110; refine (HD.out _ _ (by assumption)).mono ?_; rintro e w1 ⟨rfl, hw1⟩; subst w1) | (go_at_call 111; refine (HO.out _ _ (by assumption)).mono ?_; rintro e w1 ⟨rfl, hw1⟩; subst w1))
    exact bodyPost_ret (results_cell_tmp_rowX rfl _ _ w.heap.size _ _ _ _ _ rfl rfl (heap_alloc_new _ _) Tryz.underlying59 rfl (by kernel_rfl)) rfl ⟨rfl, bup (Below.refl _ _) _⟩
  have y2 : (de g2 != 0) = false := by simp [q2]
  by_cases q3 : de g3 = 0
  rotate_left
  · have y3 : (de g3 != 0) = true := by simp [q3]
    clear hb q1 q2 q3
    go_enter Tryz.func89, Tryz.ntmps89
    go_wp2_with (first | (go_at_call 110; refine (HD.out _ _ (by assumption)).mono ?_; rintro e w1 ⟨rfl, hw1⟩; subst w1) | (go_at_call 111; refine (HO.out _ _ (by assumption)).mono ?_; rintro e w1 ⟨rfl, hw1⟩; subst w1))
    exact bodyPost_ret (results_cell_tmp_rowX rfl _ _ w.heap.size _ _ _ _ _ rfl rfl (heap_alloc_new _ _) Tryz.underlying59 rfl (by kernel_rfl)) rfl ⟨rfl, bup (Below.refl _ _) _⟩
  have y3 : (de g3 != 0) = false := by simp [q3]
  by_cases q4 : oe g4 = 0
  rotate_left
  · have y4 : (oe g4 != 0) = true := by simp [q4]
    clear hb q1 q2 q3 q4
    go_enter Tryz.func89, Tryz.ntmps89
    go_wp2_with (first | (go_at_call 110; refine (HD.out _ _ (by assumption)).mono ?_; rintro e w1 ⟨rfl, hw1⟩; subst w1) | (go_at_call 111; refine (HO.out _ _ (by assumption)).mono ?_; rintro e w1 ⟨rfl, hw1⟩; subst w1))
    exact bodyPost_ret (results_cell_tmp_rowX rfl _ _ w.heap.size _ _ _ _ _ rfl rfl (heap_alloc_new _ _) Tryz.underlying59 rfl (by kernel_rfl)) rfl ⟨rfl, bup (Below.refl _ _) _⟩
  have y4 : (oe g4 != 0) = false := by simp [q4]
  by_cases q5 : de g5 = 0
  rotate_left
  · have y5 : (de g5 != 0) = true := by simp [q5]
    clear hb q1 q2 q3 q4 q5
    go_enter Tryz.func89, Tryz.ntmps89
    go_wp2_with (first | (go_at_call 110; refine (HD.out _ _ (by assumption)).mono ?_; rintro e w1 ⟨rfl, hw1⟩; subst w1) | (go_at_call 111; refine (HO.out _ _ (by assumption)).mono ?_; rintro e w1 ⟨rfl, hw1⟩; subst w1))
    exact bodyPost_ret (results_cell_tmp_rowX rfl _ _ w.heap.size _ _ _ _ _ rfl rfl (heap_alloc_new _ _) Tryz.underlying59 rfl (by kernel_rfl)) rfl ⟨rfl, bup (Below.refl _ _) _⟩
  have y5 : (de g5 != 0) = false := by simp [q5]
  exact absurd ⟨q1, q2, q3, q4, q5⟩ hb
set_option maxHeartbeats 2000000 in
theorem rparse_ok (b Hs g0 g1 g2 g3 g4 g5 nm : ByteArray) (i x y : Int) (dv de ov oe : ByteArray → Int) (w : World) (hm : b.size ≤ maxLen) (h0 : 0 ≤ i) (h1 : i ≤ (b.size : Int) - 60)
    (hsl : ∀ w, (Instr.slice 9 (.string b) (some (.int .i64 i)) (some (.int .i64 (i + 60))) none).run Tryz.prog w = .ok (.string Hs) w)
    (x58 : ∀ w, (Instr.index 9 (.string Hs) (.int .i64 58)).run Tryz.prog w = .ok (.int .u8 x) w) (x59 : ∀ w, (Instr.index 9 (.string Hs) (.int .i64 59)).run Tryz.prog w = .ok (.int .u8 y) w) (c1 : (x != 96) = false) (c2 : (y != 10) = false)
    (s0 : ∀ w, (Instr.slice 9 (.string Hs) none (some (.int .i64 16)) none).run Tryz.prog w = .ok (.string g0) w)
    (H0 : Hid (∀ w, Calls Tryz.prog 112 #[.string g0] w fun e w' => e = .returned (.string nm) ∧ w' = w))
    (s1 : ∀ w, (Instr.slice 9 (.string Hs) (some (.int .i64 16)) (some (.int .i64 28)) none).run Tryz.prog w = .ok (.string g1) w) (z1 : g1.size ≤ 60)
    (s2 : ∀ w, (Instr.slice 9 (.string Hs) (some (.int .i64 28)) (some (.int .i64 34)) none).run Tryz.prog w = .ok (.string g2) w) (z2 : g2.size ≤ 60)
    (s3 : ∀ w, (Instr.slice 9 (.string Hs) (some (.int .i64 34)) (some (.int .i64 40)) none).run Tryz.prog w = .ok (.string g3) w) (z3 : g3.size ≤ 60)
    (s4 : ∀ w, (Instr.slice 9 (.string Hs) (some (.int .i64 40)) (some (.int .i64 48)) none).run Tryz.prog w = .ok (.string g4) w) (z4 : g4.size ≤ 60)
    (s5 : ∀ w, (Instr.slice 9 (.string Hs) (some (.int .i64 48)) (some (.int .i64 58)) none).run Tryz.prog w = .ok (.string g5) w) (z5 : g5.size ≤ 60)
    (HD : Hid (∀ (g : ByteArray) (w : World), g.size ≤ 60 → Calls Tryz.prog 110 #[.string g] w fun e w' => e = .returned (.tuple #[.int .i64 (dv g), .int .i64 (de g)]) ∧ w' = w))
    (HO : Hid (∀ (g : ByteArray) (w : World), g.size ≤ 60 → Calls Tryz.prog 111 #[.string g] w fun e w' => e = .returned (.tuple #[.int .i64 (ov g), .int .i64 (oe g)]) ∧ w' = w))
    (y1 : (de g1 != 0) = false) (y2 : (de g2 != 0) = false) (y3 : (de g3 != 0) = false) (y4 : (oe g4 != 0) = false) (y5 : (de g5 != 0) = false) :
    Calls Tryz.prog 89 #[.string b, .int .i64 i] w fun e w' => e = .returned (.tuple #[.agg #[.int .i64 (dv g1), .int .i64 (dv g2), .int .i64 (dv g3), .int .i64 (ov g4), .string nm, .int .i64 (dv g5)], .int .i64 0]) ∧ Below w.heap.size w w' := by
  unfold maxLen at hm
  have b1 : decide (i < 0) = false := by simp; omega
  have b2 : decide ((b.size : Int) < i) = false := by simp; omega
  have b3 : decide ((b.size : Int) - i < 60) = false := by simp; omega
  go_enter Tryz.func89, Tryz.ntmps89
  go_wp2_with (first | (go_at_call 110; refine (HD.out _ _ (by assumption)).mono ?_; rintro e w1 ⟨rfl, hw1⟩; subst w1) | (go_at_call 111; refine (HO.out _ _ (by assumption)).mono ?_; rintro e w1 ⟨rfl, hw1⟩; subst w1) | (go_at_call 112; refine (H0.out _).mono ?_; rintro e w1 ⟨rfl, hw1⟩; subst w1))
  exact bodyPost_ret (results_cell_tmp_rowX rfl _ _ w.heap.size _ _ _ _ _ rfl rfl (heap_alloc_new _ _) Tryz.underlying59 rfl (by kernel_rfl)) rfl ⟨rfl, bup (Below.refl _ _) _⟩
end Go.Proofs.YtnfplepaejjmfaaGreatDoor

-- shelfref7.Parse: the whole contract.
namespace Go.Proofs.YtnfplepaejjmfaaGreatDoor
open Go.ChangeShapes Go.WideShapes Go.ChangeAt Go.RowKit
set_option linter.unusedVariables false
set_option maxRecDepth 100000

theorem slice_fld (H : ByteArray) (L : List UInt8) (hL : H.data.toList = L) (a n : Nat) (h : a + n ≤ H.size) : ∀ w, (Instr.slice 9 (.string H) (some (.int .i64 (a : Int))) (some (.int .i64 ((a + n : Nat) : Int))) none).run Tryz.prog w = .ok (.string (strL (fld L a n))) w := by
  intro w
  have h := slice_col H a n h w
  rw [h]; unfold col; rw [hL]
theorem slice_f0 (H : ByteArray) (L : List UInt8) (hL : H.data.toList = L) (n : Nat) (h : n ≤ H.size) : ∀ w, (Instr.slice 9 (.string H) none (some (.int .i64 (n : Int))) none).run Tryz.prog w = .ok (.string (strL (fld L 0 n))) w := by
  intro w
  rw [run_slice_string_to_if w 9 H .i64 n Tryz.underlying9, if_pos (by omega)]
  rw [Int.toNat_natCast, Lib.extract_upto, hL]
  rfl
theorem fld2 (H : ByteArray) (L : List UInt8) (hL : H.data.toList = L) (h : H.size = 60) : fld L 58 2 = [H[58], H[59]] := by
  subst hL
  have hl : H.data.toList.length = H.size := by simp
  unfold fld
  rw [List.drop_eq_getElem_cons (by omega), List.drop_eq_getElem_cons (by omega)]
  rfl
theorem fld_60 (L : List UInt8) (a n : Nat) (h : n ≤ 60) : (strL (fld L a n)).size ≤ 60 := by
  rw [strL_size]; unfold fld; rw [List.length_take]; omega
theorem rparse_c (b : ByteArray) (i : Int) (w : World) (hm : b.size ≤ maxLen) :
    Calls Tryz.prog 89 #[.string b, .int .i64 i] w fun e w' => e = .returned (.tuple #[hdV (parseAt b i).1, .int .i64 (parseAt b i).2]) ∧ Below w.heap.size w w' := by
  unfold parseAt
  by_cases h0 : i < 0
  · rw [if_pos (Or.inl h0)]; exact rparse_neg b i w hm h0
  by_cases h1 : (b.size : Int) - 60 < i
  · rw [if_pos (Or.inr h1)]
    by_cases h2 : (b.size : Int) < i
    · exact rparse_over b i w hm (by omega) h2
    · exact rparse_few b i w hm (by omega) (by omega) (by omega)
  rw [if_neg (by omega)]
  obtain ⟨n, rfl⟩ := Int.eq_ofNat_of_zero_le (show 0 ≤ i by omega)
  rw [Int.toNat_natCast]
  obtain ⟨hd, hs⟩ := sl60 b n (by omega)
  obtain ⟨Hs, hHs⟩ : ∃ Hs, Hs = b.extract n (n + 60) := ⟨_, rfl⟩
  rw [← hHs] at hd hs
  have hsl : ∀ w, (Instr.slice 9 (.string b) (some (.int .i64 (n : Int))) (some (.int .i64 ((n : Int) + 60))) none).run Tryz.prog w = .ok (.string Hs) w := by
    intro w
    rw [run_slice_string w 9 b .i64 .i64 n ((n : Int) + 60) Tryz.underlying9 (by omega) (by omega) (by omega), Int.toNat_natCast, show ((n : Int) + 60).toNat = n + 60 from by omega, hHs]
  have x58 := Rd.idx Hs 58 (by omega)
  have x59 := Rd.idx Hs 59 (by omega)
  have e2 := fld2 Hs _ hd hs
  have hn0 := slice_f0 Hs _ hd 16 (by omega)
  have s1 := slice_fld Hs _ hd 16 12 (by omega)
  have s2 := slice_fld Hs _ hd 28 6 (by omega)
  have s3 := slice_fld Hs _ hd 34 6 (by omega)
  have s4 := slice_fld Hs _ hd 40 8 (by omega)
  have s5 := slice_fld Hs _ hd 48 10 (by omega)
  generalize fld b.data.toList n 60 = L at e2 hn0 s1 s2 s3 s4 s5 ⊢
  have HD : Hid (∀ (g : ByteArray) (w : World), g.size ≤ 60 → Calls Tryz.prog 110 #[.string g] w fun e w' => e = .returned (.tuple #[.int .i64 ((fun g : ByteArray => ((rd 10 g.data.toList).1 : Int)) g), .int .i64 ((fun g : ByteArray => ((rd 10 g.data.toList).2 : Int)) g)]) ∧ w' = w) := fun g w hg => Rd.ref_dec g w (by unfold maxLen; omega)
  have HO : Hid (∀ (g : ByteArray) (w : World), g.size ≤ 60 → Calls Tryz.prog 111 #[.string g] w fun e w' => e = .returned (.tuple #[.int .i64 ((fun g : ByteArray => ((rd 8 g.data.toList).1 : Int)) g), .int .i64 ((fun g : ByteArray => ((rd 8 g.data.toList).2 : Int)) g)]) ∧ w' = w) := fun g w hg => Rd.ref_oct g w (by unfold maxLen; omega)
  unfold parseH
  by_cases ht : fld L 58 2 = [96, 10]
  · rw [if_pos ht]
    rw [e2] at ht
    have t58 : Hs[58] = 96 := by injection ht
    have t59 : Hs[59] = 10 := by injection ht with _ h; injection h
    have c1 : (((Hs[58].toNat : Nat) : Int) != 96) = false := by rw [t58]; rfl
    have c2 : (((Hs[59].toNat : Nat) : Int) != 10) = false := by rw [t59]; rfl
    by_cases hn : numOk L
    · rw [if_pos hn]
      obtain ⟨q1, q2, q3, q4, q5⟩ := hn
      have h := rparse_ok b Hs (strL (fld L 0 16)) (strL (fld L 16 12)) (strL (fld L 28 6)) (strL (fld L 34 6)) (strL (fld L 40 8)) (strL (fld L 48 10)) (strL (trimN (fld L 0 16))) n _ _ _ _ _ _ w hm (by omega) (by omega) hsl x58 x59 c1 c2 hn0
        (fun w => by have h := name_c (strL (fld L 0 16)) w (fld_max _ _ _ (by omega)); rw [strL_data] at h; exact h)
        s1 (fld_60 _ _ _ (by omega)) s2 (fld_60 _ _ _ (by omega)) s3 (fld_60 _ _ _ (by omega)) s4 (fld_60 _ _ _ (by omega)) s5 (fld_60 _ _ _ (by omega)) HD HO
        (by simp only [strL_data, q1]; rfl) (by simp only [strL_data, q2]; rfl) (by simp only [strL_data, q3]; rfl) (by simp only [strL_data, q4]; rfl) (by simp only [strL_data, q5]; rfl)
      simp only [strL_data] at h
      exact h
    · rw [if_neg hn]
      refine rparse_bad b Hs (strL (fld L 16 12)) (strL (fld L 28 6)) (strL (fld L 34 6)) (strL (fld L 40 8)) (strL (fld L 48 10)) n _ _ _ _ _ _ w hm (by omega) (by omega) hsl x58 x59 c1 c2
        s1 (fld_60 _ _ _ (by omega)) s2 (fld_60 _ _ _ (by omega)) s3 (fld_60 _ _ _ (by omega)) s4 (fld_60 _ _ _ (by omega)) s5 (fld_60 _ _ _ (by omega)) HD HO ?_
      simp only [strL_data]
      rintro ⟨a1, a2, a3, a4, a5⟩
      exact hn ⟨by omega, by omega, by omega, by omega, by omega⟩
  · rw [if_neg ht]
    rw [e2] at ht
    refine rparse_tail b Hs n _ _ w hm (by omega) (by omega) hsl x58 x59 ?_
    rintro ⟨a1, a2⟩
    refine ht ?_
    rw [show Hs[58] = 96 from UInt8.toNat_inj.1 (by have : (96 : UInt8).toNat = 96 := rfl; omega), show Hs[59] = 10 from UInt8.toNat_inj.1 (by have : (10 : UInt8).toNat = 10 := rfl; omega)]
end Go.Proofs.YtnfplepaejjmfaaGreatDoor
