
-- shelfref1.figures, form, bare, sum: contracts.
import Derived.Test.YtbkfkanknfdelaaDoorSome
namespace Go.Proofs.YtbkfkanknfdelaaDoor.Rd
open Go.ChangeShapes Go.WideShapes Go.ChangeAt Go.RowKit
set_option linter.unusedVariables false
set_option maxRecDepth 100000

def blankFrom (l : List UInt8) (a k : Nat) : Prop := ∀ j, a ≤ j → j < k → ∃ c, l[j]? = some c ∧ c.toNat = 32
theorem blankFrom_end (s : ByteArray) (a : Nat) (h : blankFrom s.data.toList a s.size) : blank (s.data.toList.drop a) = true := by
  have hl : s.data.toList.length = s.size := by simp
  unfold blank
  rw [List.all_eq_true]
  intro c hc
  obtain ⟨j, hj, e⟩ := List.mem_iff_getElem.1 hc
  rw [List.length_drop] at hj
  obtain ⟨c', h1, h2⟩ := h (a + j) (by omega) (by omega)
  rw [List.getElem_drop] at e
  rw [List.getElem?_eq_getElem (by omega), e] at h1
  injection h1 with h1
  simpa [h1] using h2
theorem blankFrom_not (s : ByteArray) (a k : Nat) (ha : a ≤ k) (h : k < s.size) (hc : ¬ s[k].toNat = 32) : blank (s.data.toList.drop a) = false := by
  have hl : s.data.toList.length = s.size := by simp
  cases e : blank (s.data.toList.drop a)
  · rfl
  · unfold blank at e
    rw [List.all_eq_true] at e
    have hm : s[k] ∈ s.data.toList.drop a := by
      refine List.mem_of_getElem? (i := k - a) ?_
      rw [List.getElem?_drop, show a + (k - a) = k from by omega]
      exact at_some s k h
    have := e s[k] hm
    simp at this; exact absurd this hc
theorem blankFrom_next (s : ByteArray) (a k : Nat) (h : k < s.size) (hd : blankFrom s.data.toList a k) (hc : s[k].toNat = 32) : blankFrom s.data.toList a (k + 1) := by
  intro j ha hj
  by_cases e : j = k
  · subst e; exact ⟨_, at_some s j h, hc⟩
  · exact hd j ha (by omega)
-- the zeros ahead of k places
def zeros (l : List UInt8) (k : Nat) : Prop := ∀ j, j < k → ∃ c, l[j]? = some c ∧ c.toNat = 48
theorem zeros_next (s : ByteArray) (k : Nat) (h : k < s.size) (hd : zeros s.data.toList k) (hc : s[k].toNat = 48) : zeros s.data.toList (k + 1) := by
  intro j hj
  by_cases e : j = k
  · subst e; exact ⟨_, at_some s j h, hc⟩
  · exact hd j (by omega)
def notZero (l : List UInt8) (z : Nat) : Prop := ∃ c, l[z]? = some c ∧ ¬ c.toNat = 48
def barePart (s : ByteArray) (z n : Nat) : List UInt8 := (s.data.toList.drop z).take (n - z)
theorem ext_bare (s : ByteArray) (z n : Nat) : s.extract z n = strOf (barePart s z n) := by
  rw [Lib.extract_eq]; rfl
theorem slice_bare (s : ByteArray) (z n : Nat) (h : z ≤ n) (hn : n ≤ s.size) : ∀ w, (Instr.slice 9 (.string s) (some (.int .i64 (z : Int))) (some (.int .i64 (n : Int))) none).run Tryd.prog w = .ok (.string (strOf (barePart s z n))) w := by
  intro w
  rw [run_slice_string w 9 s .i64 .i64 z n Tryd.underlying9 (by omega) (by omega) (by omega), Int.toNat_natCast, Int.toNat_natCast, ext_bare]

set_option maxHeartbeats 400000 in
theorem figures_10 (s : ByteArray) (w : World) (hm : s.size ≤ maxLen) :
    Calls Tryd.prog 49 #[.string s, .int .i64 10] w fun e w' => e = .returned (.int .i64 (cnt 10 s.data.toList)) ∧ w' = w := by
  unfold maxLen at hm
  go_enter Tryd.func49, Tryd.ntmps49
  go_wp2
  go_loop [5] (fun i => ∃ k : Nat, k ≤ s.size ∧ i = .int .i64 k ∧ digs 10 s.data.toList k) (fun i => s.size - (intOf i).toNat)
  case atStart => exact ⟨0, Nat.zero_le _, rfl, fun j hj => absurd hj (Nat.not_lt_zero _)⟩
  case round =>
    obtain ⟨k, hk, rfl, hd⟩ := hrel
    have HD : Hid (digs 10 s.data.toList k) := hd
    clear hd
    by_cases hlt : k < s.size
    · have hidx := idx s k hlt
      have hc9 := u8_lt' s[k]
      have b0 : decide (k < s.size) = true := by simp; omega
      obtain ⟨c, hcc⟩ : ∃ c : Nat, c = s[k].toNat := ⟨_, rfl⟩
      rw [← hcc] at hidx hc9
      have HC : Hid (c = s[k].toNat) := hcc
      clear hcc
      by_cases h1 : c < 48
      · have b1 : decide ((48 : Int) ≤ (c : Int)) = false := by simp; omega
        go_wp2
        go_ret
        exact ⟨ret_int (by rw [digs_end 10 s k hlt HD.out (dig_no _ _ (by have := HC.out; omega))]), rfl⟩
      · have b1 : decide ((48 : Int) ≤ (c : Int)) = true := by simp; omega
        by_cases h2 : 58 ≤ c
        · have b2 : decide ((c : Int) < 58) = false := by simp; omega
          go_wp2
          go_ret
          exact ⟨ret_int (by rw [digs_end 10 s k hlt HD.out (dig_no _ _ (by have := HC.out; omega))]), rfl⟩
        · have b2 : decide ((c : Int) < 58) = true := by simp; omega
          go_wp2
          go_round
          case rel => exact ⟨k + 1, by omega, by go_num, digs_next 10 s k hlt HD.out ((dig_iff _ _).2 (by have := HC.out; omega))⟩
          case measure => simp [intOf]; omega
    · obtain rfl : k = s.size := by omega
      have b0 : decide (s.size < s.size) = false := by simp
      go_wp2
      go_ret
      exact ⟨ret_int (by rw [digs_all 10 s HD.out]), rfl⟩
set_option maxHeartbeats 400000 in
theorem form_10 (s : ByteArray) (w : World) (hm : s.size ≤ maxLen) :
    Calls Tryd.prog 39 #[.string s, .int .i64 10] w fun e w' => e = .returned (.bool (blank (s.data.toList.drop (cnt 10 s.data.toList)))) ∧ w' = w := by
  have HC : Hid (∀ w, Calls Tryd.prog 49 #[.string s, .int .i64 10] w fun e w' => e = .returned (.int .i64 (cnt 10 s.data.toList)) ∧ w' = w) := fun w => figures_10 s w hm
  have hcl := cnt_lt 10 s
  unfold maxLen at hm
  obtain ⟨n, hn⟩ : ∃ n, n = cnt 10 s.data.toList := ⟨_, rfl⟩
  rw [← hn] at hcl HC ⊢
  clear hn
  go_enter Tryd.func39, Tryd.ntmps39
  go_wp2_with (go_at_call 49; refine (HC.out _).mono ?_; rintro e w1 ⟨rfl, hw1⟩; subst w1)
  go_loop [5] (fun i => ∃ k : Nat, n ≤ k ∧ k ≤ s.size ∧ i = .int .i64 k ∧ blankFrom s.data.toList n k) (fun i => s.size - (intOf i).toNat)
  case atStart => exact ⟨n, Nat.le_refl _, hcl, rfl, fun j h1 h2 => absurd h1 (by omega)⟩
  case round =>
    obtain ⟨k, hnk, hk, rfl, hd⟩ := hrel
    have HD : Hid (blankFrom s.data.toList n k) := hd
    clear hd
    by_cases hlt : k < s.size
    · have hidx := idx s k hlt
      by_cases hc : s[k].toNat = 32
      · have hc' : ((s[k].toNat : Int) != 32) = false := by simp; omega
        have HX : Hid (s[k].toNat = 32) := hc
        clear hc
        go_wp2
        go_round
        case rel => exact ⟨k + 1, by omega, by omega, by go_num, blankFrom_next s n k hlt HD.out HX.out⟩
        case measure => simp [intOf]; omega
      · have hc' : ((s[k].toNat : Int) != 32) = true := by simp; omega
        have HX : Hid (¬ s[k].toNat = 32) := hc
        clear hc
        go_wp2
        go_ret
        exact ⟨by rw [blankFrom_not s n k hnk hlt HX.out]; rfl, rfl⟩
    · obtain rfl : k = s.size := by omega
      go_wp2
      go_ret
      exact ⟨by rw [blankFrom_end s n HD.out]; rfl, rfl⟩
set_option maxHeartbeats 400000 in
theorem bare_10 (s : ByteArray) (w : World) (hm : s.size ≤ maxLen) :
    Calls Tryd.prog 40 #[.string s, .int .i64 10] w fun e w' => ∃ z, z ≤ cnt 10 s.data.toList ∧ zeros s.data.toList z ∧ (z < cnt 10 s.data.toList → notZero s.data.toList z) ∧ e = .returned (.string (strOf (barePart s z (cnt 10 s.data.toList)))) ∧ w' = w := by
  have HC : Hid (∀ w, Calls Tryd.prog 49 #[.string s, .int .i64 10] w fun e w' => e = .returned (.int .i64 (cnt 10 s.data.toList)) ∧ w' = w) := fun w => figures_10 s w hm
  have hcl := cnt_lt 10 s
  unfold maxLen at hm
  obtain ⟨n, hn⟩ : ∃ n, n = cnt 10 s.data.toList := ⟨_, rfl⟩
  rw [← hn] at hcl HC ⊢
  clear hn
  go_enter Tryd.func40, Tryd.ntmps40
  go_wp2_with (go_at_call 49; refine (HC.out _).mono ?_; rintro e w1 ⟨rfl, hw1⟩; subst w1)
  go_loop [6] (fun i => ∃ k : Nat, k ≤ n ∧ i = .int .i64 k ∧ zeros s.data.toList k) (fun i => n - (intOf i).toNat)
  case atStart => exact ⟨0, Nat.zero_le _, rfl, fun j hj => absurd hj (Nat.not_lt_zero _)⟩
  case round =>
    obtain ⟨k, hk, rfl, hd⟩ := hrel
    have HD : Hid (zeros s.data.toList k) := hd
    clear hd
    have hsl := slice_bare s k n hk hcl
    by_cases hlt : k < n
    · have hk2 : k < s.size := by omega
      have hidx := idx s k hk2
      have b0 : decide (k < n) = true := by simp; omega
      by_cases hc : s[k].toNat = 48
      · have hc' : ((s[k].toNat : Int) == 48) = true := by simp; omega
        have HX : Hid (s[k].toNat = 48) := hc
        clear hc
        go_wp2
        go_round
        case rel => exact ⟨k + 1, by omega, by go_num, zeros_next s k hk2 HD.out HX.out⟩
        case measure => simp [intOf]; omega
      · have hc' : ((s[k].toNat : Int) == 48) = false := by simp; omega
        have HX : Hid (¬ s[k].toNat = 48) := hc
        clear hc
        go_wp2
        go_ret
        exact ⟨k, hk, HD.out, fun _ => ⟨_, at_some s k hk2, HX.out⟩, rfl, rfl⟩
    · obtain rfl : k = n := by omega
      have b0 : decide (k < k) = false := by simp
      go_wp2
      go_ret
      exact ⟨k, hk, HD.out, fun h => absurd h (by omega), rfl, rfl⟩

set_option maxHeartbeats 400000 in
theorem figures_8 (s : ByteArray) (w : World) (hm : s.size ≤ maxLen) :
    Calls Tryd.prog 49 #[.string s, .int .i64 8] w fun e w' => e = .returned (.int .i64 (cnt 8 s.data.toList)) ∧ w' = w := by
  unfold maxLen at hm
  go_enter Tryd.func49, Tryd.ntmps49
  go_wp2
  go_loop [5] (fun i => ∃ k : Nat, k ≤ s.size ∧ i = .int .i64 k ∧ digs 8 s.data.toList k) (fun i => s.size - (intOf i).toNat)
  case atStart => exact ⟨0, Nat.zero_le _, rfl, fun j hj => absurd hj (Nat.not_lt_zero _)⟩
  case round =>
    obtain ⟨k, hk, rfl, hd⟩ := hrel
    have HD : Hid (digs 8 s.data.toList k) := hd
    clear hd
    by_cases hlt : k < s.size
    · have hidx := idx s k hlt
      have hc9 := u8_lt' s[k]
      have b0 : decide (k < s.size) = true := by simp; omega
      obtain ⟨c, hcc⟩ : ∃ c : Nat, c = s[k].toNat := ⟨_, rfl⟩
      rw [← hcc] at hidx hc9
      have HC : Hid (c = s[k].toNat) := hcc
      clear hcc
      by_cases h1 : c < 48
      · have b1 : decide ((48 : Int) ≤ (c : Int)) = false := by simp; omega
        go_wp2
        go_ret
        exact ⟨ret_int (by rw [digs_end 8 s k hlt HD.out (dig_no _ _ (by have := HC.out; omega))]), rfl⟩
      · have b1 : decide ((48 : Int) ≤ (c : Int)) = true := by simp; omega
        by_cases h2 : 56 ≤ c
        · have b2 : decide ((c : Int) < 56) = false := by simp; omega
          go_wp2
          go_ret
          exact ⟨ret_int (by rw [digs_end 8 s k hlt HD.out (dig_no _ _ (by have := HC.out; omega))]), rfl⟩
        · have b2 : decide ((c : Int) < 56) = true := by simp; omega
          go_wp2
          go_round
          case rel => exact ⟨k + 1, by omega, by go_num, digs_next 8 s k hlt HD.out ((dig_iff _ _).2 (by have := HC.out; omega))⟩
          case measure => simp [intOf]; omega
    · obtain rfl : k = s.size := by omega
      have b0 : decide (s.size < s.size) = false := by simp
      go_wp2
      go_ret
      exact ⟨ret_int (by rw [digs_all 8 s HD.out]), rfl⟩
set_option maxHeartbeats 400000 in
theorem form_8 (s : ByteArray) (w : World) (hm : s.size ≤ maxLen) :
    Calls Tryd.prog 39 #[.string s, .int .i64 8] w fun e w' => e = .returned (.bool (blank (s.data.toList.drop (cnt 8 s.data.toList)))) ∧ w' = w := by
  have HC : Hid (∀ w, Calls Tryd.prog 49 #[.string s, .int .i64 8] w fun e w' => e = .returned (.int .i64 (cnt 8 s.data.toList)) ∧ w' = w) := fun w => figures_8 s w hm
  have hcl := cnt_lt 8 s
  unfold maxLen at hm
  obtain ⟨n, hn⟩ : ∃ n, n = cnt 8 s.data.toList := ⟨_, rfl⟩
  rw [← hn] at hcl HC ⊢
  clear hn
  go_enter Tryd.func39, Tryd.ntmps39
  go_wp2_with (go_at_call 49; refine (HC.out _).mono ?_; rintro e w1 ⟨rfl, hw1⟩; subst w1)
  go_loop [5] (fun i => ∃ k : Nat, n ≤ k ∧ k ≤ s.size ∧ i = .int .i64 k ∧ blankFrom s.data.toList n k) (fun i => s.size - (intOf i).toNat)
  case atStart => exact ⟨n, Nat.le_refl _, hcl, rfl, fun j h1 h2 => absurd h1 (by omega)⟩
  case round =>
    obtain ⟨k, hnk, hk, rfl, hd⟩ := hrel
    have HD : Hid (blankFrom s.data.toList n k) := hd
    clear hd
    by_cases hlt : k < s.size
    · have hidx := idx s k hlt
      by_cases hc : s[k].toNat = 32
      · have hc' : ((s[k].toNat : Int) != 32) = false := by simp; omega
        have HX : Hid (s[k].toNat = 32) := hc
        clear hc
        go_wp2
        go_round
        case rel => exact ⟨k + 1, by omega, by omega, by go_num, blankFrom_next s n k hlt HD.out HX.out⟩
        case measure => simp [intOf]; omega
      · have hc' : ((s[k].toNat : Int) != 32) = true := by simp; omega
        have HX : Hid (¬ s[k].toNat = 32) := hc
        clear hc
        go_wp2
        go_ret
        exact ⟨by rw [blankFrom_not s n k hnk hlt HX.out]; rfl, rfl⟩
    · obtain rfl : k = s.size := by omega
      go_wp2
      go_ret
      exact ⟨by rw [blankFrom_end s n HD.out]; rfl, rfl⟩
set_option maxHeartbeats 400000 in
theorem bare_8 (s : ByteArray) (w : World) (hm : s.size ≤ maxLen) :
    Calls Tryd.prog 40 #[.string s, .int .i64 8] w fun e w' => ∃ z, z ≤ cnt 8 s.data.toList ∧ zeros s.data.toList z ∧ (z < cnt 8 s.data.toList → notZero s.data.toList z) ∧ e = .returned (.string (strOf (barePart s z (cnt 8 s.data.toList)))) ∧ w' = w := by
  have HC : Hid (∀ w, Calls Tryd.prog 49 #[.string s, .int .i64 8] w fun e w' => e = .returned (.int .i64 (cnt 8 s.data.toList)) ∧ w' = w) := fun w => figures_8 s w hm
  have hcl := cnt_lt 8 s
  unfold maxLen at hm
  obtain ⟨n, hn⟩ : ∃ n, n = cnt 8 s.data.toList := ⟨_, rfl⟩
  rw [← hn] at hcl HC ⊢
  clear hn
  go_enter Tryd.func40, Tryd.ntmps40
  go_wp2_with (go_at_call 49; refine (HC.out _).mono ?_; rintro e w1 ⟨rfl, hw1⟩; subst w1)
  go_loop [6] (fun i => ∃ k : Nat, k ≤ n ∧ i = .int .i64 k ∧ zeros s.data.toList k) (fun i => n - (intOf i).toNat)
  case atStart => exact ⟨0, Nat.zero_le _, rfl, fun j hj => absurd hj (Nat.not_lt_zero _)⟩
  case round =>
    obtain ⟨k, hk, rfl, hd⟩ := hrel
    have HD : Hid (zeros s.data.toList k) := hd
    clear hd
    have hsl := slice_bare s k n hk hcl
    by_cases hlt : k < n
    · have hk2 : k < s.size := by omega
      have hidx := idx s k hk2
      have b0 : decide (k < n) = true := by simp; omega
      by_cases hc : s[k].toNat = 48
      · have hc' : ((s[k].toNat : Int) == 48) = true := by simp; omega
        have HX : Hid (s[k].toNat = 48) := hc
        clear hc
        go_wp2
        go_round
        case rel => exact ⟨k + 1, by omega, by go_num, zeros_next s k hk2 HD.out HX.out⟩
        case measure => simp [intOf]; omega
      · have hc' : ((s[k].toNat : Int) == 48) = false := by simp; omega
        have HX : Hid (¬ s[k].toNat = 48) := hc
        clear hc
        go_wp2
        go_ret
        exact ⟨k, hk, HD.out, fun _ => ⟨_, at_some s k hk2, HX.out⟩, rfl, rfl⟩
    · obtain rfl : k = n := by omega
      have b0 : decide (k < k) = false := by simp
      go_wp2
      go_ret
      exact ⟨k, hk, HD.out, fun h => absurd h (by omega), rfl, rfl⟩

def sufAt (B : Nat) (D : List UInt8) (j : Nat) : Nat := val B 0 (D.drop j)
def worth (B m j : Nat) : Nat := B ^ (min (m - j) (m - 1))
theorem suf_prev (B : Nat) (D : List UInt8) (j : Nat) (h : j < D.length) : sufAt B D j = dv D[j] * B ^ (D.length - (j + 1)) + sufAt B D (j + 1) := by
  unfold sufAt
  rw [List.drop_eq_getElem_cons h, val_cons, val_lin, List.length_drop, Nat.zero_mul, Nat.zero_add]
theorem suf_le (B : Nat) (D : List UInt8) (j : Nat) : sufAt B D j ≤ val B 0 D := by
  have e : val B 0 D = val B (val B 0 (D.take j)) (D.drop j) := by rw [← val_append, List.take_append_drop]
  have h := val_lin B (val B 0 (D.take j)) (D.drop j)
  unfold sufAt
  rw [e, h]; exact Nat.le_add_left _ _
theorem worth_next (B m j : Nat) (h1 : 1 ≤ j) (h2 : j < m) : worth B m (j + 1) * B = worth B m j := by
  unfold worth
  rw [Nat.min_eq_left (by omega), Nat.min_eq_left (by omega), ← Nat.pow_succ]
  congr 1; omega
theorem worth_zero (B m i : Nat) (h : i = 0) : worth B m (i + 1) = worth B m i := by
  subst h; unfold worth
  congr 1; omega
theorem worth_at (B m j : Nat) (h1 : j < m) : worth B m (j + 1) = B ^ (m - (j + 1)) := by
  unfold worth; rw [Nat.min_eq_left (by omega)]
theorem worth_10 (m j : Nat) (hm : m ≤ 19) : worth 10 m j ≤ 1000000000000000000 := by
  unfold worth
  have h : 10 ^ (min (m - j) (m - 1)) ≤ 10 ^ 18 := Nat.pow_le_pow_right (by omega) (by omega)
  have e : (10 : Nat) ^ 18 = 1000000000000000000 := by decide
  omega
theorem worth_8 (m j : Nat) (hm : m ≤ 21) : worth 8 m j ≤ 1152921504606846976 := by
  unfold worth
  have h : 8 ^ (min (m - j) (m - 1)) ≤ 8 ^ 20 := Nat.pow_le_pow_right (by omega) (by omega)
  have e : (8 : Nat) ^ 20 = 1152921504606846976 := by decide
  omega
theorem add_step (c x n r : Nat) (h : 48 ≤ c) (e : r = (c - 48) * x + n) (hr : r ≤ 9223372036854775807) : wrap64 ((n : Int) + wrap64 (((c : Int) - 48) * (x : Int))) = (r : Int) := by
  have e1 : ((c : Int) - 48) * (x : Int) = (((c - 48) * x : Nat) : Int) := by
    rw [Int.natCast_mul]; congr 1; omega
  rw [e1]
  simp only [wrap64]
  omega
theorem mul_step (x y B : Nat) (e : x * B = y) (hy : y ≤ 9223372036854775807) : wrap64 ((x : Int) * (B : Int)) = (y : Int) := by
  have e1 : (x : Int) * (B : Int) = (y : Int) := by rw [← e, Int.natCast_mul]
  rw [e1]; simp only [wrap64]; omega

set_option maxHeartbeats 400000 in
theorem sum_10 (D : List UInt8) (w : World) (hm : D.length ≤ 19) (hd : ∀ x ∈ D, dig 10 x = true) (hv : val 10 0 D ≤ 9223372036854775807) :
    Calls Tryd.prog 41 #[.string (strOf D), .int .i64 10] w fun e w' => e = .returned (.int .i64 (val 10 0 D)) ∧ w' = w := by
  have HD : Hid (∀ x ∈ D, dig 10 x = true) := hd
  have HV : Hid (val 10 0 D ≤ 9223372036854775807) := hv
  have hsz := strOf_size D
  clear hd hv
  go_enter Tryd.func41, Tryd.ntmps41
  go_wp2
  go_loop [5, 6, 7] (fun n t i => ∃ j : Nat, j ≤ D.length ∧ i = .int .i64 ((j : Int) - 1) ∧ n = .int .i64 (sufAt 10 D j) ∧ t = .int .i64 (worth 10 D.length j)) (fun _ _ i => (intOf i + 1).toNat)
  case atStart => exact ⟨D.length, Nat.le_refl _, rfl, by simp [sufAt, val_nil], by simp [worth]⟩
  case round =>
    obtain ⟨j, hj, rfl, rfl, rfl⟩ := hrel
    by_cases hlt : 1 ≤ j
    · obtain ⟨i, rfl⟩ : ∃ i, j = i + 1 := ⟨j - 1, by omega⟩
      have hi : i < D.length := by omega
      have hi2 : i < (strOf D).size := by omega
      have ei : (((i + 1 : Nat) : Int) - 1) = (i : Int) := by omega
      rw [ei]
      have hidx := idx (strOf D) i hi2
      have hcd : (strOf D)[i] = D[i] := rfl
      have hdg := (dig_iff _ _).1 (HD.out D[i] (List.getElem_mem hi))
      have hsp := suf_prev 10 D i hi
      have hsl := Nat.le_trans (suf_le 10 D i) HV.out
      have hw9 := worth_10 D.length (i + 1) hm
      rw [hcd] at hidx
      obtain ⟨c, hc⟩ : ∃ c : Nat, c = D[i].toNat := ⟨_, rfl⟩
      rw [← hc] at hidx hdg
      have HS : Hid (sufAt 10 D i = (c - 48) * worth 10 D.length (i + 1) + sufAt 10 D (i + 1)) := by
        have hwa := worth_at 10 D.length i hi
        rw [hwa, hsp, hc]; rfl
      have HL : Hid (sufAt 10 D i ≤ 9223372036854775807) := hsl
      have hc9 : c < 256 := by omega
      clear hcd hsp hsl hc
      by_cases hz : 0 < i
      · have HW : Hid (worth 10 D.length (i + 1) * 10 = worth 10 D.length i) := worth_next 10 D.length i hz hi
        have HW9 : Hid (worth 10 D.length i ≤ 1000000000000000000) := worth_10 D.length i hm
        go_wp2
        go_round
        case rel =>
          refine ⟨i, by omega, by go_num, int_eq_of ?_, int_eq_of ?_⟩
          · exact add_step c _ _ _ (by omega) HS.out HL.out
          · first | exact mul_step _ _ 10 HW.out (by have := HW9.out; omega) | (have := HW.out; omega)
        case measure => simp [intOf]
      · have HZ : Hid (worth 10 D.length (i + 1) = worth 10 D.length i) := worth_zero 10 D.length i (by omega)
        go_wp2
        go_round
        case rel =>
          refine ⟨i, by omega, by go_num, int_eq_of ?_, int_eq_of (by rw [HZ.out])⟩
          exact add_step c _ _ _ (by omega) HS.out HL.out
        case measure => simp [intOf]
    · obtain rfl : j = 0 := by omega
      go_wp2
      go_ret
      exact ⟨rfl, rfl⟩

set_option maxHeartbeats 400000 in
theorem sum_8 (D : List UInt8) (w : World) (hm : D.length ≤ 21) (hd : ∀ x ∈ D, dig 8 x = true) (hv : val 8 0 D ≤ 9223372036854775807) :
    Calls Tryd.prog 41 #[.string (strOf D), .int .i64 8] w fun e w' => e = .returned (.int .i64 (val 8 0 D)) ∧ w' = w := by
  have HD : Hid (∀ x ∈ D, dig 8 x = true) := hd
  have HV : Hid (val 8 0 D ≤ 9223372036854775807) := hv
  have hsz := strOf_size D
  clear hd hv
  go_enter Tryd.func41, Tryd.ntmps41
  go_wp2
  go_loop [5, 6, 7] (fun n t i => ∃ j : Nat, j ≤ D.length ∧ i = .int .i64 ((j : Int) - 1) ∧ n = .int .i64 (sufAt 8 D j) ∧ t = .int .i64 (worth 8 D.length j)) (fun _ _ i => (intOf i + 1).toNat)
  case atStart => exact ⟨D.length, Nat.le_refl _, rfl, by simp [sufAt, val_nil], by simp [worth]⟩
  case round =>
    obtain ⟨j, hj, rfl, rfl, rfl⟩ := hrel
    by_cases hlt : 1 ≤ j
    · obtain ⟨i, rfl⟩ : ∃ i, j = i + 1 := ⟨j - 1, by omega⟩
      have hi : i < D.length := by omega
      have hi2 : i < (strOf D).size := by omega
      have ei : (((i + 1 : Nat) : Int) - 1) = (i : Int) := by omega
      rw [ei]
      have hidx := idx (strOf D) i hi2
      have hcd : (strOf D)[i] = D[i] := rfl
      have hdg := (dig_iff _ _).1 (HD.out D[i] (List.getElem_mem hi))
      have hsp := suf_prev 8 D i hi
      have hsl := Nat.le_trans (suf_le 8 D i) HV.out
      have hw9 := worth_8 D.length (i + 1) hm
      rw [hcd] at hidx
      obtain ⟨c, hc⟩ : ∃ c : Nat, c = D[i].toNat := ⟨_, rfl⟩
      rw [← hc] at hidx hdg
      have HS : Hid (sufAt 8 D i = (c - 48) * worth 8 D.length (i + 1) + sufAt 8 D (i + 1)) := by
        have hwa := worth_at 8 D.length i hi
        rw [hwa, hsp, hc]; rfl
      have HL : Hid (sufAt 8 D i ≤ 9223372036854775807) := hsl
      have hc9 : c < 256 := by omega
      clear hcd hsp hsl hc
      by_cases hz : 0 < i
      · have HW : Hid (worth 8 D.length (i + 1) * 8 = worth 8 D.length i) := worth_next 8 D.length i hz hi
        have HW9 : Hid (worth 8 D.length i ≤ 1152921504606846976) := worth_8 D.length i hm
        go_wp2
        go_round
        case rel =>
          refine ⟨i, by omega, by go_num, int_eq_of ?_, int_eq_of ?_⟩
          · exact add_step c _ _ _ (by omega) HS.out HL.out
          · first | exact mul_step _ _ 8 HW.out (by have := HW9.out; omega) | (have := HW.out; omega)
        case measure => simp [intOf]
      · have HZ : Hid (worth 8 D.length (i + 1) = worth 8 D.length i) := worth_zero 8 D.length i (by omega)
        go_wp2
        go_round
        case rel =>
          refine ⟨i, by omega, by go_num, int_eq_of ?_, int_eq_of (by rw [HZ.out])⟩
          exact add_step c _ _ _ (by omega) HS.out HL.out
        case measure => simp [intOf]
    · obtain rfl : j = 0 := by omega
      go_wp2
      go_ret
      exact ⟨rfl, rfl⟩
end Go.Proofs.YtbkfkanknfdelaaDoor.Rd
