
-- num.countDigits, isBlank, readDigits, Dec, Oct: contracts.
import Derived.Test.YtnfplepaejjmfaaGreatDoorRows
import Derived.Test.YtnfplepaejjmfaaGreatDoorDigits
import Derived.WalkKit
import Derived.ProofKit
import Derived.WalkLawsBesides
import Derived.Lib.IndexBytes
namespace Go.Proofs.YtnfplepaejjmfaaGreatDoor.Rd
open Go.ChangeShapes Go.WideShapes Go.ChangeAt Go.RowKit
set_option linter.unusedVariables false
set_option maxRecDepth 100000

theorem idx (s : ByteArray) (k : Nat) (h : k < s.size) : ∀ w, (Instr.index 9 (.string s) (.int .i64 (k : Int))).run Tryz.prog w = .ok (.int .u8 (s[k].toNat : Int)) w := by
  intro w
  rw [run_index_string w 9 s .i64 k Tryz.underlying9, dif_pos (by omega)]
  simp
theorem at_some (s : ByteArray) (k : Nat) (h : k < s.size) : s.data.toList[k]? = some s[k] := by
  have hl : s.data.toList.length = s.size := by simp
  rw [List.getElem?_eq_getElem (by omega)]; rfl
theorem ret_int {k : IntKind} {a b : Int} (h : a = b) : Ending.returned (.int k a) = .returned (.int k b) := by rw [h]
theorem ret_pair {k : IntKind} {a b : Int} {x : Value} (h : a = b) : Ending.returned (.tuple #[.int k a, x]) = .returned (.tuple #[.int k b, x]) := by rw [h]
theorem int_eq_of {k : IntKind} {a b : Int} (h : a = b) : Value.int k a = .int k b := by rw [h]
def digs (base : Nat) (l : List UInt8) (k : Nat) : Prop := ∀ j, j < k → ∃ c, l[j]? = some c ∧ dig base c = true
theorem digs_next (base : Nat) (s : ByteArray) (k : Nat) (h : k < s.size) (hd : digs base s.data.toList k) (hc : dig base s[k] = true) : digs base s.data.toList (k + 1) := by
  intro j hj
  by_cases e : j = k
  · subst e; exact ⟨_, at_some s j h, hc⟩
  · exact hd j (by omega)
theorem digs_end (base : Nat) (s : ByteArray) (k : Nat) (h : k < s.size) (hd : digs base s.data.toList k) (hc : dig base s[k] = false) : cnt base s.data.toList = k :=
  cnt_of base _ k hd (fun c hx => by rw [at_some s k h] at hx; injection hx with hx; rw [← hx]; exact hc)
theorem digs_all (base : Nat) (s : ByteArray) (hd : digs base s.data.toList s.size) : cnt base s.data.toList = s.size :=
  cnt_of base _ s.size hd (fun c hx => by
    have hl : s.data.toList.length = s.size := by simp
    rw [List.getElem?_eq_none (by omega)] at hx; cases hx)
theorem dig_iff (base : Nat) (c : UInt8) : dig base c = true ↔ 48 ≤ c.toNat ∧ c.toNat < 48 + base := by simp [dig]
theorem dig_no (base : Nat) (c : UInt8) (h : ¬ (48 ≤ c.toNat ∧ c.toNat < 48 + base)) : dig base c = false := by
  cases e : dig base c
  · rfl
  · exact absurd ((dig_iff base c).1 e) h
theorem u8_lt' (x : UInt8) : x.toNat < 256 := x.toNat_lt

def allBlank (l : List UInt8) (k : Nat) : Prop := ∀ j, j < k → ∃ c, l[j]? = some c ∧ c.toNat = 32
theorem blank_all (s : ByteArray) (h : allBlank s.data.toList s.size) : blank s.data.toList = true := by
  unfold blank
  rw [List.all_eq_true]
  intro c hc
  obtain ⟨j, hj, e⟩ := List.mem_iff_getElem.1 hc
  have hl : s.data.toList.length = s.size := by simp
  obtain ⟨c', h1, h2⟩ := h j (by omega)
  rw [List.getElem?_eq_getElem hj, e] at h1
  injection h1 with h1
  simpa [h1] using h2
theorem blank_not (s : ByteArray) (k : Nat) (h : k < s.size) (hc : ¬ s[k].toNat = 32) : blank s.data.toList = false := by
  cases e : blank s.data.toList
  · rfl
  · unfold blank at e
    rw [List.all_eq_true] at e
    have := e s[k] (List.mem_of_getElem? (at_some s k h))
    simp at this; exact absurd this hc
theorem blank_next (s : ByteArray) (k : Nat) (h : k < s.size) (hd : allBlank s.data.toList k) (hc : s[k].toNat = 32) : allBlank s.data.toList (k + 1) := by
  intro j hj
  by_cases e : j = k
  · subst e; exact ⟨_, at_some s j h, hc⟩
  · exact hd j (by omega)

theorem blank_any (s : ByteArray) (w : World) (hm : s.size ≤ maxLen) :
    Calls Tryz.prog 117 #[.string s] w fun e w' => e = .returned (.bool (blank s.data.toList)) ∧ w' = w := by
  unfold maxLen at hm
  go_enter Tryz.func117, Tryz.ntmps117
  go_wp2
  go_loop [6] (fun i => ∃ k : Nat, k ≤ s.size ∧ i = .int .i64 k ∧ allBlank s.data.toList k) (fun i => s.size - (intOf i).toNat)
  case atStart => exact ⟨0, Nat.zero_le _, rfl, fun j hj => absurd hj (Nat.not_lt_zero _)⟩
  case round =>
    obtain ⟨k, hk, rfl, hd⟩ := hrel
    have HD : Hid (allBlank s.data.toList k) := hd
    clear hd
    by_cases hlt : k < s.size
    · have hidx := idx s k hlt
      by_cases hc : s[k].toNat = 32
      · have hc' : ((s[k].toNat : Int) != 32) = false := by simp; omega
        have HC : Hid (s[k].toNat = 32) := hc
        clear hc
        go_wp2
        go_round
        case rel => exact ⟨k + 1, by omega, by go_num, blank_next s k hlt HD.out HC.out⟩
        case measure => simp [intOf]; omega
      · have hc' : ((s[k].toNat : Int) != 32) = true := by simp; omega
        have HC : Hid (¬ s[k].toNat = 32) := hc
        clear hc
        go_wp2
        go_ret
        exact ⟨by rw [blank_not s k hlt HC.out]; rfl, rfl⟩
    · obtain rfl : k = s.size := by omega
      go_wp2
      go_ret
      exact ⟨by rw [blank_all s HD.out]; rfl, rfl⟩

theorem count_10 (s : ByteArray) (w : World) (hm : s.size ≤ maxLen) :
    Calls Tryz.prog 116 #[.string s, .int .i64 10] w fun e w' => e = .returned (.int .i64 (cnt 10 s.data.toList)) ∧ w' = w := by
  unfold maxLen at hm
  go_enter Tryz.func116, Tryz.ntmps116
  go_wp2
  go_loop [8] (fun i => ∃ k : Nat, k ≤ s.size ∧ i = .int .i64 k ∧ digs 10 s.data.toList k) (fun i => s.size - (intOf i).toNat)
  case atStart => exact ⟨0, Nat.zero_le _, rfl, fun j hj => absurd hj (Nat.not_lt_zero _)⟩
  case round =>
    obtain ⟨k, hk, rfl, hd⟩ := hrel
    have HD : Hid (digs 10 s.data.toList k) := hd
    clear hd
    by_cases hlt : k < s.size
    · have hidx := idx s k hlt
      have hc9 := u8_lt' s[k]
      obtain ⟨c, hcc⟩ : ∃ c : Nat, c = s[k].toNat := ⟨_, rfl⟩
      rw [← hcc] at hidx hc9
      have HC : Hid (c = s[k].toNat) := hcc
      clear hcc
      by_cases h1 : c < 48
      · have b1 : decide ((c : Int) < 48) = true := by simp; omega
        go_wp2
        go_ret
        exact ⟨ret_int (by rw [digs_end 10 s k hlt HD.out (dig_no _ _ (by have := HC.out; omega))]), rfl⟩
      · have b1 : decide ((c : Int) < 48) = false := by simp; omega
        by_cases h2 : 10 ≤ c - 48
        · have b2 : decide ((10 : Int) ≤ (c : Int) - 48) = true := by simp; omega
          go_wp2
          go_ret
          exact ⟨ret_int (by rw [digs_end 10 s k hlt HD.out (dig_no _ _ (by have := HC.out; omega))]), rfl⟩
        · have b2 : decide ((10 : Int) ≤ (c : Int) - 48) = false := by simp; omega
          go_wp2
          go_round
          case rel => exact ⟨k + 1, by omega, by go_num, digs_next 10 s k hlt HD.out ((dig_iff _ _).2 (by have := HC.out; omega))⟩
          case measure => simp [intOf]; omega
    · obtain rfl : k = s.size := by omega
      go_wp2
      go_ret
      exact ⟨ret_int (by rw [digs_all 10 s HD.out]), rfl⟩

theorem count_8 (s : ByteArray) (w : World) (hm : s.size ≤ maxLen) :
    Calls Tryz.prog 116 #[.string s, .int .i64 8] w fun e w' => e = .returned (.int .i64 (cnt 8 s.data.toList)) ∧ w' = w := by
  unfold maxLen at hm
  go_enter Tryz.func116, Tryz.ntmps116
  go_wp2
  go_loop [8] (fun i => ∃ k : Nat, k ≤ s.size ∧ i = .int .i64 k ∧ digs 8 s.data.toList k) (fun i => s.size - (intOf i).toNat)
  case atStart => exact ⟨0, Nat.zero_le _, rfl, fun j hj => absurd hj (Nat.not_lt_zero _)⟩
  case round =>
    obtain ⟨k, hk, rfl, hd⟩ := hrel
    have HD : Hid (digs 8 s.data.toList k) := hd
    clear hd
    by_cases hlt : k < s.size
    · have hidx := idx s k hlt
      have hc9 := u8_lt' s[k]
      obtain ⟨c, hcc⟩ : ∃ c : Nat, c = s[k].toNat := ⟨_, rfl⟩
      rw [← hcc] at hidx hc9
      have HC : Hid (c = s[k].toNat) := hcc
      clear hcc
      by_cases h1 : c < 48
      · have b1 : decide ((c : Int) < 48) = true := by simp; omega
        go_wp2
        go_ret
        exact ⟨ret_int (by rw [digs_end 8 s k hlt HD.out (dig_no _ _ (by have := HC.out; omega))]), rfl⟩
      · have b1 : decide ((c : Int) < 48) = false := by simp; omega
        by_cases h2 : 8 ≤ c - 48
        · have b2 : decide ((8 : Int) ≤ (c : Int) - 48) = true := by simp; omega
          go_wp2
          go_ret
          exact ⟨ret_int (by rw [digs_end 8 s k hlt HD.out (dig_no _ _ (by have := HC.out; omega))]), rfl⟩
        · have b2 : decide ((8 : Int) ≤ (c : Int) - 48) = false := by simp; omega
          go_wp2
          go_round
          case rel => exact ⟨k + 1, by omega, by go_num, digs_next 8 s k hlt HD.out ((dig_iff _ _).2 (by have := HC.out; omega))⟩
          case measure => simp [intOf]; omega
    · obtain rfl : k = s.size := by omega
      go_wp2
      go_ret
      exact ⟨ret_int (by rw [digs_all 8 s HD.out]), rfl⟩

theorem cnt_lt (B : Nat) (s : ByteArray) : cnt B s.data.toList ≤ s.size := by
  have h := cnt_le B s.data.toList
  have hl : s.data.toList.length = s.size := by simp
  omega
theorem digit_at (B : Nat) (s : ByteArray) (k : Nat) (h : k < cnt B s.data.toList) : ∃ h1 : k < s.size, 48 ≤ s[k].toNat ∧ s[k].toNat < 48 + B := by
  obtain ⟨c, h1, h2⟩ := cnt_dig B _ k h
  have hk : k < s.size := by have := cnt_lt B s; omega
  rw [at_some s k hk] at h1
  injection h1 with h1
  subst h1
  exact ⟨hk, (dig_iff _ _).1 h2⟩
theorem val_next (B : Nat) (s : ByteArray) (k : Nat) (h : k < s.size) : val B 0 (s.data.toList.take (k + 1)) = val B 0 (s.data.toList.take k) * B + (s[k].toNat - 48) := by
  have hl : s.data.toList.length = s.size := by simp
  rw [List.take_succ_eq_append_getElem (by omega), val_snoc]; rfl
theorem val_mono (B : Nat) (l : List UInt8) (i j : Nat) (hB : 1 ≤ B) (h : i ≤ j) : val B 0 (l.take i) ≤ val B 0 (l.take j) := by
  have := val_take_le B (l.take j) i hB
  rwa [List.take_take, Nat.min_eq_left h] at this
def vat (B : Nat) (s : ByteArray) (k : Nat) : Nat := val B 0 (s.data.toList.take k)
theorem vat_next (B : Nat) (s : ByteArray) (k : Nat) (h : k < s.size) : vat B s (k + 1) = vat B s k * B + (s[k].toNat - 48) := val_next B s k h
theorem vat_mono (B : Nat) (s : ByteArray) (i j : Nat) (hB : 1 ≤ B) (h : i ≤ j) : vat B s i ≤ vat B s j := val_mono B _ i j hB h
theorem rest_blank (B : Nat) (s : ByteArray) : (s.extract (cnt B s.data.toList) s.size).data.toList = s.data.toList.drop (cnt B s.data.toList) := Lib.extract_to_end s _

theorem read_10_form (s : ByteArray) (w : World) (hm : s.size ≤ maxLen) (hf : blank (s.data.toList.drop (cnt 10 s.data.toList)) = false) :
    Calls Tryz.prog 101 #[.string s, .int .i64 10] w fun e w' => e = .returned (.tuple #[.int .i64 0, .int .i64 10]) ∧ w' = w := by
  have HM : Hid (s.size ≤ maxLen) := hm
  unfold maxLen at hm
  have hcl := cnt_lt 10 s
  have HC : Hid (∀ w, Calls Tryz.prog 116 #[.string s, .int .i64 10] w fun e w' => e = .returned (.int .i64 (cnt 10 s.data.toList)) ∧ w' = w) := fun w => count_10 s w hm
  obtain ⟨n, hn⟩ : ∃ n, n = cnt 10 s.data.toList := ⟨_, rfl⟩
  have HK : Hid (n = cnt 10 s.data.toList) := hn
  rw [← hn] at hcl HC
  have HB : Hid (∀ w, Calls Tryz.prog 117 #[.string (s.extract n s.size)] w fun e w' => e = .returned (.bool false) ∧ w' = w) := by
    intro w
    have h := blank_any (s.extract n s.size) w (by have := HM.out; unfold maxLen at this ⊢; simp; omega)
    rw [hn, rest_blank, hf] at h
    rw [hn]; exact h
  clear hn hf
  go_enter Tryz.func101, Tryz.ntmps101
  go_wp2_with (first
    | (go_at_call 116; refine (HC.out _).mono ?_; rintro e w1 ⟨rfl, hw1⟩; subst w1)
    | (go_at_call 117; refine (HB.out _).mono ?_; rintro e w1 ⟨rfl, hw1⟩; subst w1))
  go_ret2
  exact ⟨rfl, rfl⟩
theorem read_10_ok (s : ByteArray) (w : World) (hm : s.size ≤ maxLen) (hf : blank (s.data.toList.drop (cnt 10 s.data.toList)) = true) (hv : vat 10 s (cnt 10 s.data.toList) ≤ 9223372036854775807) :
    Calls Tryz.prog 101 #[.string s, .int .i64 10] w fun e w' => e = .returned (.tuple #[.int .i64 (vat 10 s (cnt 10 s.data.toList)), .int .i64 0]) ∧ w' = w := by
  have HM : Hid (s.size ≤ maxLen) := hm
  unfold maxLen at hm
  have hcl := cnt_lt 10 s
  have HC : Hid (∀ w, Calls Tryz.prog 116 #[.string s, .int .i64 10] w fun e w' => e = .returned (.int .i64 (cnt 10 s.data.toList)) ∧ w' = w) := fun w => count_10 s w hm
  obtain ⟨n, hn⟩ : ∃ n, n = cnt 10 s.data.toList := ⟨_, rfl⟩
  have HK : Hid (n = cnt 10 s.data.toList) := hn
  rw [← hn] at hcl HC
  have HB : Hid (∀ w, Calls Tryz.prog 117 #[.string (s.extract n s.size)] w fun e w' => e = .returned (.bool true) ∧ w' = w) := by
    intro w
    have h := blank_any (s.extract n s.size) w (by have := HM.out; unfold maxLen at this ⊢; simp; omega)
    rw [hn, rest_blank, hf] at h
    rw [hn]; exact h
  rw [← hn] at hv
  have HV : Hid (vat 10 s n ≤ 9223372036854775807) := hv
  rw [← hn]
  clear hn hf hv
  go_enter Tryz.func101, Tryz.ntmps101
  go_wp2_with (first
    | (go_at_call 116; refine (HC.out _).mono ?_; rintro e w1 ⟨rfl, hw1⟩; subst w1)
    | (go_at_call 117; refine (HB.out _).mono ?_; rintro e w1 ⟨rfl, hw1⟩; subst w1))
  go_loop [7, 19] (fun v i => ∃ k : Nat, k ≤ n ∧ i = .int .i64 k ∧ v = .int .i64 (vat 10 s k)) (fun _ i => n - (intOf i).toNat)
  case atStart => exact ⟨0, Nat.zero_le _, rfl, rfl⟩
  case round =>
    obtain ⟨k, hk, rfl, rfl⟩ := hrel
    by_cases hlt : k < n
    · obtain ⟨h1, h2, h3⟩ := digit_at 10 s k (by rw [← HK.out]; exact hlt)
      have hidx := idx s k h1
      have hnx := vat_next 10 s k h1
      have hmo := vat_mono 10 s (k + 1) n (by decide) hlt
      have hmx := HV.out
      obtain ⟨c, hcc⟩ : ∃ c : Nat, c = s[k].toNat := ⟨_, rfl⟩
      rw [← hcc] at hidx h2 h3 hnx
      obtain ⟨x, hx⟩ : ∃ x : Nat, x = vat 10 s k := ⟨_, rfl⟩
      rw [← hx] at hnx ⊢
      have hle : x * 10 + (c - 48) ≤ 9223372036854775807 := by omega
      have HN : Hid (vat 10 s (k + 1) = x * 10 + (c - 48)) := hnx
      clear hnx hmo hmx hcc hx
      go_wp2
      go_round
      case rel => exact ⟨k + 1, by omega, by go_num, int_eq_of (by rw [HN.out]; omega)⟩
      case measure => simp [intOf]; omega
    · obtain rfl : k = n := by omega
      go_wp2
      go_ret2
      exact ⟨rfl, rfl⟩
theorem read_10_wide (s : ByteArray) (w : World) (hm : s.size ≤ maxLen) (hf : blank (s.data.toList.drop (cnt 10 s.data.toList)) = true) (hv : 9223372036854775807 < vat 10 s (cnt 10 s.data.toList)) :
    Calls Tryz.prog 101 #[.string s, .int .i64 10] w fun e w' => e = .returned (.tuple #[.int .i64 0, .int .i64 11]) ∧ w' = w := by
  have HM : Hid (s.size ≤ maxLen) := hm
  unfold maxLen at hm
  have hcl := cnt_lt 10 s
  have HC : Hid (∀ w, Calls Tryz.prog 116 #[.string s, .int .i64 10] w fun e w' => e = .returned (.int .i64 (cnt 10 s.data.toList)) ∧ w' = w) := fun w => count_10 s w hm
  obtain ⟨n, hn⟩ : ∃ n, n = cnt 10 s.data.toList := ⟨_, rfl⟩
  have HK : Hid (n = cnt 10 s.data.toList) := hn
  rw [← hn] at hcl HC
  have HB : Hid (∀ w, Calls Tryz.prog 117 #[.string (s.extract n s.size)] w fun e w' => e = .returned (.bool true) ∧ w' = w) := by
    intro w
    have h := blank_any (s.extract n s.size) w (by have := HM.out; unfold maxLen at this ⊢; simp; omega)
    rw [hn, rest_blank, hf] at h
    rw [hn]; exact h
  rw [← hn] at hv
  have HV : Hid (9223372036854775807 < vat 10 s n) := hv
  clear hn hf hv
  go_enter Tryz.func101, Tryz.ntmps101
  go_wp2_with (first
    | (go_at_call 116; refine (HC.out _).mono ?_; rintro e w1 ⟨rfl, hw1⟩; subst w1)
    | (go_at_call 117; refine (HB.out _).mono ?_; rintro e w1 ⟨rfl, hw1⟩; subst w1))
  go_loop [7, 19] (fun v i => ∃ k : Nat, k ≤ n ∧ i = .int .i64 k ∧ v = .int .i64 (vat 10 s k) ∧ vat 10 s k ≤ 9223372036854775807) (fun _ i => n - (intOf i).toNat)
  case atStart => exact ⟨0, Nat.zero_le _, rfl, rfl, Nat.zero_le _⟩
  case round =>
    obtain ⟨k, hk, rfl, rfl, hx9⟩ := hrel
    by_cases hlt : k < n
    · obtain ⟨h1, h2, h3⟩ := digit_at 10 s k (by rw [← HK.out]; exact hlt)
      have hidx := idx s k h1
      have hnx := vat_next 10 s k h1
      obtain ⟨c, hcc⟩ : ∃ c : Nat, c = s[k].toNat := ⟨_, rfl⟩
      rw [← hcc] at hidx h2 h3 hnx
      obtain ⟨x, hx⟩ : ∃ x : Nat, x = vat 10 s k := ⟨_, rfl⟩
      rw [← hx] at hnx hx9 ⊢
      have HN : Hid (vat 10 s (k + 1) = x * 10 + (c - 48)) := hnx
      clear hnx hcc hx
      by_cases hle : x * 10 + (c - 48) ≤ 9223372036854775807
      · go_wp2
        go_round
        case rel => exact ⟨k + 1, by omega, by go_num, int_eq_of (by rw [HN.out]; omega), by rw [HN.out]; exact hle⟩
        case measure => simp [intOf]; omega
      · go_wp2
        go_ret2
        exact ⟨rfl, rfl⟩
    · obtain rfl : k = n := by omega
      exact absurd HV.out (by omega)
theorem read_10 (s : ByteArray) (w : World) (hm : s.size ≤ maxLen) :
    Calls Tryz.prog 101 #[.string s, .int .i64 10] w fun e w' => e = .returned (.tuple #[.int .i64 (rd 10 s.data.toList).1, .int .i64 (rd 10 s.data.toList).2]) ∧ w' = w := by
  unfold rd
  cases hf : blank (s.data.toList.drop (cnt 10 s.data.toList))
  · rw [if_neg (by decide)]; exact read_10_form s w hm hf
  · rw [if_pos rfl]
    by_cases hv : val 10 0 (s.data.toList.take (cnt 10 s.data.toList)) ≤ 9223372036854775807
    · rw [if_pos hv]; exact read_10_ok s w hm hf hv
    · rw [if_neg hv]; exact read_10_wide s w hm hf (Nat.lt_of_not_le hv)
theorem dec_any (s : ByteArray) (w : World) (hm : s.size ≤ maxLen) :
    Calls Tryz.prog 79 #[.string s] w fun e w' => e = .returned (.tuple #[.int .i64 (rd 10 s.data.toList).1, .int .i64 (rd 10 s.data.toList).2]) ∧ w' = w := by
  go_enter Tryz.func79, Tryz.ntmps79
  go_wp2_with (go_at_call 101; refine (read_10 _ _ hm).mono ?_; rintro e w1 ⟨rfl, hw1⟩; subst w1)
  go_ret2
  exact ⟨rfl, rfl⟩

theorem read_8_form (s : ByteArray) (w : World) (hm : s.size ≤ maxLen) (hf : blank (s.data.toList.drop (cnt 8 s.data.toList)) = false) :
    Calls Tryz.prog 101 #[.string s, .int .i64 8] w fun e w' => e = .returned (.tuple #[.int .i64 0, .int .i64 10]) ∧ w' = w := by
  have HM : Hid (s.size ≤ maxLen) := hm
  unfold maxLen at hm
  have hcl := cnt_lt 8 s
  have HC : Hid (∀ w, Calls Tryz.prog 116 #[.string s, .int .i64 8] w fun e w' => e = .returned (.int .i64 (cnt 8 s.data.toList)) ∧ w' = w) := fun w => count_8 s w hm
  obtain ⟨n, hn⟩ : ∃ n, n = cnt 8 s.data.toList := ⟨_, rfl⟩
  have HK : Hid (n = cnt 8 s.data.toList) := hn
  rw [← hn] at hcl HC
  have HB : Hid (∀ w, Calls Tryz.prog 117 #[.string (s.extract n s.size)] w fun e w' => e = .returned (.bool false) ∧ w' = w) := by
    intro w
    have h := blank_any (s.extract n s.size) w (by have := HM.out; unfold maxLen at this ⊢; simp; omega)
    rw [hn, rest_blank, hf] at h
    rw [hn]; exact h
  clear hn hf
  go_enter Tryz.func101, Tryz.ntmps101
  go_wp2_with (first
    | (go_at_call 116; refine (HC.out _).mono ?_; rintro e w1 ⟨rfl, hw1⟩; subst w1)
    | (go_at_call 117; refine (HB.out _).mono ?_; rintro e w1 ⟨rfl, hw1⟩; subst w1))
  go_ret2
  exact ⟨rfl, rfl⟩
theorem read_8_ok (s : ByteArray) (w : World) (hm : s.size ≤ maxLen) (hf : blank (s.data.toList.drop (cnt 8 s.data.toList)) = true) (hv : vat 8 s (cnt 8 s.data.toList) ≤ 9223372036854775807) :
    Calls Tryz.prog 101 #[.string s, .int .i64 8] w fun e w' => e = .returned (.tuple #[.int .i64 (vat 8 s (cnt 8 s.data.toList)), .int .i64 0]) ∧ w' = w := by
  have HM : Hid (s.size ≤ maxLen) := hm
  unfold maxLen at hm
  have hcl := cnt_lt 8 s
  have HC : Hid (∀ w, Calls Tryz.prog 116 #[.string s, .int .i64 8] w fun e w' => e = .returned (.int .i64 (cnt 8 s.data.toList)) ∧ w' = w) := fun w => count_8 s w hm
  obtain ⟨n, hn⟩ : ∃ n, n = cnt 8 s.data.toList := ⟨_, rfl⟩
  have HK : Hid (n = cnt 8 s.data.toList) := hn
  rw [← hn] at hcl HC
  have HB : Hid (∀ w, Calls Tryz.prog 117 #[.string (s.extract n s.size)] w fun e w' => e = .returned (.bool true) ∧ w' = w) := by
    intro w
    have h := blank_any (s.extract n s.size) w (by have := HM.out; unfold maxLen at this ⊢; simp; omega)
    rw [hn, rest_blank, hf] at h
    rw [hn]; exact h
  rw [← hn] at hv
  have HV : Hid (vat 8 s n ≤ 9223372036854775807) := hv
  rw [← hn]
  clear hn hf hv
  go_enter Tryz.func101, Tryz.ntmps101
  go_wp2_with (first
    | (go_at_call 116; refine (HC.out _).mono ?_; rintro e w1 ⟨rfl, hw1⟩; subst w1)
    | (go_at_call 117; refine (HB.out _).mono ?_; rintro e w1 ⟨rfl, hw1⟩; subst w1))
  go_loop [7, 19] (fun v i => ∃ k : Nat, k ≤ n ∧ i = .int .i64 k ∧ v = .int .i64 (vat 8 s k)) (fun _ i => n - (intOf i).toNat)
  case atStart => exact ⟨0, Nat.zero_le _, rfl, rfl⟩
  case round =>
    obtain ⟨k, hk, rfl, rfl⟩ := hrel
    by_cases hlt : k < n
    · obtain ⟨h1, h2, h3⟩ := digit_at 8 s k (by rw [← HK.out]; exact hlt)
      have hidx := idx s k h1
      have hnx := vat_next 8 s k h1
      have hmo := vat_mono 8 s (k + 1) n (by decide) hlt
      have hmx := HV.out
      obtain ⟨c, hcc⟩ : ∃ c : Nat, c = s[k].toNat := ⟨_, rfl⟩
      rw [← hcc] at hidx h2 h3 hnx
      obtain ⟨x, hx⟩ : ∃ x : Nat, x = vat 8 s k := ⟨_, rfl⟩
      rw [← hx] at hnx ⊢
      have hle : x * 8 + (c - 48) ≤ 9223372036854775807 := by omega
      have HN : Hid (vat 8 s (k + 1) = x * 8 + (c - 48)) := hnx
      clear hnx hmo hmx hcc hx
      go_wp2
      go_round
      case rel => exact ⟨k + 1, by omega, by go_num, int_eq_of (by rw [HN.out]; omega)⟩
      case measure => simp [intOf]; omega
    · obtain rfl : k = n := by omega
      go_wp2
      go_ret2
      exact ⟨rfl, rfl⟩
theorem read_8_wide (s : ByteArray) (w : World) (hm : s.size ≤ maxLen) (hf : blank (s.data.toList.drop (cnt 8 s.data.toList)) = true) (hv : 9223372036854775807 < vat 8 s (cnt 8 s.data.toList)) :
    Calls Tryz.prog 101 #[.string s, .int .i64 8] w fun e w' => e = .returned (.tuple #[.int .i64 0, .int .i64 11]) ∧ w' = w := by
  have HM : Hid (s.size ≤ maxLen) := hm
  unfold maxLen at hm
  have hcl := cnt_lt 8 s
  have HC : Hid (∀ w, Calls Tryz.prog 116 #[.string s, .int .i64 8] w fun e w' => e = .returned (.int .i64 (cnt 8 s.data.toList)) ∧ w' = w) := fun w => count_8 s w hm
  obtain ⟨n, hn⟩ : ∃ n, n = cnt 8 s.data.toList := ⟨_, rfl⟩
  have HK : Hid (n = cnt 8 s.data.toList) := hn
  rw [← hn] at hcl HC
  have HB : Hid (∀ w, Calls Tryz.prog 117 #[.string (s.extract n s.size)] w fun e w' => e = .returned (.bool true) ∧ w' = w) := by
    intro w
    have h := blank_any (s.extract n s.size) w (by have := HM.out; unfold maxLen at this ⊢; simp; omega)
    rw [hn, rest_blank, hf] at h
    rw [hn]; exact h
  rw [← hn] at hv
  have HV : Hid (9223372036854775807 < vat 8 s n) := hv
  clear hn hf hv
  go_enter Tryz.func101, Tryz.ntmps101
  go_wp2_with (first
    | (go_at_call 116; refine (HC.out _).mono ?_; rintro e w1 ⟨rfl, hw1⟩; subst w1)
    | (go_at_call 117; refine (HB.out _).mono ?_; rintro e w1 ⟨rfl, hw1⟩; subst w1))
  go_loop [7, 19] (fun v i => ∃ k : Nat, k ≤ n ∧ i = .int .i64 k ∧ v = .int .i64 (vat 8 s k) ∧ vat 8 s k ≤ 9223372036854775807) (fun _ i => n - (intOf i).toNat)
  case atStart => exact ⟨0, Nat.zero_le _, rfl, rfl, Nat.zero_le _⟩
  case round =>
    obtain ⟨k, hk, rfl, rfl, hx9⟩ := hrel
    by_cases hlt : k < n
    · obtain ⟨h1, h2, h3⟩ := digit_at 8 s k (by rw [← HK.out]; exact hlt)
      have hidx := idx s k h1
      have hnx := vat_next 8 s k h1
      obtain ⟨c, hcc⟩ : ∃ c : Nat, c = s[k].toNat := ⟨_, rfl⟩
      rw [← hcc] at hidx h2 h3 hnx
      obtain ⟨x, hx⟩ : ∃ x : Nat, x = vat 8 s k := ⟨_, rfl⟩
      rw [← hx] at hnx hx9 ⊢
      have HN : Hid (vat 8 s (k + 1) = x * 8 + (c - 48)) := hnx
      clear hnx hcc hx
      by_cases hle : x * 8 + (c - 48) ≤ 9223372036854775807
      · go_wp2
        go_round
        case rel => exact ⟨k + 1, by omega, by go_num, int_eq_of (by rw [HN.out]; omega), by rw [HN.out]; exact hle⟩
        case measure => simp [intOf]; omega
      · go_wp2
        go_ret2
        exact ⟨rfl, rfl⟩
    · obtain rfl : k = n := by omega
      exact absurd HV.out (by omega)
theorem read_8 (s : ByteArray) (w : World) (hm : s.size ≤ maxLen) :
    Calls Tryz.prog 101 #[.string s, .int .i64 8] w fun e w' => e = .returned (.tuple #[.int .i64 (rd 8 s.data.toList).1, .int .i64 (rd 8 s.data.toList).2]) ∧ w' = w := by
  unfold rd
  cases hf : blank (s.data.toList.drop (cnt 8 s.data.toList))
  · rw [if_neg (by decide)]; exact read_8_form s w hm hf
  · rw [if_pos rfl]
    by_cases hv : val 8 0 (s.data.toList.take (cnt 8 s.data.toList)) ≤ 9223372036854775807
    · rw [if_pos hv]; exact read_8_ok s w hm hf hv
    · rw [if_neg hv]; exact read_8_wide s w hm hf (Nat.lt_of_not_le hv)
theorem oct_any (s : ByteArray) (w : World) (hm : s.size ≤ maxLen) :
    Calls Tryz.prog 78 #[.string s] w fun e w' => e = .returned (.tuple #[.int .i64 (rd 8 s.data.toList).1, .int .i64 (rd 8 s.data.toList).2]) ∧ w' = w := by
  go_enter Tryz.func78, Tryz.ntmps78
  go_wp2_with (go_at_call 101; refine (read_8 _ _ hm).mono ?_; rintro e w1 ⟨rfl, hw1⟩; subst w1)
  go_ret2
  exact ⟨rfl, rfl⟩
end Go.Proofs.YtnfplepaejjmfaaGreatDoor.Rd
