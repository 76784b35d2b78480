-- Strings made of lists, and shelflaw1.some: contracts.
import Derived.Test.YtfjmjgnifbgneabRead
namespace Go.Proofs.Ytfjmjgnifbgneab.Rd
open Go.ChangeShapes Go.WideShapes Go.ChangeAt Go.RowKit
set_option linter.unusedVariables false

def strOf (l : List UInt8) : ByteArray := ⟨l.toArray⟩
theorem strOf_size (l : List UInt8) : (strOf l).size = l.length := by simp [strOf, ByteArray.size]
theorem strOf_data (l : List UInt8) : (strOf l).data.toList = l := by simp [strOf]
theorem strOf_append (a b : List UInt8) : strOf a ++ strOf b = strOf (a ++ b) := by
  apply ByteArray.ext; simp [strOf]
theorem strOf_of (s : ByteArray) : strOf s.data.toList = s := by
  apply ByteArray.ext; simp [strOf]
theorem str_eq_of {a b : ByteArray} (h : a = b) : Value.string a = .string b := by rw [h]
theorem ext_one (s : ByteArray) (k : Nat) (h : k < s.size) : s.extract k (k + 1) = strOf [s[k]] := by
  have hl : s.data.toList.length = s.size := by simp
  rw [Lib.extract_eq]
  have e : (s.data.toList.drop k).take (k + 1 - k) = [s[k]] := by
    rw [List.drop_eq_getElem_cons (by omega), show k + 1 - k = 1 from by omega]; rfl
  rw [e]; rfl
theorem slice1 (s : ByteArray) (k : Nat) (h : k < s.size) : ∀ w, (Instr.slice 9 (.string s) (some (.int .i64 (k : Int))) (some (.int .i64 ((k : Int) + 1))) none).run Try.prog w = .ok (.string (strOf [s[k]])) w := by
  intro w
  rw [run_slice_string w 9 s .i64 .i64 k (k + 1) Try.underlying9 (by omega) (by omega) (by omega)]
  have e : ((k : Int) + 1).toNat = k + 1 := by omega
  rw [Int.toNat_natCast, e, ext_one s k h]
theorem conv1 (w : World) (n : Int) (h0 : 0 ≤ n) (h1 : n < 256) : (convert 23 9 (.slice (some ⟨w.heap.size, 0, none⟩) 1 1)).run Try.prog (w.alloc (.cells #[.int .u8 n] 5)) = .ok (.string (strOf [UInt8.ofNat n.toNat])) (w.alloc (.cells #[.int .u8 n] 5)) := by
  refine run_convert_bytes_back (w.alloc (.cells #[.int .u8 n] 5)) 23 9 5 ⟨w.heap.size, 0, none⟩ 1 [UInt8.ofNat n.toNat] Try.underlying23 Try.underlying5 Try.underlying9 (fun j hj => ?_)
  obtain rfl : j = 0 := by simp at hj; omega
  have ea : (⟨w.heap.size, 0, none⟩ : Addr).add 0 = ⟨w.heap.size, 0, none⟩ := by simp [Addr.add]
  rw [ea, World.cell?_alloc_at _ 5 w.heap.size 0 rfl]
  simp
  have : (n.toNat % 256 : Nat) = n.toNat := by omega
  omega

-- the digits of a text, in its order
def digsOf (B : Nat) (l : List UInt8) : List UInt8 := l.filter (dig B)
theorem digsOf_next_yes (B : Nat) (s : ByteArray) (k : Nat) (h : k < s.size) (hd : dig B s[k] = true) : digsOf B (s.data.toList.take (k + 1)) = digsOf B (s.data.toList.take k) ++ [s[k]] := by
  have hl : s.data.toList.length = s.size := by simp
  have hd' : dig B (s.data.toList[k]'(by omega)) = true := hd
  unfold digsOf
  rw [List.take_succ_eq_append_getElem (by omega), List.filter_append, List.filter_cons, if_pos hd', List.filter_nil]; rfl
theorem digsOf_next_no (B : Nat) (s : ByteArray) (k : Nat) (h : k < s.size) (hd : dig B s[k] = false) : digsOf B (s.data.toList.take (k + 1)) = digsOf B (s.data.toList.take k) := by
  have hl : s.data.toList.length = s.size := by simp
  have hd' : dig B (s.data.toList[k]'(by omega)) = false := hd
  unfold digsOf
  rw [List.take_succ_eq_append_getElem (by omega), List.filter_append, List.filter_cons, if_neg (by rw [hd']; decide), List.filter_nil, List.append_nil]
theorem digsOf_le (B : Nat) (l : List UInt8) : (digsOf B l).length ≤ l.length := List.length_filter_le _ _
theorem digsOf_take_full (B n k : Nat) (l : List UInt8) (h : (digsOf B (l.take k)).length = n) : (digsOf B l).take n = digsOf B (l.take k) := by
  have e : digsOf B l = digsOf B (l.take k) ++ digsOf B (l.drop k) := by
    unfold digsOf; rw [← List.filter_append, List.take_append_drop]
  rw [e, ← h, List.take_left]
def someOf (B n : Nat) (s : ByteArray) : List UInt8 := (digsOf B s.data.toList).take n
def accAt (B : Nat) (s : ByteArray) (k : Nat) : List UInt8 := digsOf B (s.data.toList.take k)
theorem accAt_le (B : Nat) (s : ByteArray) (k : Nat) : (accAt B s k).length ≤ k :=
  Nat.le_trans (digsOf_le _ _) (List.length_take_le _ _)
theorem acc_yes (B : Nat) (s : ByteArray) (k : Nat) (h : k < s.size) (hd : dig B s[k] = true) : strOf (accAt B s k) ++ strOf [s[k]] = strOf (accAt B s (k + 1)) := by
  rw [strOf_append]; unfold accAt; rw [digsOf_next_yes B s k h hd]
theorem acc_yes_len (B : Nat) (s : ByteArray) (k : Nat) (h : k < s.size) (hd : dig B s[k] = true) : (accAt B s (k + 1)).length = (accAt B s k).length + 1 := by
  unfold accAt; rw [digsOf_next_yes B s k h hd]; simp
theorem acc_no (B : Nat) (s : ByteArray) (k : Nat) (h : k < s.size) (hd : dig B s[k] = false) : accAt B s (k + 1) = accAt B s k := by
  unfold accAt; rw [digsOf_next_no B s k h hd]
theorem some_full (B n : Nat) (s : ByteArray) (k : Nat) (h : (accAt B s k).length = n) : accAt B s k = someOf B n s := (digsOf_take_full B n k _ h).symm
theorem some_end (B n : Nat) (s : ByteArray) (h : (accAt B s s.size).length ≤ n) : accAt B s s.size = someOf B n s := by
  have hl : s.data.toList.length = s.size := by simp
  have e : accAt B s s.size = digsOf B s.data.toList := by unfold accAt; rw [← hl, List.take_length]
  rw [e] at h ⊢
  unfold someOf; rw [List.take_of_length_le h]

set_option maxHeartbeats 400000 in
theorem some_10 (s : ByteArray) (n : Nat) (w : World) (hm : s.size < 9223372036854775807) (hn : n ≤ 9223372036854775807) :
    Calls Try.prog 6 #[.string s, .int .i64 10, .int .i64 n] w fun e w' => e = .returned (.string (strOf (someOf 10 n s))) ∧ w' = w := by
  go_enter Try.func6, Try.ntmps6
  go_wp2
  go_loop [7, 8] (fun t i => ∃ k : Nat, k ≤ s.size ∧ i = .int .i64 k ∧ t = .string (strOf (accAt 10 s k)) ∧ (accAt 10 s k).length ≤ n) (fun _ i => s.size - (intOf i).toNat)
  case atStart => exact ⟨0, Nat.zero_le _, rfl, rfl, Nat.zero_le _⟩
  case round =>
    obtain ⟨k, hk, rfl, rfl, hle⟩ := hrel
    have hsz := strOf_size (accAt 10 s k)
    have hak := accAt_le 10 s k
    by_cases hlt : k < s.size
    · have b0 : decide ((k : Int) < (s.size : Int)) = true := by simp; omega
      by_cases hful : (accAt 10 s k).length = n
      · have b1 : decide ((accAt 10 s k).length < n) = false := by simp; omega
        have b1' : ¬ (accAt 10 s k).length < n := by omega
        have HF : Hid ((accAt 10 s k).length = n) := hful
        clear hful
        go_wp2
        go_ret
        exact ⟨congrArg Ending.returned (str_eq_of (by rw [some_full 10 n s k HF.out])), rfl⟩
      · have b1 : decide ((accAt 10 s k).length < n) = true := by simp; omega
        have b1' : (accAt 10 s k).length < n := by omega
        have hidx := idx s k hlt
        have hc9 := u8_lt' s[k]
        obtain ⟨c, hcc⟩ : ∃ c : Nat, c = s[k].toNat := ⟨_, rfl⟩
        rw [← hcc] at hidx hc9
        have HC : Hid (c = s[k].toNat) := hcc
        clear hcc
        by_cases h1 : 48 ≤ c
        · have c1 : decide ((48 : Int) ≤ (c : Int)) = true := by simp; omega
          by_cases h2 : c < 48 + 10
          · have c2 : decide ((c : Int) < 58) = true := by simp; omega
            have HD : Hid (dig 10 s[k] = true) := (dig_iff _ _).2 (by have := HC.out; omega)
            have hsl := slice1 s k hlt
            have hs1 : (strOf [s[k]]).size = 1 := by rw [strOf_size]; rfl
            go_wp2
            go_round
            case rel => exact ⟨k + 1, by omega, by go_num, str_eq_of (acc_yes 10 s k hlt HD.out), by rw [acc_yes_len 10 s k hlt HD.out]; omega⟩
            case measure => simp [intOf]; omega
          · have c2 : decide ((c : Int) < 58) = false := by simp; omega
            have HD : Hid (dig 10 s[k] = false) := dig_no _ _ (by have := HC.out; omega)
            go_wp2
            go_round
            case rel => exact ⟨k + 1, by omega, by go_num, str_eq_of (by rw [acc_no 10 s k hlt HD.out]), by rw [acc_no 10 s k hlt HD.out]; exact hle⟩
            case measure => simp [intOf]; omega
        · have c1 : decide ((48 : Int) ≤ (c : Int)) = false := by simp; omega
          have HD : Hid (dig 10 s[k] = false) := dig_no _ _ (by have := HC.out; omega)
          go_wp2
          go_round
          case rel => exact ⟨k + 1, by omega, by go_num, str_eq_of (by rw [acc_no 10 s k hlt HD.out]), by rw [acc_no 10 s k hlt HD.out]; exact hle⟩
          case measure => simp [intOf]; omega
    · obtain rfl : k = s.size := by omega
      have b0 : decide ((s.size : Int) < (s.size : Int)) = false := by simp
      go_wp2
      go_ret
      exact ⟨congrArg Ending.returned (str_eq_of (by rw [some_end 10 n s hle])), rfl⟩

set_option maxHeartbeats 400000 in
theorem some_8 (s : ByteArray) (n : Nat) (w : World) (hm : s.size < 9223372036854775807) (hn : n ≤ 9223372036854775807) :
    Calls Try.prog 6 #[.string s, .int .i64 8, .int .i64 n] w fun e w' => e = .returned (.string (strOf (someOf 8 n s))) ∧ w' = w := by
  go_enter Try.func6, Try.ntmps6
  go_wp2
  go_loop [7, 8] (fun t i => ∃ k : Nat, k ≤ s.size ∧ i = .int .i64 k ∧ t = .string (strOf (accAt 8 s k)) ∧ (accAt 8 s k).length ≤ n) (fun _ i => s.size - (intOf i).toNat)
  case atStart => exact ⟨0, Nat.zero_le _, rfl, rfl, Nat.zero_le _⟩
  case round =>
    obtain ⟨k, hk, rfl, rfl, hle⟩ := hrel
    have hsz := strOf_size (accAt 8 s k)
    have hak := accAt_le 8 s k
    by_cases hlt : k < s.size
    · have b0 : decide ((k : Int) < (s.size : Int)) = true := by simp; omega
      by_cases hful : (accAt 8 s k).length = n
      · have b1 : decide ((accAt 8 s k).length < n) = false := by simp; omega
        have b1' : ¬ (accAt 8 s k).length < n := by omega
        have HF : Hid ((accAt 8 s k).length = n) := hful
        clear hful
        go_wp2
        go_ret
        exact ⟨congrArg Ending.returned (str_eq_of (by rw [some_full 8 n s k HF.out])), rfl⟩
      · have b1 : decide ((accAt 8 s k).length < n) = true := by simp; omega
        have b1' : (accAt 8 s k).length < n := by omega
        have hidx := idx s k hlt
        have hc9 := u8_lt' s[k]
        obtain ⟨c, hcc⟩ : ∃ c : Nat, c = s[k].toNat := ⟨_, rfl⟩
        rw [← hcc] at hidx hc9
        have HC : Hid (c = s[k].toNat) := hcc
        clear hcc
        by_cases h1 : 48 ≤ c
        · have c1 : decide ((48 : Int) ≤ (c : Int)) = true := by simp; omega
          by_cases h2 : c < 48 + 8
          · have c2 : decide ((c : Int) < 56) = true := by simp; omega
            have HD : Hid (dig 8 s[k] = true) := (dig_iff _ _).2 (by have := HC.out; omega)
            have hsl := slice1 s k hlt
            have hs1 : (strOf [s[k]]).size = 1 := by rw [strOf_size]; rfl
            go_wp2
            go_round
            case rel => exact ⟨k + 1, by omega, by go_num, str_eq_of (acc_yes 8 s k hlt HD.out), by rw [acc_yes_len 8 s k hlt HD.out]; omega⟩
            case measure => simp [intOf]; omega
          · have c2 : decide ((c : Int) < 56) = false := by simp; omega
            have HD : Hid (dig 8 s[k] = false) := dig_no _ _ (by have := HC.out; omega)
            go_wp2
            go_round
            case rel => exact ⟨k + 1, by omega, by go_num, str_eq_of (by rw [acc_no 8 s k hlt HD.out]), by rw [acc_no 8 s k hlt HD.out]; exact hle⟩
            case measure => simp [intOf]; omega
        · have c1 : decide ((48 : Int) ≤ (c : Int)) = false := by simp; omega
          have HD : Hid (dig 8 s[k] = false) := dig_no _ _ (by have := HC.out; omega)
          go_wp2
          go_round
          case rel => exact ⟨k + 1, by omega, by go_num, str_eq_of (by rw [acc_no 8 s k hlt HD.out]), by rw [acc_no 8 s k hlt HD.out]; exact hle⟩
          case measure => simp [intOf]; omega
    · obtain rfl : k = s.size := by omega
      have b0 : decide ((s.size : Int) < (s.size : Int)) = false := by simp
      go_wp2
      go_ret
      exact ⟨congrArg Ending.returned (str_eq_of (by rw [some_end 8 n s hle])), rfl⟩
end Go.Proofs.Ytfjmjgnifbgneab.Rd
