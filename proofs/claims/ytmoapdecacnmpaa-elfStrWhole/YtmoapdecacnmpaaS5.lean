
-- ElfStrWhole: the walk.
import Derived.Test.YtmoapdecacnmpaaS4
namespace Go.Proofs.Ytmoapdecacnmpaa
open Go.ChangeShapes Go.WideShapes Go.ChangeAt Go.RowKit
set_option linter.unusedVariables false
theorem whole_out (s : ByteArray) (off : Int) (w : World) (h : off < 0 ∨ (s.size : Int) ≤ off)
   (hC : ∀ w, Calls Try.prog 9 #[.string s, .int .i64 off] w fun r w' => r = .returned (.tuple #[.string .empty, .int .i64 56]) ∧ Below w.heap.size w w') :
    Calls Try.prog 4 #[.string s, .int .i64 off] w fun r w' => r = .returned (.bool true) ∧ Below w.heap.size w w' := by
  have HC := Hid.mk' hC
  clear hC
  by_cases h1 : off < 0
  · have h2 : ¬ 0 ≤ off := by omega
    clear h
    go_enter Try.func4, Try.ntmps4
    go_wp2_with (first | (go_at_call 9; refine (HC.out _).mono ?_; rintro e w1 ⟨rfl, hb1⟩) | go_in)
    go_loopw [8, 9] (fun f i wx => f = .bool false ∧ i = .int .i64 off ∧ wx = w1) (fun _ _ _ => 0)
    case atStart => exact ⟨rfl, rfl, rfl⟩
    case round =>
      obtain ⟨rfl, rfl, rfl⟩ := hrel
      go_wp2_with go_in
      go_ret
      exact ⟨by simp, hb1⟩
  · have h2 : 0 ≤ off := by omega
    have h3 : ¬ off < (s.size : Int) := by omega
    clear h
    go_enter Try.func4, Try.ntmps4
    go_wp2_with (first | (go_at_call 9; refine (HC.out _).mono ?_; rintro e w1 ⟨rfl, hb1⟩) | go_in)
    go_loopw [8, 9] (fun f i wx => f = .bool false ∧ i = .int .i64 off ∧ wx = w1) (fun _ _ _ => 0)
    case atStart => exact ⟨rfl, rfl, rfl⟩
    case round =>
      obtain ⟨rfl, rfl, rfl⟩ := hrel
      go_wp2_with go_in
      go_ret
      exact ⟨by simp, hb1⟩
theorem whole_none (s : ByteArray) (off : Nat) (w : World) (h : off < s.size) (hn : NoStr s off) (hm : s.size ≤ maxLen)
   (hC : ∀ w, Calls Try.prog 9 #[.string s, .int .i64 off] w fun r w' => r = .returned (.tuple #[.string .empty, .int .i64 56]) ∧ Below w.heap.size w w') :
    Calls Try.prog 4 #[.string s, .int .i64 off] w fun r w' => r = .returned (.bool true) ∧ Below w.heap.size w w' := by
  unfold maxLen at hm
  have HC := Hid.mk' hC
  have HN := Hid.mk' hn
  clear hC hn
  have h2 : (0 : Int) ≤ (off : Int) := by omega
  have h3 : (off : Int) < (s.size : Int) := by omega
  go_enter Try.func4, Try.ntmps4
  go_wp2_with (first | (go_at_call 9; refine (HC.out _).mono ?_; rintro e w1 ⟨rfl, hb1⟩) | go_in)
  go_loopw [8, 9] (fun f i wx => ∃ k : Nat, off ≤ k ∧ k ≤ s.size ∧ f = .bool false ∧ i = .int .i64 k ∧ wx = w1) (fun _ i _ => s.size - (intOf i).toNat)
  case atStart => exact ⟨off, Nat.le_refl _, Nat.le_of_lt h, rfl, rfl, rfl⟩
  case round =>
    obtain ⟨k, hk, hk2, rfl, rfl, rfl⟩ := hrel
    by_cases hlt : k < s.size
    · have hidx := idxS s k hlt
      have hne : ((byt s k : Int) == 0) = false := beq_eq_false_iff_ne.2 (by have := HN.out k hk hlt; omega)
      go_wp2
      go_roundw
      case rel => exact ⟨k + 1, by omega, by omega, rfl, by go_num, trivial⟩
      case measure => simp [intOf]; omega
    · obtain rfl : k = s.size := by omega
      go_wp2_with go_in
      go_ret
      exact ⟨by simp, hb1⟩
theorem whole_ok (s v : ByteArray) (off n : Nat) (w : World) (h : StrAt s off (off + n)) (hm : s.size ≤ maxLen) (hv : v.size = n) (hvb : ∀ i, i < n → byt v i ≠ 0) (hve : v = s.extract off (off + n))
   (hC : ∀ w, Calls Try.prog 9 #[.string s, .int .i64 off] w fun r w' => r = .returned (.tuple #[.string v, .int .i64 0]) ∧ Below w.heap.size w w') :
    Calls Try.prog 4 #[.string s, .int .i64 off] w fun r w' => r = .returned (.bool true) ∧ Below w.heap.size w w' := by
  obtain ⟨g1, g2, g3, g4⟩ := h
  unfold maxLen at hm
  have HC := Hid.mk' hC
  have HN := Hid.mk' g4
  have HV := Hid.mk' hvb
  have HZ := Hid.mk' g3
  have hsl : ∀ w : World, (Instr.slice 9 (.string s) (some (.int .i64 (off : Int))) (some (.int .i64 ((off : Int) + (n : Int)))) none).run Try.prog w = .ok (.string v) w := fun w => by
    rw [run_slice_string w 9 s .i64 .i64 (off : Int) ((off : Int) + (n : Int)) Try.underlying9 (by omega) (by omega) (by omega), hve]
    rfl
  have hix : ∀ w : World, (Instr.index 9 (.string s) (.int .i64 ((off : Int) + (n : Int)))).run Try.prog w = .ok (.int .u8 0) w := fun w => by
    have h := idxS s (off + n) g2 w
    rw [g3] at h
    exact h
  have h2 : (0 : Int) ≤ (off : Int) := by omega
  have h3 : (off : Int) < (s.size : Int) := by omega
  have h4 : ¬ (s.size : Int) ≤ (off : Int) + (n : Int) := by omega
  have HL := Hid.mk' (show off + n < s.size from g2)
  clear hC g4 hvb g3 hve g2 g1
  go_enter Try.func4, Try.ntmps4
  go_wp2_with (first | (go_at_call 9; refine (HC.out _).mono ?_; rintro e w1 ⟨rfl, hb1⟩) | go_in)
  go_loopw [8, 9] (fun f i wx => ∃ k : Nat, off ≤ k ∧ k ≤ s.size ∧ f = .bool (decide (off + n < k)) ∧ i = .int .i64 k ∧ wx = w1) (fun _ i _ => s.size - (intOf i).toNat)
  case atStart => exact ⟨off, Nat.le_refl _, by have := HL.out; omega, by rw [decide_eq_false (by omega)], rfl, rfl⟩
  case round =>
    obtain ⟨k, hk, hk2, rfl, rfl, rfl⟩ := hrel
    by_cases hlt : k < s.size
    · by_cases hz : byt s k = 0
      · have hidx : ∀ w : World, (Instr.index 9 (.string s) (.int .i64 (k : Int))).run Try.prog w = .ok (.int .u8 0) w := fun w => by
          have h := idxS s k hlt w
          rw [hz] at h
          exact h
        have hge : Hid (off + n ≤ k) := by
          show off + n ≤ k
          by_cases hh : k < off + n
          · exact absurd hz (HN.out k hk hh)
          · omega
        clear hz
        go_wp2
        go_roundw
        case rel => exact ⟨k + 1, by omega, by omega, by rw [decide_eq_true (by have := hge.out; omega)], by go_num, trivial⟩
        case measure => simp [intOf]; omega
      · have hidx := idxS s k hlt
        have hne : ((byt s k : Int) == 0) = false := beq_eq_false_iff_ne.2 (by omega)
        have hd : Hid (decide (off + n < k) = decide (off + n < k + 1)) := by
          show decide (off + n < k) = decide (off + n < k + 1)
          have hne2 : off + n ≠ k := fun e => hz (by rw [← e]; exact HZ.out)
          by_cases hh : off + n < k
          · rw [decide_eq_true hh, decide_eq_true (by omega)]
          · rw [decide_eq_false hh, decide_eq_false (by omega)]
        clear hz
        generalize decide (off + n < k) = d at hd
        go_wp2
        go_roundw
        case rel => exact ⟨k + 1, by omega, by omega, by rw [← hd.out], by go_num, trivial⟩
        case measure => simp [intOf]; omega
    · obtain rfl : k = s.size := by omega
      rw [decide_eq_true HL.out]
      go_wp2_with go_in
      go_loopw [10] (fun i wx => ∃ k : Nat, k ≤ n ∧ i = .int .i64 k ∧ wx = wr) (fun i _ => n - (intOf i).toNat)
      case atStart => exact ⟨0, Nat.zero_le _, rfl, rfl⟩
      case round =>
        obtain ⟨k, hk, rfl, rfl⟩ := hrel
        by_cases hlt : k < n
        · have hidx := idxS v k (by omega)
          have hne : ((byt v k : Int) == 0) = false := beq_eq_false_iff_ne.2 (by have := HV.out k hlt; omega)
          have hk3 : (k : Int) < (n : Int) := by omega
          go_wp2
          go_roundw
          case rel => exact ⟨k + 1, by omega, by go_num, trivial⟩
          case measure => simp [intOf]; omega
        · obtain rfl : k = n := by omega
          go_wp2
          go_ret
          exact ⟨by simp, hb1⟩
end Go.Proofs.Ytmoapdecacnmpaa
