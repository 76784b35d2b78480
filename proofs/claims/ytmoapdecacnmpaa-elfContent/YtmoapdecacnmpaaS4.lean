
-- The document's Content and Str: contracts.
import Derived.Test.YtmoapdecacnmpaaS0
import Derived.Test.YtmoapdecacnmpaaS3
import Derived.LoopTactic
import Derived.Laws.BitsAllLaws
namespace Go.Proofs.Ytmoapdecacnmpaa
open Go.ChangeShapes Go.WideShapes Go.ChangeAt Go.RowKit
set_option linter.unusedVariables false
theorem rContent_room (s : ByteArray) (a b c d e f g h : Int) (w : World) (hb : (b == 8) = true) :
    Calls Try.prog 7 #[.string s, .agg #[.int .i64 a, .int .i64 b, .int .u64 c, .int .i64 d, .int .i64 e, .int .u64 f, .int .u64 g, .int .u64 h]] w fun r w' => r = .returned (.tuple #[.string .empty, .int .i64 0]) ∧ Below w.heap.size w w' := by
  go_enter Try.func7, Try.ntmps7
  go_wp2
  go_ret2
  exact ⟨rfl, Below.alloc (Below.refl _ _) (Nat.le_refl _) _⟩
theorem within_ok (L p n : Nat) (w : World) (hp : p ≤ L) (hn : n ≤ L - p) (hm : L ≤ maxLen) :
    Calls Try.prog 14 #[.int .i64 L, .int .u64 p, .int .u64 n] w fun r w' => r = .returned (.bool true) ∧ w' = w := by
  unfold maxLen at hm
  have h1 : (p : Int) ≤ L := by omega
  have h2 : (n : Int) ≤ L - p := by omega
  go_enter Try.func14, Try.ntmps14
  go_wp2
  go_ret
  exact ⟨by simp, rfl⟩
theorem within_no (L p n : Nat) (w : World) (hp : p < 18446744073709551616) (hn : n < 18446744073709551616) (h : ¬ (p ≤ L ∧ n ≤ L - p)) (hm : L ≤ maxLen) :
    Calls Try.prog 14 #[.int .i64 L, .int .u64 p, .int .u64 n] w fun r w' => r = .returned (.bool false) ∧ w' = w := by
  unfold maxLen at hm
  by_cases h1 : p ≤ L
  · have h2 : L - p < n := by omega
    have h3 : ¬ (n : Int) ≤ L - p := by omega
    go_enter Try.func14, Try.ntmps14
    go_wp2
    go_ret
    exact ⟨rfl, rfl⟩
  · have h2 : L < p := by omega
    go_enter Try.func14, Try.ntmps14
    go_wp2
    go_ret
    exact ⟨rfl, rfl⟩
theorem rContent_no (s : ByteArray) (a b c d e h : Int) (f g : Nat) (w : World) (hb : (b == 8) = false) (hf : f < 18446744073709551616) (hg : g < 18446744073709551616) (hn : ¬ (f ≤ s.size ∧ g ≤ s.size - f)) (hm : s.size ≤ maxLen) :
    Calls Try.prog 7 #[.string s, .agg #[.int .i64 a, .int .i64 b, .int .u64 c, .int .i64 d, .int .i64 e, .int .u64 f, .int .u64 g, .int .u64 h]] w fun r w' => r = .returned (.tuple #[.string .empty, .int .i64 54]) ∧ Below w.heap.size w w' := by
  have HW := Hid.mk' (fun w => within_no s.size f g w hf hg hn hm)
  clear hf hg hn hm
  go_enter Try.func7, Try.ntmps7
  go_wp2_with (first | (go_at_call 14; refine (HW.out _).mono ?_; rintro r w1 ⟨rfl, hw⟩; subst w1))
  go_ret2
  exact ⟨rfl, Below.alloc (Below.refl _ _) (Nat.le_refl _) _⟩
theorem rContent_ok (s : ByteArray) (a b c d e h : Int) (f g : Nat) (w : World) (hb : (b == 8) = false) (hp : f ≤ s.size) (hn : g ≤ s.size - f) (hm : s.size ≤ maxLen) :
    Calls Try.prog 7 #[.string s, .agg #[.int .i64 a, .int .i64 b, .int .u64 c, .int .i64 d, .int .i64 e, .int .u64 f, .int .u64 g, .int .u64 h]] w fun r w' => r = .returned (.tuple #[.string (s.extract f (f + g)), .int .i64 0]) ∧ Below w.heap.size w w' := by
  have HW := Hid.mk' (fun w => within_ok s.size f g w hp hn hm)
  unfold maxLen at hm
  have hsl : ∀ w : World, (Instr.slice 9 (.string s) (some (.int .i64 (f : Int))) (some (.int .i64 ((f : Int) + (g : Int)))) none).run Try.prog w = .ok (.string (s.extract f (f + g))) w := fun w => by
    rw [run_slice_string w 9 s .i64 .i64 (f : Int) ((f : Int) + (g : Int)) Try.underlying9 (by omega) (by omega) (by omega)]
    rfl
  go_enter Try.func7, Try.ntmps7
  go_wp2_with (first | (go_at_call 14; refine (HW.out _).mono ?_; rintro r w1 ⟨rfl, hw⟩; subst w1))
  go_ret2
  exact ⟨rfl, Below.alloc (Below.refl _ _) (Nat.le_refl _) _⟩
theorem idxS (s : ByteArray) (k : Nat) (h : k < s.size) (w : World) : (Instr.index 9 (.string s) (.int .i64 (k : Int))).run Try.prog w = .ok (.int .u8 (byt s k)) w := by
  rw [run_index_string w 9 s .i64 k Try.underlying9, dif_pos (by omega)]
  have e : s[k].toNat = byt s k := byt_at s k h
  simp [← e]
theorem rStr_neg (s : ByteArray) (off : Int) (w : World) (h : off < 0) :
    Calls Try.prog 10 #[.string s, .int .i64 off] w fun r w' => r = .returned (.tuple #[.string .empty, .int .i64 56]) ∧ w' = w := by
  go_enter Try.func10, Try.ntmps10
  go_wp2
  go_ret2
  exact ⟨rfl, rfl⟩
theorem rStr_none (s : ByteArray) (off : Nat) (w : World) (hn : NoStr s off) (ho : (off : Int) ≤ 9223372036854775807) (hm : s.size ≤ maxLen) :
    Calls Try.prog 10 #[.string s, .int .i64 off] w fun r w' => r = .returned (.tuple #[.string .empty, .int .i64 56]) ∧ w' = w := by
  unfold maxLen at hm
  have h0 : ¬ (off : Int) < 0 := by omega
  have HN := Hid.mk' hn
  clear hn
  go_enter Try.func10, Try.ntmps10
  go_wp2
  go_loopw [6] (fun i wx => ∃ k : Nat, off ≤ k ∧ (k : Int) ≤ 9223372036854775807 ∧ i = .int .i64 k ∧ wx = w) (fun i _ => s.size - (intOf i).toNat)
  case atStart => exact ⟨off, Nat.le_refl _, ho, rfl, rfl⟩
  case round =>
    obtain ⟨k, hk, hk2, rfl, rfl⟩ := hrel
    by_cases hlt : k < s.size
    · have hidx := idxS s k hlt
      have hne : ((byt s k : Int) == 0) = false := beq_eq_false_iff_ne.2 (by have := HN.out k hk hlt; omega)
      go_wp2
      go_roundw
      case rel => exact ⟨k + 1, by omega, by omega, by go_num, trivial⟩
      case measure => simp [intOf]; omega
    · have hge : ¬ (k : Int) < (s.size : Int) := by omega
      go_wp2
      go_ret2
      exact ⟨rfl, rfl⟩
theorem rStr_ok (s : ByteArray) (off j : Nat) (w : World) (h : StrAt s off j) (hm : s.size ≤ maxLen) :
    Calls Try.prog 10 #[.string s, .int .i64 off] w fun r w' => r = .returned (.tuple #[.string (s.extract off j), .int .i64 0]) ∧ w' = w := by
  obtain ⟨g1, g2, g3, g4⟩ := h
  unfold maxLen at hm
  have h0 : ¬ (off : Int) < 0 := by omega
  have HN := Hid.mk' g4
  have hsl : ∀ w : World, (Instr.slice 9 (.string s) (some (.int .i64 (off : Int))) (some (.int .i64 (j : Int))) none).run Try.prog w = .ok (.string (s.extract off j)) w := fun w => by
    rw [run_slice_string w 9 s .i64 .i64 (off : Int) (j : Int) Try.underlying9 (by omega) (by omega) (by omega)]
    rfl
  have HZ := Hid.mk' g3
  clear g4 g3
  go_enter Try.func10, Try.ntmps10
  go_wp2
  go_loopw [6] (fun i wx => ∃ k : Nat, off ≤ k ∧ k ≤ j ∧ i = .int .i64 k ∧ wx = w) (fun i _ => s.size - (intOf i).toNat)
  case atStart => exact ⟨off, Nat.le_refl _, g1, rfl, rfl⟩
  case round =>
    obtain ⟨k, hk, hk2, rfl, rfl⟩ := hrel
    have hidx := idxS s k (by omega)
    by_cases hlt : k < j
    · have hne : ((byt s k : Int) == 0) = false := beq_eq_false_iff_ne.2 (by have := HN.out k hk hlt; omega)
      go_wp2
      go_roundw
      case rel => exact ⟨k + 1, by omega, by omega, by go_num, trivial⟩
      case measure => simp [intOf]; omega
    · obtain rfl : k = j := by omega
      have hidx0 : ∀ w : World, (Instr.index 9 (.string s) (.int .i64 (k : Int))).run Try.prog w = .ok (.int .u8 0) w := fun w => by have h := hidx w; rw [HZ.out] at h; exact h
      clear hidx
      go_wp2
      go_ret2
      exact ⟨rfl, rfl⟩
end Go.Proofs.Ytmoapdecacnmpaa
