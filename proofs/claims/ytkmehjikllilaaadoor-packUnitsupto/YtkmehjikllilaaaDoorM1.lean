import Derived.Test.YtkmehjikllilaaaDoorS0
import Derived.Test.YtkmehjikllilaaaDoorS3
import Derived.LoopTactic
import Derived.Laws.BitsAllLaws
import Derived.Test.YtkmehjikllilaaaDoorY0
import Derived.Test.YtkmehjikllilaaaDoorJ0
import Derived.Test.YtkmehjikllilaaaDoorK32
import Derived.Test.YtkmehjikllilaaaDoorK64
import Derived.Test.YtkmehjikllilaaaDoorO32
import Derived.Shelf.Spec.SlicesGrow
import Derived.Test.YtkmehjikllilaaaDoorT2
import Derived.OwnWalk
import Derived.Test.YtkmehjikllilaaaDoorT32
import Derived.Test.YtkmehjikllilaaaDoorR4
import Derived.Test.YtkmehjikllilaaaDoorA5

-- The document's Content and Str: contracts.
namespace Go.Proofs.YtkmehjikllilaaaDoor
open Go.ChangeShapes Go.WideShapes Go.ChangeAt Go.RowKit
set_option linter.unusedVariables false
set_option maxRecDepth 100000
theorem rContent_room (s : ByteArray) (a b c d e f g h : Int) (w : World) (hb : (b == 8) = true) :
    Calls Tryd.prog 32 #[.string s, .agg #[.int .i64 a, .int .i64 b, .int .u64 c, .int .i64 d, .int .i64 e, .int .u64 f, .int .u64 g, .int .u64 h]] w fun r w' => r = .returned (.tuple #[.string .empty, .int .i64 0]) ∧ Below w.heap.size w w' := by
  go_enter Tryd.func32, Tryd.ntmps32
  go_wp2
  go_ret2
  exact ⟨rfl, Below.alloc (Below.refl _ _) (Nat.le_refl _) _⟩
theorem within_ok (L p n : Nat) (w : World) (hp : p ≤ L) (hn : n ≤ L - p) (hm : L ≤ maxLen) :
    Calls Tryd.prog 26 #[.int .i64 L, .int .u64 p, .int .u64 n] w fun r w' => r = .returned (.bool true) ∧ w' = w := by
  unfold maxLen at hm
  have h1 : (p : Int) ≤ L := by omega
  have h2 : (n : Int) ≤ L - p := by omega
  go_enter Tryd.func26, Tryd.ntmps26
  go_wp2
  go_ret
  exact ⟨by simp, rfl⟩
theorem within_no (L p n : Nat) (w : World) (hp : p < 18446744073709551616) (hn : n < 18446744073709551616) (h : ¬ (p ≤ L ∧ n ≤ L - p)) (hm : L ≤ maxLen) :
    Calls Tryd.prog 26 #[.int .i64 L, .int .u64 p, .int .u64 n] w fun r w' => r = .returned (.bool false) ∧ w' = w := by
  unfold maxLen at hm
  by_cases h1 : p ≤ L
  · have h2 : L - p < n := by omega
    have h3 : ¬ (n : Int) ≤ L - p := by omega
    go_enter Tryd.func26, Tryd.ntmps26
    go_wp2
    go_ret
    exact ⟨rfl, rfl⟩
  · have h2 : L < p := by omega
    go_enter Tryd.func26, Tryd.ntmps26
    go_wp2
    go_ret
    exact ⟨rfl, rfl⟩
theorem rContent_no (s : ByteArray) (a b c d e h : Int) (f g : Nat) (w : World) (hb : (b == 8) = false) (hf : f < 18446744073709551616) (hg : g < 18446744073709551616) (hn : ¬ (f ≤ s.size ∧ g ≤ s.size - f)) (hm : s.size ≤ maxLen) :
    Calls Tryd.prog 32 #[.string s, .agg #[.int .i64 a, .int .i64 b, .int .u64 c, .int .i64 d, .int .i64 e, .int .u64 f, .int .u64 g, .int .u64 h]] w fun r w' => r = .returned (.tuple #[.string .empty, .int .i64 54]) ∧ Below w.heap.size w w' := by
  have HW := Hid.mk' (fun w => within_no s.size f g w hf hg hn hm)
  clear hf hg hn hm
  go_enter Tryd.func32, Tryd.ntmps32
  go_wp2_with (first | (go_at_call 26; refine (HW.out _).mono ?_; rintro r w1 ⟨rfl, hw⟩; subst w1))
  go_ret2
  exact ⟨rfl, Below.alloc (Below.refl _ _) (Nat.le_refl _) _⟩
theorem rContent_ok (s : ByteArray) (a b c d e h : Int) (f g : Nat) (w : World) (hb : (b == 8) = false) (hp : f ≤ s.size) (hn : g ≤ s.size - f) (hm : s.size ≤ maxLen) :
    Calls Tryd.prog 32 #[.string s, .agg #[.int .i64 a, .int .i64 b, .int .u64 c, .int .i64 d, .int .i64 e, .int .u64 f, .int .u64 g, .int .u64 h]] w fun r w' => r = .returned (.tuple #[.string (s.extract f (f + g)), .int .i64 0]) ∧ Below w.heap.size w w' := by
  have HW := Hid.mk' (fun w => within_ok s.size f g w hp hn hm)
  unfold maxLen at hm
  have hsl : ∀ w : World, (Instr.slice 9 (.string s) (some (.int .i64 (f : Int))) (some (.int .i64 ((f : Int) + (g : Int)))) none).run Tryd.prog w = .ok (.string (s.extract f (f + g))) w := fun w => by
    rw [run_slice_string w 9 s .i64 .i64 (f : Int) ((f : Int) + (g : Int)) Tryd.underlying9 (by omega) (by omega) (by omega)]
    rfl
  go_enter Tryd.func32, Tryd.ntmps32
  go_wp2_with (first | (go_at_call 26; refine (HW.out _).mono ?_; rintro r w1 ⟨rfl, hw⟩; subst w1))
  go_ret2
  exact ⟨rfl, Below.alloc (Below.refl _ _) (Nat.le_refl _) _⟩
theorem idxS (s : ByteArray) (k : Nat) (h : k < s.size) (w : World) : (Instr.index 9 (.string s) (.int .i64 (k : Int))).run Tryd.prog w = .ok (.int .u8 (byt s k)) w := by
  rw [run_index_string w 9 s .i64 k Tryd.underlying9, dif_pos (by omega)]
  have e : s[k].toNat = byt s k := byt_at s k h
  simp [← e]
theorem rStr_neg (s : ByteArray) (off : Int) (w : World) (h : off < 0) :
    Calls Tryd.prog 36 #[.string s, .int .i64 off] w fun r w' => r = .returned (.tuple #[.string .empty, .int .i64 56]) ∧ w' = w := by
  go_enter Tryd.func36, Tryd.ntmps36
  go_wp2
  go_ret2
  exact ⟨rfl, rfl⟩
theorem rStr_none (s : ByteArray) (off : Nat) (w : World) (hn : NoStr s off) (ho : (off : Int) ≤ 9223372036854775807) (hm : s.size ≤ maxLen) :
    Calls Tryd.prog 36 #[.string s, .int .i64 off] w fun r w' => r = .returned (.tuple #[.string .empty, .int .i64 56]) ∧ w' = w := by
  unfold maxLen at hm
  have h0 : ¬ (off : Int) < 0 := by omega
  have HN := Hid.mk' hn
  clear hn
  go_enter Tryd.func36, Tryd.ntmps36
  go_wp2
  go_loopw [6] (fun i wx => ∃ k : Nat, off ≤ k ∧ (k : Int) ≤ 9223372036854775807 ∧ i = .int .i64 k ∧ wx = w) (fun i _ => s.size - (intOf i).toNat)
  case atStart => exact ⟨off, Nat.le_refl _, ho, rfl, rfl⟩
  case round =>
    obtain ⟨k, hk, hk2, rfl, rfl⟩ := hrel
    by_cases hlt : k < s.size
    · have hidx := idxS s k hlt
      have hne : ((byt s k : Int) == 0) = false := beq_eq_false_iff_ne.2 (by have := HN.out k hk hlt; omega)
      go_wp2
      go_roundw
      case rel => exact ⟨k + 1, by omega, by omega, by go_num, trivial⟩
      case measure => simp [intOf]; omega
    · have hge : ¬ (k : Int) < (s.size : Int) := by omega
      go_wp2
      go_ret2
      exact ⟨rfl, rfl⟩
theorem rStr_ok (s : ByteArray) (off j : Nat) (w : World) (h : StrAt s off j) (hm : s.size ≤ maxLen) :
    Calls Tryd.prog 36 #[.string s, .int .i64 off] w fun r w' => r = .returned (.tuple #[.string (s.extract off j), .int .i64 0]) ∧ w' = w := by
  obtain ⟨g1, g2, g3, g4⟩ := h
  unfold maxLen at hm
  have h0 : ¬ (off : Int) < 0 := by omega
  have HN := Hid.mk' g4
  have hsl : ∀ w : World, (Instr.slice 9 (.string s) (some (.int .i64 (off : Int))) (some (.int .i64 (j : Int))) none).run Tryd.prog w = .ok (.string (s.extract off j)) w := fun w => by
    rw [run_slice_string w 9 s .i64 .i64 (off : Int) (j : Int) Tryd.underlying9 (by omega) (by omega) (by omega)]
    rfl
  have HZ := Hid.mk' g3
  clear g4 g3
  go_enter Tryd.func36, Tryd.ntmps36
  go_wp2
  go_loopw [6] (fun i wx => ∃ k : Nat, off ≤ k ∧ k ≤ j ∧ i = .int .i64 k ∧ wx = w) (fun i _ => s.size - (intOf i).toNat)
  case atStart => exact ⟨off, Nat.le_refl _, g1, rfl, rfl⟩
  case round =>
    obtain ⟨k, hk, hk2, rfl, rfl⟩ := hrel
    have hidx := idxS s k (by omega)
    by_cases hlt : k < j
    · have hne : ((byt s k : Int) == 0) = false := beq_eq_false_iff_ne.2 (by have := HN.out k hk hlt; omega)
      go_wp2
      go_roundw
      case rel => exact ⟨k + 1, by omega, by omega, by go_num, trivial⟩
      case measure => simp [intOf]; omega
    · obtain rfl : k = j := by omega
      have hidx0 : ∀ w : World, (Instr.index 9 (.string s) (.int .i64 (k : Int))).run Tryd.prog w = .ok (.int .u8 0) w := fun w => by have h := hidx w; rw [HZ.out] at h; exact h
      clear hidx
      go_wp2
      go_ret2
      exact ⟨rfl, rfl⟩
end Go.Proofs.YtkmehjikllilaaaDoor

-- elf.Content of a section, by the plain words: contracts; the document's beside it.
namespace Go.Proofs.YtkmehjikllilaaaDoor
open Go.ChangeShapes Go.WideShapes Go.ChangeAt Go.RowKit
set_option linter.unusedVariables false
set_option maxRecDepth 100000
theorem pcont_ok (b t : ByteArray) (x : Sec) (hm : b.size ≤ maxLen) (h : cont b x = some t) (w : World) : Calls Tryd.prog 43 #[.string b, .agg x.v] w fun r w' => r = .returned (.tuple #[.string t, .int .i64 0]) ∧ Below w.heap.size w w' := by
  unfold cont at h
  split at h
  · rename_i h8
    obtain rfl := Option.some.inj h
    exact Content_ok b _ _ _ _ _ _ _ _ _ w fun w => content_room b _ _ _ _ _ _ _ _ w (by rw [h8]; rfl)
  · rename_i h8
    split at h
    · rename_i hin
      obtain rfl := Option.some.inj h
      exact Content_ok b _ _ _ _ _ _ _ _ _ w fun w => content_ok b _ _ _ _ _ _ x.off x.sz w (beq_eq_false_iff_ne.2 (by omega)) hin.1 hin.2 hm
    · cases h
theorem pcont_no (b : ByteArray) (x : Sec) (hm : b.size ≤ maxLen) (hx : x.off < 18446744073709551616 ∧ x.sz < 18446744073709551616) (h : cont b x = none) (w : World) : Calls Tryd.prog 43 #[.string b, .agg x.v] w fun r w' => r = .returned (.tuple #[.string .empty, .int .i64 54]) ∧ Below w.heap.size w w' := by
  unfold cont at h
  split at h
  · cases h
  · rename_i h8
    split at h
    · cases h
    · rename_i hin
      exact Content_no b _ _ _ _ _ _ _ _ 54 w fun w => content_no b _ _ _ _ _ _ x.off x.sz w (beq_eq_false_iff_ne.2 (by omega)) hx.1 hx.2 hin hm
theorem dcont_ok (b t : ByteArray) (x : Sec) (hm : b.size ≤ maxLen) (h : cont b x = some t) (w : World) : Calls Tryd.prog 32 #[.string b, .agg x.v] w fun r w' => r = .returned (.tuple #[.string t, .int .i64 0]) ∧ Below w.heap.size w w' := by
  unfold cont at h
  split at h
  · rename_i h8
    obtain rfl := Option.some.inj h
    exact rContent_room b _ _ _ _ _ _ _ _ w (by rw [h8]; rfl)
  · rename_i h8
    split at h
    · rename_i hin
      obtain rfl := Option.some.inj h
      exact rContent_ok b _ _ _ _ _ _ x.off x.sz w (beq_eq_false_iff_ne.2 (by omega)) hin.1 hin.2 hm
    · cases h
theorem dcont_no (b : ByteArray) (x : Sec) (hm : b.size ≤ maxLen) (hx : x.off < 18446744073709551616 ∧ x.sz < 18446744073709551616) (h : cont b x = none) (w : World) : Calls Tryd.prog 32 #[.string b, .agg x.v] w fun r w' => r = .returned (.tuple #[.string .empty, .int .i64 54]) ∧ Below w.heap.size w w' := by
  unfold cont at h
  split at h
  · cases h
  · rename_i h8
    split at h
    · cases h
    · rename_i hin
      exact rContent_no b _ _ _ _ _ _ x.off x.sz w (beq_eq_false_iff_ne.2 (by omega)) hx.1 hx.2 hin hm
end Go.Proofs.YtkmehjikllilaaaDoor

-- elf: an entry of the table, identify, by class.
namespace Go.Proofs.YtkmehjikllilaaaDoor
open Go.ChangeShapes Go.WideShapes Go.ChangeAt Go.RowKit
set_option linter.unusedVariables false
set_option maxRecDepth 100000
/-- what a call of Sections answers -/
def PSecs (b : ByteArray) (n : Nat) (s : Nat → Sec) (e : Int) : Prop := ∀ w : World, Magic w → Calls Tryd.prog 21 #[.string b] w fun r w' => ∃ v, r = .returned (.tuple #[v, .int .i64 e]) ∧ SecsIn w.heap.size w' v n s ∧ Below w.heap.size w w'
def DSecs (b : ByteArray) (n : Nat) (s : Nat → Sec) (e : Int) : Prop := ∀ w : World, Calls Tryd.prog 17 #[.string b] w fun r w' => ∃ v, r = .returned (.tuple #[v, .int .i64 e]) ∧ SecsIn w.heap.size w' v n s ∧ Below w.heap.size w w'
/-- places and lengths of sections are numbers of eight bytes -/
def SecB (s : Nat → Sec) : Prop := ∀ i, (s i).off < 18446744073709551616 ∧ (s i).sz < 18446744073709551616
theorem sec_b (b : ByteArray) (c : Nat) (o : Int) (p : Nat) : (secOf b c o p).off < 18446744073709551616 ∧ (secOf b c o p).sz < 18446744073709551616 := by
  unfold secOf
  split
  · exact ⟨Nat.lt_trans (num_lt4 b _ _) (by decide), Nat.lt_trans (num_lt4 b _ _) (by decide)⟩
  · exact ⟨num_lt8 b _ _, num_lt8 b _ _⟩
theorem secsIn_nil (B : Nat) (w : World) (s : Nat → Sec) (ao : Option Addr) (c : Nat) : SecsIn B w (.slice ao 0 c) 0 s := ⟨ao, c, rfl, fun h => absurd h (Nat.lt_irrefl _)⟩
theorem at_32 (b : ByteArray) (so n i k : Nat) (nm o : Int) (w : World) (hb : b.size ≤ maxLen) (hin : so ≤ b.size ∧ n * 40 ≤ b.size - so) (ho : o = 0 ∨ o = 1) (hi : i < n) (hF : w.heap[k]? = some (.cells (fileCells 32 o b) 102 (0, 0))) :
    Calls Tryd.prog 53 #[.agg #[.pointer (some ⟨k, 0, none⟩), .string (b.extract so (so + n * 40)), .int .i64 n, .int .i64 nm], .int .i64 i] w fun r w' => r = .returned (.agg (secOf b 32 o (so + i * 40)).v) ∧ Below w.heap.size w w' := by
  have hsz : (b.extract so (so + n * 40)).size = n * 40 := by rw [ByteArray.size_extract]; omega
  have hle : i * 40 + 40 ≤ n * 40 := by omega
  have hq : so + i * 40 + 40 ≤ so + n * 40 := by omega
  rw [sec32]
  refine at_ok (b.extract so (so + n * 40)) k n i 40 nm _ _ _ _ _ _ _ _ _ w hF rfl (by omega) hi (by unfold maxLen at *; omega) (by rw [hsz]; exact Nat.le_refl _) (by rw [hsz]; omega) (fun w' hF' => ?_)
  have hs2 : ((b.extract so (so + n * 40)).extract (i * 40) (i * 40 + 40)).size = 40 := by rw [ByteArray.size_extract, hsz]; omega
  refine (section_32 b _ k o w' hF' hs2 ho).mono fun r w'' ⟨h1, h2⟩ => ⟨?_, h2⟩
  have hv : r = .returned (.agg (Sec.v ⟨num b (so + i * 40) 4 o, num b (so + i * 40 + 4) 4 o, num b (so + i * 40 + 8) 4 o, num b (so + i * 40 + 24) 4 o, num b (so + i * 40 + 28) 4 o, num b (so + i * 40 + 16) 4 o, num b (so + i * 40 + 20) 4 o, num b (so + i * 40 + 36) 4 o⟩)) := by
    have e0 : numI ((b.extract so (so + n * 40)).extract (i * 40) (i * 40 + 40)) 0 4 o = ((num b (so + i * 40 + 0) 4 o : Nat) : Int) := congrArg (Nat.cast : Nat → Int) (num_two b so (so + n * 40) (i * 40) 40 0 4 o (by omega) hq)
    have e1 : numI ((b.extract so (so + n * 40)).extract (i * 40) (i * 40 + 40)) 4 4 o = ((num b (so + i * 40 + 4) 4 o : Nat) : Int) := congrArg (Nat.cast : Nat → Int) (num_two b so (so + n * 40) (i * 40) 40 4 4 o (by omega) hq)
    have e2 : numI ((b.extract so (so + n * 40)).extract (i * 40) (i * 40 + 40)) 8 4 o = ((num b (so + i * 40 + 8) 4 o : Nat) : Int) := congrArg (Nat.cast : Nat → Int) (num_two b so (so + n * 40) (i * 40) 40 8 4 o (by omega) hq)
    have e3 : numI ((b.extract so (so + n * 40)).extract (i * 40) (i * 40 + 40)) 24 4 o = ((num b (so + i * 40 + 24) 4 o : Nat) : Int) := congrArg (Nat.cast : Nat → Int) (num_two b so (so + n * 40) (i * 40) 40 24 4 o (by omega) hq)
    have e4 : numI ((b.extract so (so + n * 40)).extract (i * 40) (i * 40 + 40)) 28 4 o = ((num b (so + i * 40 + 28) 4 o : Nat) : Int) := congrArg (Nat.cast : Nat → Int) (num_two b so (so + n * 40) (i * 40) 40 28 4 o (by omega) hq)
    have e5 : numI ((b.extract so (so + n * 40)).extract (i * 40) (i * 40 + 40)) 16 4 o = ((num b (so + i * 40 + 16) 4 o : Nat) : Int) := congrArg (Nat.cast : Nat → Int) (num_two b so (so + n * 40) (i * 40) 40 16 4 o (by omega) hq)
    have e6 : numI ((b.extract so (so + n * 40)).extract (i * 40) (i * 40 + 40)) 20 4 o = ((num b (so + i * 40 + 20) 4 o : Nat) : Int) := congrArg (Nat.cast : Nat → Int) (num_two b so (so + n * 40) (i * 40) 40 20 4 o (by omega) hq)
    have e7 : numI ((b.extract so (so + n * 40)).extract (i * 40) (i * 40 + 40)) 36 4 o = ((num b (so + i * 40 + 36) 4 o : Nat) : Int) := congrArg (Nat.cast : Nat → Int) (num_two b so (so + n * 40) (i * 40) 40 36 4 o (by omega) hq)
    rw [h1, e0, e1, e2, e3, e4, e5, e6, e7]
    rfl
  exact hv
theorem id_32 (b : ByteArray) (hm : b.size ≤ maxLen) (hE : identE b = 0) (hc : cls b = 32) : ∀ w : World, Magic w → Calls Tryd.prog 39 #[.string b] w fun r w' => ∃ k, r = .returned (.pointer (some ⟨k, 0, none⟩)) ∧ Below w.heap.size w w' ∧ w'.heap[k]? = some (.cells (fileCells 32 (ord b) b) 102 (0, 0)) :=
  fun w hM => (identify_c b w hM hm).mono fun r w' ⟨h1, h2⟩ => by
    rcases h2 with ⟨_, k, h3, _, h4⟩ | ⟨h3, _⟩
    · refine ⟨k, h3, h1, ?_⟩
      unfold FileAt at h4
      rw [hc] at h4
      exact h4
    · exact absurd hE h3
theorem rent_32 (b : ByteArray) (p : Nat) (o e2 e3 e4 e5 e6 e7 : Int) (w : World) (hs : p + 40 ≤ b.size) (hm : b.size ≤ maxLen) (ho : o = 0 ∨ o = 1) :
    Calls Tryd.prog 27 #[.string b, .int .i64 p, .agg #[.int .i64 32, .int .i64 o, .int .i64 e2, .int .i64 e3, .int .u64 e4, .int .i64 e5, .int .i64 e6, .int .i64 e7]] w fun r w' => r = .returned (.agg (secOf b 32 o p).v) ∧ Below w.heap.size w w' := by
  rw [sec32]
  exact rEntry_32 b p o e2 e3 e4 e5 e6 e7 w hs hm ho
theorem at_64 (b : ByteArray) (so n i k : Nat) (nm o : Int) (w : World) (hb : b.size ≤ maxLen) (hin : so ≤ b.size ∧ n * 64 ≤ b.size - so) (ho : o = 0 ∨ o = 1) (hi : i < n) (hF : w.heap[k]? = some (.cells (fileCells 64 o b) 102 (0, 0))) :
    Calls Tryd.prog 53 #[.agg #[.pointer (some ⟨k, 0, none⟩), .string (b.extract so (so + n * 64)), .int .i64 n, .int .i64 nm], .int .i64 i] w fun r w' => r = .returned (.agg (secOf b 64 o (so + i * 64)).v) ∧ Below w.heap.size w w' := by
  have hsz : (b.extract so (so + n * 64)).size = n * 64 := by rw [ByteArray.size_extract]; omega
  have hle : i * 64 + 64 ≤ n * 64 := by omega
  have hq : so + i * 64 + 64 ≤ so + n * 64 := by omega
  rw [sec64]
  refine at_ok (b.extract so (so + n * 64)) k n i 64 nm _ _ _ _ _ _ _ _ _ w hF rfl (by omega) hi (by unfold maxLen at *; omega) (by rw [hsz]; exact Nat.le_refl _) (by rw [hsz]; omega) (fun w' hF' => ?_)
  have hs2 : ((b.extract so (so + n * 64)).extract (i * 64) (i * 64 + 64)).size = 64 := by rw [ByteArray.size_extract, hsz]; omega
  refine (section_64 b _ k o w' hF' hs2 ho).mono fun r w'' ⟨h1, h2⟩ => ⟨?_, h2⟩
  have hv : r = .returned (.agg (Sec.v ⟨num b (so + i * 64) 4 o, num b (so + i * 64 + 4) 4 o, num b (so + i * 64 + 8) 8 o, num b (so + i * 64 + 40) 4 o, num b (so + i * 64 + 44) 4 o, num b (so + i * 64 + 24) 8 o, num b (so + i * 64 + 32) 8 o, num b (so + i * 64 + 56) 8 o⟩)) := by
    have e0 : numI ((b.extract so (so + n * 64)).extract (i * 64) (i * 64 + 64)) 0 4 o = ((num b (so + i * 64 + 0) 4 o : Nat) : Int) := congrArg (Nat.cast : Nat → Int) (num_two b so (so + n * 64) (i * 64) 64 0 4 o (by omega) hq)
    have e1 : numI ((b.extract so (so + n * 64)).extract (i * 64) (i * 64 + 64)) 4 4 o = ((num b (so + i * 64 + 4) 4 o : Nat) : Int) := congrArg (Nat.cast : Nat → Int) (num_two b so (so + n * 64) (i * 64) 64 4 4 o (by omega) hq)
    have e2 : numI ((b.extract so (so + n * 64)).extract (i * 64) (i * 64 + 64)) 8 8 o = ((num b (so + i * 64 + 8) 8 o : Nat) : Int) := congrArg (Nat.cast : Nat → Int) (num_two b so (so + n * 64) (i * 64) 64 8 8 o (by omega) hq)
    have e3 : numI ((b.extract so (so + n * 64)).extract (i * 64) (i * 64 + 64)) 40 4 o = ((num b (so + i * 64 + 40) 4 o : Nat) : Int) := congrArg (Nat.cast : Nat → Int) (num_two b so (so + n * 64) (i * 64) 64 40 4 o (by omega) hq)
    have e4 : numI ((b.extract so (so + n * 64)).extract (i * 64) (i * 64 + 64)) 44 4 o = ((num b (so + i * 64 + 44) 4 o : Nat) : Int) := congrArg (Nat.cast : Nat → Int) (num_two b so (so + n * 64) (i * 64) 64 44 4 o (by omega) hq)
    have e5 : numI ((b.extract so (so + n * 64)).extract (i * 64) (i * 64 + 64)) 24 8 o = ((num b (so + i * 64 + 24) 8 o : Nat) : Int) := congrArg (Nat.cast : Nat → Int) (num_two b so (so + n * 64) (i * 64) 64 24 8 o (by omega) hq)
    have e6 : numI ((b.extract so (so + n * 64)).extract (i * 64) (i * 64 + 64)) 32 8 o = ((num b (so + i * 64 + 32) 8 o : Nat) : Int) := congrArg (Nat.cast : Nat → Int) (num_two b so (so + n * 64) (i * 64) 64 32 8 o (by omega) hq)
    have e7 : numI ((b.extract so (so + n * 64)).extract (i * 64) (i * 64 + 64)) 56 8 o = ((num b (so + i * 64 + 56) 8 o : Nat) : Int) := congrArg (Nat.cast : Nat → Int) (num_two b so (so + n * 64) (i * 64) 64 56 8 o (by omega) hq)
    rw [h1, e0, e1, e2, e3, e4, e5, e6, e7]
    rfl
  exact hv
theorem id_64 (b : ByteArray) (hm : b.size ≤ maxLen) (hE : identE b = 0) (hc : cls b = 64) : ∀ w : World, Magic w → Calls Tryd.prog 39 #[.string b] w fun r w' => ∃ k, r = .returned (.pointer (some ⟨k, 0, none⟩)) ∧ Below w.heap.size w w' ∧ w'.heap[k]? = some (.cells (fileCells 64 (ord b) b) 102 (0, 0)) :=
  fun w hM => (identify_c b w hM hm).mono fun r w' ⟨h1, h2⟩ => by
    rcases h2 with ⟨_, k, h3, _, h4⟩ | ⟨h3, _⟩
    · refine ⟨k, h3, h1, ?_⟩
      unfold FileAt at h4
      rw [hc] at h4
      exact h4
    · exact absurd hE h3
theorem rent_64 (b : ByteArray) (p : Nat) (o e2 e3 e4 e5 e6 e7 : Int) (w : World) (hs : p + 64 ≤ b.size) (hm : b.size ≤ maxLen) (ho : o = 0 ∨ o = 1) :
    Calls Tryd.prog 27 #[.string b, .int .i64 p, .agg #[.int .i64 64, .int .i64 o, .int .i64 e2, .int .i64 e3, .int .u64 e4, .int .i64 e5, .int .i64 e6, .int .i64 e7]] w fun r w' => r = .returned (.agg (secOf b 64 o p).v) ∧ Below w.heap.size w w' := by
  rw [sec64]
  exact rEntry_64 b p o e2 e3 e4 e5 e6 e7 w hs hm ho
end Go.Proofs.YtkmehjikllilaaaDoor

-- syms: opening a symbol table by the plain words, class 32: contract.
namespace Go.Proofs.YtkmehjikllilaaaDoor
open Go.ChangeShapes Go.WideShapes Go.ChangeAt Go.RowKit
set_option linter.unusedVariables false
set_option maxRecDepth 100000
/-- what open answers -/
def Opened32 (b : ByteArray) (k : Nat) (o : Int) (n : Nat) (s : Nat → Sec) (x : Sec) (w : World) (r : Ending) (w' : World) : Prop :=
  Kq k w w' ∧ ((∃ e, e ≠ 0 ∧ openOf b 32 n s x = .error e ∧ r = .returned (.int .i64 e)) ∨ (∃ t names, openOf b 32 n s x = .ok (t, names) ∧ r = .returned (.int .i64 0) ∧ w'.heap[k]? = some (.cells (tabCells col32 o t names) 72 (0, 0))))
theorem opened_32 (b t0 n0 : ByteArray) (k B n : Nat) (o : Int) (v : Value) (s : Nat → Sec) (x : Sec) (w : World) (hF : w.heap[k]? = some (.cells (tabCells col32 o t0 n0) 72 (0, 0))) (hS : SecsIn B w v n s) (hn : n ≤ 26214) (hB : SecB s) (hx : x.off < 18446744073709551616 ∧ x.sz < 18446744073709551616) (hb : b.size ≤ 1048576) :
    Calls Tryd.prog 23 #[.pointer (some ⟨k, 0, none⟩), .string b, v, .agg x.v] w (Opened32 b k o n s x w) := by
  have hm : b.size ≤ maxLen := by unfold maxLen; omega
  obtain ⟨x0, x1, x2, x3, x4, x5, x6, x7⟩ := x
  by_cases h7 : x7 = 16
  case neg =>
    refine (open_55a_32 b t0 n0 k o v x0 x1 x2 x3 x4 x5 x6 x7 w hF h7).mono fun r w' ⟨h1, h2⟩ => ⟨h2, Or.inl ⟨55, by decide, ?_, h1⟩⟩
    unfold openOf
    rw [if_neg]
    intro h
    exact h7 h.1
  subst h7
  by_cases h6 : x6 % 16 = 0
  case neg =>
    refine (open_55b_32 b t0 n0 k o v x0 x1 x2 x3 x4 x5 x6 w hF hx.2 h6).mono fun r w' ⟨h1, h2⟩ => ⟨h2, Or.inl ⟨55, by decide, ?_, h1⟩⟩
    unfold openOf
    rw [if_neg]
    intro h
    exact h6 h.2
  have hop : openOf b 32 n s ⟨x0, x1, x2, x3, x4, x5, x6, 16⟩ = match cont b ⟨x0, x1, x2, x3, x4, x5, x6, 16⟩ with
    | none => .error 54
    | some t => if x3 < n ∧ (s x3).ty = 3 then
        match cont b (s x3) with
        | none => .error 54
        | some names => .ok (t, names)
      else .error 60 := by
    unfold openOf
    exact if_pos ⟨rfl, h6⟩
  cases hc : cont b ⟨x0, x1, x2, x3, x4, x5, x6, 16⟩ with
  | none =>
    refine (open_54a_32 b t0 n0 k o v x0 x1 x2 x3 x4 x5 x6 w hF hx.2 h6 (fun w => pcont_no b _ hm hx hc w)).mono fun r w' ⟨h1, h2⟩ => ⟨h2, Or.inl ⟨54, by decide, ?_, h1⟩⟩
    rw [hop, hc]
  | some t =>
    rw [hc] at hop
    obtain ⟨ao, cp, rfl, hr⟩ := hS
    by_cases hl : x3 < n
    case neg =>
      refine (open_60a_32 b t0 n0 t k o n cp ao x0 x1 x2 x3 x4 x5 x6 w hF hx.2 h6 (by omega) (fun w => pcont_ok b t _ hm hc w)).mono fun r w' ⟨h1, h2⟩ => ⟨h2, Or.inl ⟨60, by decide, ?_, h1⟩⟩
      rw [hop]
      exact if_neg (fun h => hl h.1)
    obtain ⟨g, cur, rfl, _, hg, hcur⟩ := hr (by omega)
    have hgk : g ≠ k := by
      rintro rfl
      rw [hg] at hF
      simp only [Option.some.injEq, Obj.cells.injEq] at hF
      exact absurd hF.2.1 (by decide)
    have hy := hcur x3
    have hby := hB x3
    cases hsx : s x3 with
    | mk y0 y1 y2 y3 y4 y5 y6 y7 =>
      rw [hsx] at hy hby hop
      by_cases h3 : y1 = 3
      case neg =>
        refine (open_60b_32 b t0 n0 t k o n cp g cur y0 y1 y2 y3 y4 y5 y6 y7 x0 x1 x2 x3 x4 x5 x6 w hF hx.2 h6 hl hn hg hgk (fun m hm => hy m hl hm) h3 (fun w => pcont_ok b t _ hm hc w)).mono fun r w' ⟨h1, h2⟩ => ⟨h2, Or.inl ⟨60, by decide, ?_, h1⟩⟩
        rw [hop]
        exact if_neg (fun h => h3 h.2)
      subst h3
      cases hd : cont b ⟨y0, 3, y2, y3, y4, y5, y6, y7⟩ with
      | none =>
        refine (open_54b_32 b t0 n0 t k o n cp g cur y0 y2 y3 y4 y5 y6 y7 x0 x1 x2 x3 x4 x5 x6 w hF hx.2 h6 hl hn hg hgk (fun m hm => hy m hl hm) (fun w => pcont_ok b t _ hm hc w) (fun w => pcont_no b _ hm hby hd w)).mono fun r w' ⟨h1, h2⟩ => ⟨h2, Or.inl ⟨54, by decide, ?_, h1⟩⟩
        rw [hop, hd]
        exact if_pos ⟨hl, rfl⟩
      | some names =>
        refine (open_ok_32 b t0 n0 t names k o n cp g cur y0 y2 y3 y4 y5 y6 y7 x0 x1 x2 x3 x4 x5 x6 w hF hx.2 h6 hl hn hg hgk (fun m hm => hy m hl hm) (fun w => pcont_ok b t _ hm hc w) (fun w => pcont_ok b names _ hm hd w)).mono fun r w' ⟨h1, h2, h3⟩ => ⟨h2, Or.inr ⟨t, names, ?_, h1, h3⟩⟩
        rw [hop, hd]
        exact if_pos ⟨hl, rfl⟩
end Go.Proofs.YtkmehjikllilaaaDoor

-- slices.Grow at lists of symbols: laid by hand, and as a contract over a row of its own.
namespace Go.Proofs.YtkmehjikllilaaaDoor
open Go.ChangeShapes Go.WideShapes Go.ChangeAt Go.RowKit Go.Shelf
set_option linter.unusedVariables false
set_option maxRecDepth 100000
def growRen : Go.Shelf.Ren := ⟨fun | 4 => 44 | n => n, fun | 22 => 45 | 25 => 42 | n => n, fun | n => n⟩
theorem growLaid : Lays8.n4 Tryd.prog growRen := {
  mixed := by kernel_rfl
  f4 := ⟨Tryd.f44.name, by kernel_rfl, Tryd.func44.trans (congrArg some (by kernel_rfl))⟩
  t0 := Tryd.underlying0
  a0 := Tryd.isAgg0
  z0 := Tryd.sizeOf0
  v0 := Tryd.zeroValue0
  t3 := Tryd.underlying3
  a3 := Tryd.isAgg3
  z3 := Tryd.sizeOf3
  v3 := Tryd.zeroValue3
  t4 := Tryd.underlying4
  a4 := Tryd.isAgg4
  z4 := Tryd.sizeOf4
  v4 := Tryd.zeroValue4
  t9 := Tryd.underlying9
  a9 := Tryd.isAgg9
  z9 := Tryd.sizeOf9
  v9 := Tryd.zeroValue9
  t20 := Tryd.underlying20
  a20 := Tryd.isAgg20
  z20 := Tryd.sizeOf20
  v20 := Tryd.zeroValue20
  t22 := Tryd.underlying45
  a22 := Tryd.isAgg45
  z22 := Tryd.sizeOf45
  v22 := Tryd.zeroValue45 }
theorem infoSym : (Tryd.prog.info? 42).map (fun i => (i.zero, i.size, i.bytes)) = some (some (.agg #[.string ⟨#[]⟩, .int .i64 0, .int .i64 0, .int .i64 0, .int .i64 0, .int .u64 0, .int .u64 0]), 7, 64) := by kernel_rfl
theorem zeros_size (z : Array Value) (k : Nat) : (Builtin.zeroCells z k).size = k * z.size := by
  first | (simp [Builtin.zeroCells]; done) | (unfold Builtin.zeroCells; simp [Nat.mul_comm]; done)
theorem grow_c (v : Value) (m n B : Nat) (xs : List Value) (w : World) (h : w.ownsRow B 42 7 v m xs) (hB : B ≤ w.heap.size) (hbig : m + n ≤ 2199023255552) :
    Calls Tryd.prog 44 #[v, .int .i64 n] w fun r w' => ∃ v', r = .returned v' ∧ w'.ownsRow B 42 7 v' m xs ∧ Below B w w' := by
  obtain ⟨i0, hi, hz0, hz1, hz2⟩ := info_parts' infoSym
  have hi' : Tryd.prog.info? (growRen.t 25) = some i0 := hi
  have new (c : Nat) (cs : List Value) (hc : m ≤ c) (hroom : c < m + n) (hcl : cs.length = c * 7) (htk : cs.take (m * 7) = xs) :
      (w.drew.alloc (.cells (cs.toArray ++ Builtin.zeroCells (Value.agg #[.string ⟨#[]⟩, .int .i64 0, .int .i64 0, .int .i64 0, .int .i64 0, .int .u64 0, .int .u64 0]).cells (m + n - c) ++ Builtin.zeroCells (Value.agg #[.string ⟨#[]⟩, .int .i64 0, .int .i64 0, .int .i64 0, .int .i64 0, .int .u64 0, .int .u64 0]).cells (grownCap w (m + n) c 42 - (m + n))) 42)).ownsRow B 42 7 (.slice (some ⟨w.heap.size, 0, none⟩) m (grownCap w (m + n) c 42)) m xs := by
    have hge : m + n ≤ grownCap w (m + n) c 42 := grownCap_ge w _ _ _
    have hle : grownCap w (m + n) c 42 ≤ maxLen := grownCap_le_maxLen w (m + n) c 42 (by unfold maxLen; omega)
    generalize grownCap w (m + n) c 42 = G at hge hle
    refine ⟨h.1, Or.inr ⟨w.heap.size, G, _, rfl, hB, heap_alloc_new w.drew _, by omega, hle, ?_, ?_⟩⟩
    · rw [Array.size_append, Array.size_append, zeros_size, zeros_size, List.size_toArray, hcl]
      show c * 7 + (m + n - c) * 7 + (G - (m + n)) * 7 = G * 7
      omega
    · rw [Array.toList_append, Array.toList_append, List.toList_toArray, List.append_assoc, List.take_append_of_le_length (by rw [hcl]; omega), htk]
  have hbel (o : Obj) : Below B w (w.drew.alloc o) := Below.alloc (Below.refl _ _).drew hB _
  rcases h.2 with ⟨rfl, rfl⟩ | ⟨g, cap, cur, rfl, hbg, hg, hmc, hcm, hcs, htk⟩
  · by_cases h0 : n = 0
    · refine (Any8.slices_Grow_room growLaid none 0 0 n w (by omega) (by omega) (by omega) (by omega)).mono fun r w' ⟨h1, h2⟩ => ?_
      subst h2
      exact ⟨_, h1, h, Below.refl _ _⟩
    · refine (Any8.slices_Grow_grow growLaid i0 _ hi' hz0 (by omega) none 0 0 n [] w (by omega) (by omega) (by rw [hz2]; omega) (by omega) (by rw [hz1]; rfl) (fun _ => rfl) (fun a ha => by cases ha)).mono fun r w' ⟨h1, h2⟩ => ?_
      subst h2
      have hx : xs = [] := List.length_eq_zero_iff.1 (by rw [h.1])
      exact ⟨_, h1, new 0 [] (by omega) (by omega) rfl (by rw [hx]; rfl), hbel _⟩
  · by_cases hr : m + n ≤ cap
    · refine (Any8.slices_Grow_room growLaid _ m cap n w hmc (by unfold maxLen at hcm; omega) (by omega) hr).mono fun r w' ⟨h1, h2⟩ => ?_
      subst h2
      exact ⟨_, h1, h, Below.refl _ _⟩
    · refine (Any8.slices_Grow_grow growLaid i0 _ hi' hz0 (by omega) _ m cap n cur.toList w hmc (by omega) (by rw [hz2]; omega) (by omega) (by rw [hz1, Array.length_toList, hcs]) (fun h => by cases h) (fun a ha j v hj => ?_)).mono fun r w' ⟨h1, h2⟩ => ?_
      · obtain rfl := (Option.some.inj ha).symm
        rw [Addr.add_mid, Nat.zero_add, cell_of_row _ _ _ _ _ _ hg, ← Array.getElem?_toList]
        exact hj
      · subst h2
        exact ⟨_, h1, new cap cur.toList hmc (by omega) (by rw [Array.length_toList, hcs]) htk, hbel _⟩
end Go.Proofs.YtkmehjikllilaaaDoor

-- syms: an entry of a symbol table without a name.
namespace Go.Proofs.YtkmehjikllilaaaDoor
open Go.ChangeShapes Go.WideShapes Go.ChangeAt Go.RowKit
set_option linter.unusedVariables false
set_option maxRecDepth 100000
set_option maxHeartbeats 2000000 in
theorem symbol_no_32 (s t names : ByteArray) (k : Nat) (o : Int) (w : World) (hF : w.heap[k]? = some (.cells (tabCells col32 o t names) 72 (0, 0))) (hs : s.size = 16) (hm : names.size ≤ maxLen) (ho : o = 0 ∨ o = 1) (hN : nameOf names (num s 0 4 o) = none) :
    Calls Tryd.prog 45 #[.pointer (some ⟨k, 0, none⟩), .string s] w fun r w' => r = .returned (.tuple #[.agg #[.string ⟨#[]⟩, .int .i64 0, .int .i64 0, .int .i64 0, .int .i64 0, .int .u64 0, .int .u64 0], .int .i64 56]) ∧ Below w.heap.size w w' := by
  have hk : k < w.heap.size := (Array.getElem?_eq_some_iff.1 hF).1
  have cell (i : Nat) (v : Value) (h : (tabCells col32 o t names)[i]? = some v) (w' : World) (hb : Below w.heap.size w w') : w'.cell? ⟨k, i, none⟩ = some v := by
    rw [cell_of_row _ _ _ _ _ _ ((hb.block k hk).trans hF)]; exact h
  have hb0 : Below w.heap.size w (w.alloc (.cells #[.string ⟨#[]⟩, .int .i64 0, .int .i64 0, .int .i64 0, .int .i64 0, .int .u64 0, .int .u64 0] 42)) := Below.alloc (Below.refl _ _) (Nat.le_refl _) _
  have hR0 : RowY w.heap.size (w.alloc (.cells #[.string ⟨#[]⟩, .int .i64 0, .int .i64 0, .int .i64 0, .int .i64 0, .int .u64 0, .int .u64 0] 42)) := RowY.new w
  have HN : Hid (Calls Tryd.prog 57 #[.pointer (some ⟨k, 0, none⟩), .string s, .agg #[.int .i64 0, .int .i64 4]] (w.alloc (.cells #[.string ⟨#[]⟩, .int .i64 0, .int .i64 0, .int .i64 0, .int .i64 0, .int .u64 0, .int .u64 0] 42)) fun e w' => e = .returned (.int .u64 (numI s 0 4 o)) ∧ Below w.heap.size w w' ∧ RowY w.heap.size w') := by
    refine (snumber_c s k 0 4 o (w.alloc (.cells #[.string ⟨#[]⟩, .int .i64 0, .int .i64 0, .int .i64 0, .int .i64 0, .int .u64 0, .int .u64 0] 42)) ho (by omega) (by rw [hs]; omega) (by rw [hs]; unfold maxLen; omega) (cell 13 _ rfl _ hb0)).mono fun e w' ⟨h1, h2⟩ => ?_
    exact ⟨h1, hb0.trans (h2.mono hb0.size), hR0.kept h2⟩
  have HA : Hid (∀ wx : World, Below w.heap.size w wx → RowY w.heap.size wx → Calls Tryd.prog 56 #[.pointer (some ⟨k, 0, none⟩), .int .i64 (numI s 0 4 o)] wx fun r w' => r = .returned (.tuple #[.string .empty, .int .i64 56]) ∧ Below w.heap.size w w' ∧ RowY w.heap.size w') := by
    intro wx hb hR
    refine (nameAt_no names k (num s 0 4 o) wx (num_lt4 _ _ _) hm (cell 15 _ rfl wx hb) hN).mono fun e w' ⟨h1, h2⟩ => ?_
    exact ⟨h1, hb.trans (h2.mono hb.size), hR.kept h2⟩
  have hwn : IntKind.i64.wrap (numI s 0 4 o) = numI s 0 4 o := wrap_numI s 0 4 o (by decide)
  have hxn : wrap64 (numI s 0 4 o) = numI s 0 4 o := wrap_numI64 s 0 4 o (by decide)
  have c1 : (w.alloc (.cells #[.string ⟨#[]⟩, .int .i64 0, .int .i64 0, .int .i64 0, .int .i64 0, .int .u64 0, .int .u64 0] 42)).cell? ⟨k, 1, none⟩ = some (.int .i64 0) := cell 1 _ rfl _ hb0
  have c2 : (w.alloc (.cells #[.string ⟨#[]⟩, .int .i64 0, .int .i64 0, .int .i64 0, .int .i64 0, .int .u64 0, .int .u64 0] 42)).cell? ⟨k, 2, none⟩ = some (.int .i64 4) := cell 2 _ rfl _ hb0
  clear hF hs hm ho cell hN
  go_enter Tryd.func45, Tryd.ntmps45
  go_wp2_with (first
    | (go_at_call 57; refine (HN.out).mono ?_; rintro e w0 ⟨rfl, hbz, hRz⟩)
    | (go_at_call 56; refine (HA.out _ hbz hRz).mono ?_; rintro e w1 ⟨rfl, hb1, hR1⟩)
    | (refine wpList_store_row rfl _ _ _ rfl w.heap.size #[.string ⟨#[]⟩, .int .i64 0, .int .i64 0, .int .i64 0, .int .i64 0, .int .u64 0, .int .u64 0] rfl rfl _ _ hR1 rfl (by kernel_rfl) (by kernel_rfl) ?_))
  exact bodyPost_ret (results_cell_tmp_row rfl _ _ w.heap.size _ _ _ _ rfl (setRow_heap _ _ _ _ _ _ hR1) Tryd.underlying42 rfl (by kernel_rfl)) rfl ⟨rfl, below_setRow hb1 (Nat.le_refl _) _⟩
set_option maxHeartbeats 2000000 in
theorem symbol_no_64 (s t names : ByteArray) (k : Nat) (o : Int) (w : World) (hF : w.heap[k]? = some (.cells (tabCells col64 o t names) 72 (0, 0))) (hs : s.size = 24) (hm : names.size ≤ maxLen) (ho : o = 0 ∨ o = 1) (hN : nameOf names (num s 0 4 o) = none) :
    Calls Tryd.prog 45 #[.pointer (some ⟨k, 0, none⟩), .string s] w fun r w' => r = .returned (.tuple #[.agg #[.string ⟨#[]⟩, .int .i64 0, .int .i64 0, .int .i64 0, .int .i64 0, .int .u64 0, .int .u64 0], .int .i64 56]) ∧ Below w.heap.size w w' := by
  have hk : k < w.heap.size := (Array.getElem?_eq_some_iff.1 hF).1
  have cell (i : Nat) (v : Value) (h : (tabCells col64 o t names)[i]? = some v) (w' : World) (hb : Below w.heap.size w w') : w'.cell? ⟨k, i, none⟩ = some v := by
    rw [cell_of_row _ _ _ _ _ _ ((hb.block k hk).trans hF)]; exact h
  have hb0 : Below w.heap.size w (w.alloc (.cells #[.string ⟨#[]⟩, .int .i64 0, .int .i64 0, .int .i64 0, .int .i64 0, .int .u64 0, .int .u64 0] 42)) := Below.alloc (Below.refl _ _) (Nat.le_refl _) _
  have hR0 : RowY w.heap.size (w.alloc (.cells #[.string ⟨#[]⟩, .int .i64 0, .int .i64 0, .int .i64 0, .int .i64 0, .int .u64 0, .int .u64 0] 42)) := RowY.new w
  have HN : Hid (Calls Tryd.prog 57 #[.pointer (some ⟨k, 0, none⟩), .string s, .agg #[.int .i64 0, .int .i64 4]] (w.alloc (.cells #[.string ⟨#[]⟩, .int .i64 0, .int .i64 0, .int .i64 0, .int .i64 0, .int .u64 0, .int .u64 0] 42)) fun e w' => e = .returned (.int .u64 (numI s 0 4 o)) ∧ Below w.heap.size w w' ∧ RowY w.heap.size w') := by
    refine (snumber_c s k 0 4 o (w.alloc (.cells #[.string ⟨#[]⟩, .int .i64 0, .int .i64 0, .int .i64 0, .int .i64 0, .int .u64 0, .int .u64 0] 42)) ho (by omega) (by rw [hs]; omega) (by rw [hs]; unfold maxLen; omega) (cell 13 _ rfl _ hb0)).mono fun e w' ⟨h1, h2⟩ => ?_
    exact ⟨h1, hb0.trans (h2.mono hb0.size), hR0.kept h2⟩
  have HA : Hid (∀ wx : World, Below w.heap.size w wx → RowY w.heap.size wx → Calls Tryd.prog 56 #[.pointer (some ⟨k, 0, none⟩), .int .i64 (numI s 0 4 o)] wx fun r w' => r = .returned (.tuple #[.string .empty, .int .i64 56]) ∧ Below w.heap.size w w' ∧ RowY w.heap.size w') := by
    intro wx hb hR
    refine (nameAt_no names k (num s 0 4 o) wx (num_lt4 _ _ _) hm (cell 15 _ rfl wx hb) hN).mono fun e w' ⟨h1, h2⟩ => ?_
    exact ⟨h1, hb.trans (h2.mono hb.size), hR.kept h2⟩
  have hwn : IntKind.i64.wrap (numI s 0 4 o) = numI s 0 4 o := wrap_numI s 0 4 o (by decide)
  have hxn : wrap64 (numI s 0 4 o) = numI s 0 4 o := wrap_numI64 s 0 4 o (by decide)
  have c1 : (w.alloc (.cells #[.string ⟨#[]⟩, .int .i64 0, .int .i64 0, .int .i64 0, .int .i64 0, .int .u64 0, .int .u64 0] 42)).cell? ⟨k, 1, none⟩ = some (.int .i64 0) := cell 1 _ rfl _ hb0
  have c2 : (w.alloc (.cells #[.string ⟨#[]⟩, .int .i64 0, .int .i64 0, .int .i64 0, .int .i64 0, .int .u64 0, .int .u64 0] 42)).cell? ⟨k, 2, none⟩ = some (.int .i64 4) := cell 2 _ rfl _ hb0
  clear hF hs hm ho cell hN
  go_enter Tryd.func45, Tryd.ntmps45
  go_wp2_with (first
    | (go_at_call 57; refine (HN.out).mono ?_; rintro e w0 ⟨rfl, hbz, hRz⟩)
    | (go_at_call 56; refine (HA.out _ hbz hRz).mono ?_; rintro e w1 ⟨rfl, hb1, hR1⟩)
    | (refine wpList_store_row rfl _ _ _ rfl w.heap.size #[.string ⟨#[]⟩, .int .i64 0, .int .i64 0, .int .i64 0, .int .i64 0, .int .u64 0, .int .u64 0] rfl rfl _ _ hR1 rfl (by kernel_rfl) (by kernel_rfl) ?_))
  exact bodyPost_ret (results_cell_tmp_row rfl _ _ w.heap.size _ _ _ _ rfl (setRow_heap _ _ _ _ _ _ hR1) Tryd.underlying42 rfl (by kernel_rfl)) rfl ⟨rfl, below_setRow hb1 (Nat.le_refl _) _⟩
end Go.Proofs.YtkmehjikllilaaaDoor

-- syms: a symbol at its place in the table: contracts.
namespace Go.Proofs.YtkmehjikllilaaaDoor
open Go.ChangeShapes Go.WideShapes Go.ChangeAt Go.RowKit
set_option linter.unusedVariables false
set_option maxRecDepth 100000
theorem sym_32 (t names nm : ByteArray) (p k : Nat) (o : Int) (w : World) (hF : w.heap[k]? = some (.cells (tabCells col32 o t names) 72 (0, 0))) (hp : p + 16 ≤ t.size) (hm : names.size ≤ maxLen) (ho : o = 0 ∨ o = 1) (hN : nameOf names (num t p 4 o) = some nm) :
    Calls Tryd.prog 45 #[.pointer (some ⟨k, 0, none⟩), .string (t.extract p (p + 16))] w fun r w' => r = .returned (.tuple #[.agg (symV (symAt 32 o t p nm)).toArray, .int .i64 0]) ∧ Below w.heap.size w w' := by
  have e (a K : Nat) (h : p + a + K ≤ p + 16) : num (t.extract p (p + 16)) a K o = num t (p + a) K o := num_ext t p (p + 16) a K o h
  have i (a K : Nat) (h : p + a + K ≤ p + 16) : numI (t.extract p (p + 16)) (a : Int) (K : Int) o = ((num t (p + a) K o : Nat) : Int) := congrArg (Nat.cast : Nat → Int) (e a K h)
  refine (symbol_32 _ t names nm k o w hF (by rw [ByteArray.size_extract]; omega) hm ho (by rw [e 0 4 (by omega)]; exact hN)).mono fun r w' ⟨h1, h2⟩ => ⟨?_, h2⟩
  have e1 := e 12 1 (by omega)
  have e2 : numI (t.extract p (p + 16)) 13 1 o = ((num t (p + 13) 1 o : Nat) : Int) := i 13 1 (by omega)
  have e3 : numI (t.extract p (p + 16)) 14 2 o = ((num t (p + 14) 2 o : Nat) : Int) := i 14 2 (by omega)
  have e4 : numI (t.extract p (p + 16)) 4 4 o = ((num t (p + 4) 4 o : Nat) : Int) := i 4 4 (by omega)
  have e5 : numI (t.extract p (p + 16)) 8 4 o = ((num t (p + 8) 4 o : Nat) : Int) := i 8 4 (by omega)
  rw [h1, e1, e2, e3, e4, e5]
  unfold symAt
  rw [if_pos rfl]
  rfl
theorem sym_no_32 (t names : ByteArray) (p k : Nat) (o : Int) (w : World) (hF : w.heap[k]? = some (.cells (tabCells col32 o t names) 72 (0, 0))) (hp : p + 16 ≤ t.size) (hm : names.size ≤ maxLen) (ho : o = 0 ∨ o = 1) (hN : nameOf names (num t p 4 o) = none) :
    Calls Tryd.prog 45 #[.pointer (some ⟨k, 0, none⟩), .string (t.extract p (p + 16))] w fun r w' => r = .returned (.tuple #[.agg #[.string ⟨#[]⟩, .int .i64 0, .int .i64 0, .int .i64 0, .int .i64 0, .int .u64 0, .int .u64 0], .int .i64 56]) ∧ Below w.heap.size w w' := by
  have e (a K : Nat) (h : p + a + K ≤ p + 16) : num (t.extract p (p + 16)) a K o = num t (p + a) K o := num_ext t p (p + 16) a K o h
  exact symbol_no_32 _ t names k o w hF (by rw [ByteArray.size_extract]; omega) hm ho (by rw [e 0 4 (by omega)]; exact hN)
end Go.Proofs.YtkmehjikllilaaaDoor

-- The document's Sections: contracts.
namespace Go.Proofs.YtkmehjikllilaaaDoor
open Go.ChangeShapes Go.WideShapes Go.ChangeAt Go.RowKit
set_option linter.unusedVariables false
set_option maxRecDepth 100000
theorem own_below {w w' : World} {base : Nat} {e : TypeId} {s : Nat} {v : Value} {n : Nat} {xs : List Value} (h : w.ownsRow base e s v n xs) (hb : Below w.heap.size w w') : w'.ownsRow base e s v n xs := by
  refine ⟨h.1, ?_⟩
  rcases h.2 with h | ⟨g, cap, cur, h1, h2, h3, h4⟩
  · exact Or.inl h
  · exact Or.inr ⟨g, cap, cur, h1, h2, (hb.block g (Array.getElem?_eq_some_iff.1 h3).1).trans h3, h4⟩
theorem own_base {w : World} {base base' : Nat} {e : TypeId} {s : Nat} {v : Value} {n : Nat} {xs : List Value} (h : w.ownsRow base e s v n xs) (hb : base' ≤ base) : w.ownsRow base' e s v n xs := by
  refine ⟨h.1, ?_⟩
  rcases h.2 with h | ⟨g, cap, cur, h1, h2, h3⟩
  · exact Or.inl h
  · exact Or.inr ⟨g, cap, cur, h1, Nat.le_trans hb h2, h3⟩
set_option maxHeartbeats 1000000 in
theorem rSecs_ok (b : ByteArray) (cc o h2 h3 h7 : Int) (so L h6 : Nat) (w : World) (sv : Nat → Array Value) (dq : Nat) (hdq : (b.size - so) / L = dq) (hm : b.size ≤ maxLen) (hb20 : b.size ≤ 1048576) (hso : so ≠ 0) (h60 : h6 ≠ 0) (h6b : h6 < 65536) (hL : 0 < L ∧ L ≤ 64) (hin : so ≤ b.size ∧ h6 * L ≤ b.size - so)
    (hX : ∀ i, ∃ x0 x1 x2 x3 x4 x5 x6 x7 : Int, sv i = #[.int .i64 x0, .int .i64 x1, .int .u64 x2, .int .i64 x3, .int .i64 x4, .int .u64 x5, .int .u64 x6, .int .u64 x7])
    (hH : ∀ w : World, Calls Tryd.prog 18 #[.string b] w fun r w' => r = .returned (.tuple #[.agg #[.int .i64 cc, .int .i64 o, .int .i64 h2, .int .i64 h3, .int .u64 (so : Int), .int .i64 (L : Int), .int .i64 (h6 : Int), .int .i64 h7], .int .i64 0]) ∧ Below w.heap.size w w')
    (hP : ∀ w : World, Calls Tryd.prog 25 #[.int .i64 cc, .int .i64 40, .int .i64 64] w fun r w' => r = .returned (.int .i64 L) ∧ w' = w)
    (hE : ∀ (i : Nat) (w : World), i < h6 → Calls Tryd.prog 27 #[.string b, .int .i64 ((so : Int) + (i : Int) * (L : Int)), .agg #[.int .i64 cc, .int .i64 o, .int .i64 h2, .int .i64 h3, .int .u64 (so : Int), .int .i64 (L : Int), .int .i64 (h6 : Int), .int .i64 h7]] w fun r w' => r = .returned (.agg (sv i)) ∧ Below w.heap.size w w')
    (hW : ∀ w : World, Calls Tryd.prog 26 #[.int .i64 b.size, .int .u64 so, .int .u64 0] w fun r w' => r = .returned (.bool true) ∧ w' = w) :
    Calls Tryd.prog 17 #[.string b] w fun r w' => ∃ v, r = .returned (.tuple #[v, .int .i64 0]) ∧ w'.ownsRow w.heap.size 60 8 v h6 (flat sv h6) ∧ Below w.heap.size w w' := by
  have HH := Hid.mk' hH
  have HP := Hid.mk' hP
  have HW := Hid.mk' hW
  have HE := Hid.mk' hE
  have HX := Hid.mk' hX
  obtain ⟨i0, hi, hz0, hz1, hz2⟩ := info_parts' infoSec
  have hs0 : ((so : Int) == 0) = false := beq_eq_false_iff_ne.2 (by omega)
  have hn0 : ((h6 : Int) == 0) = false := beq_eq_false_iff_ne.2 (by omega)
  have hLL : ((L : Int) != (L : Int)) = false := bne_self_eq_false _
  have hLne : ¬ (L : Int) = 0 := by omega
  have hm2 : (b.size : Int) ≤ 9223372036854775807 := by unfold maxLen at hm; omega
  have hq : IntKind.u64.wrap ((b.size : Int) - (so : Int)) = (((b.size - so : Nat)) : Int) := by rw [IntKind.wrap_u64]; omega
  have hd : h6 ≤ dq := by rw [← hdq]; exact (Nat.le_div_iff_mul_le hL.1).2 hin.2
  have hdl : dq ≤ b.size := by rw [← hdq]; exact Nat.le_trans (Nat.div_le_self _ _) (Nat.sub_le _ _)
  have hq2 : IntKind.u64.wrap ((((b.size - so : Nat)) : Int) / (L : Int)) = (dq : Int) := by
    rw [← Int.natCast_ediv, hdq, IntKind.wrap_u64]
    clear hq hin
    omega
  have hnlt : ¬ (dq : Int) < (h6 : Int) := Int.not_lt.2 (Int.ofNat_le.2 hd)
  have hnlt2 : ¬ dq < h6 := Nat.not_lt.2 hd
  clear hdq
  have hwn : IntKind.i64.wrap (h6 : Int) = (h6 : Int) := by rw [IntKind.wrap_i64]; omega
  have hwn2 : wrap64 (h6 : Int) = (h6 : Int) := by have h := hwn; rw [IntKind.wrap_i64] at h; unfold wrap64; exact h
  have hws : IntKind.i64.wrap (so : Int) = (so : Int) := by rw [IntKind.wrap_i64]; omega
  have hws2 : wrap64 (so : Int) = (so : Int) := by have h := hws; rw [IntKind.wrap_i64] at h; unfold wrap64; exact h
  clear hH hP hW hE hX
  have HW4 : Hid (IntKind.i64.wrap (h6 : Int) = (h6 : Int) ∧ wrap64 (h6 : Int) = (h6 : Int) ∧ IntKind.i64.wrap (so : Int) = (so : Int) ∧ wrap64 (so : Int) = (so : Int)) := ⟨hwn, hwn2, hws, hws2⟩
  have HWM : Hid (∀ j : Nat, j < h6 → IntKind.i64.wrap ((j : Int) * (L : Int)) = (j : Int) * (L : Int) ∧ IntKind.i64.wrap ((so : Int) + (j : Int) * (L : Int)) = (so : Int) + (j : Int) * (L : Int)) := by
    intro j hj
    have hjl : ((j * L : Nat) : Int) = (j : Int) * (L : Int) := Int.natCast_mul j L
    have hle : j * L ≤ h6 * L := Nat.mul_le_mul_right _ (Nat.le_of_lt hj)
    have h1 : j * L ≤ 1048576 := Nat.le_trans hle (Nat.le_trans hin.2 (Nat.le_trans (Nat.sub_le _ _) hb20))
    have h2 : so ≤ 1048576 := Nat.le_trans hin.1 hb20
    rw [← hjl]
    generalize j * L = q at h1
    clear hle hjl hin hq hq2 hm2 hws hwn hws2 hwn2
    constructor
    · rw [IntKind.wrap_i64]; omega
    · rw [IntKind.wrap_i64]; omega
  have hwL : IntKind.u64.wrap (L : Int) = (L : Int) := by rw [IntKind.wrap_u64]; omega
  clear hwn hwn2 hws hws2 hd hdl hb20 hm hin hL hso h60
  go_enter Tryd.func17, Tryd.ntmps17
  go_wp2_with (first
    | (go_at_call 18; refine (HH.out _).mono ?_; rintro r w1 ⟨rfl, hb1⟩)
    | (go_at_call 25; refine (HP.out _).mono ?_; rintro r w2 ⟨rfl, hw2⟩; subst w2)
    | (go_at_call 26; refine (HW.out _).mono ?_; rintro r w2 ⟨rfl, hw2⟩; subst w2))
  have hB1 : Below w.heap.size w (w1.alloc (.cells #[.int .i64 cc, .int .i64 o, .int .i64 h2, .int .i64 h3, .int .u64 (so : Int), .int .i64 (L : Int), .int .i64 (h6 : Int), .int .i64 h7] 56)) := Below.alloc hb1 hb1.size _
  have hR1 : (w1.alloc (.cells #[.int .i64 cc, .int .i64 o, .int .i64 h2, .int .i64 h3, .int .u64 (so : Int), .int .i64 (L : Int), .int .i64 (h6 : Int), .int .i64 h7] 56)).heap[w1.heap.size]? = some (.cells #[.int .i64 cc, .int .i64 o, .int .i64 h2, .int .i64 h3, .int .u64 (so : Int), .int .i64 (L : Int), .int .i64 (h6 : Int), .int .i64 h7] 56 (0, 0)) := heap_alloc_new w1 _
  have hs1 := hb1.size
  have hZ1 : (w1.alloc (.cells #[.int .i64 cc, .int .i64 o, .int .i64 h2, .int .i64 h3, .int .u64 (so : Int), .int .i64 (L : Int), .int .i64 (h6 : Int), .int .i64 h7] 56)).heap.size = w1.heap.size + 1 := size_alloc _ _
  generalize (w1.alloc (.cells #[.int .i64 cc, .int .i64 o, .int .i64 h2, .int .i64 h3, .int .u64 (so : Int), .int .i64 (L : Int), .int .i64 (h6 : Int), .int .i64 h7] 56)) = W at hB1 hR1 hZ1 ⊢
  clear hb1 HH HP HW hq hq2 hnlt hnlt2 hs0 hn0 hwL
  go_loopw [9, 10] (fun l i wx => ∃ j : Nat, j ≤ h6 ∧ i = .int .i64 j ∧ wx.ownsRow (w1.heap.size + 1) 60 8 l j (flat sv j) ∧ wx.heap[w1.heap.size]? = some (.cells #[.int .i64 cc, .int .i64 o, .int .i64 h2, .int .i64 h3, .int .u64 (so : Int), .int .i64 (L : Int), .int .i64 (h6 : Int), .int .i64 h7] 56 (0, 0)) ∧ Below w.heap.size w wx ∧ w1.heap.size + 1 ≤ wx.heap.size) (fun _ i _ => h6 - (intOf i).toNat)
  case atStart => exact ⟨0, Nat.zero_le _, rfl, World.ownsRow_nil _ _ _ _, hR1, hB1, by omega⟩
  case round =>
    obtain ⟨j, hj, rfl, hown, hR, hB, hlt⟩ := hrel
    by_cases hjn : j < h6
    · have hc3 : j + 1 ≤ maxLen := by clear hR hown hB; unfold maxLen; omega
      have hc4 : (j + 1) * 64 ≤ 140737488355328 := by clear hR hown hB; omega
      obtain ⟨hwn, hwn2, hws, hws2⟩ := HW4.out
      obtain ⟨hwm, hwa⟩ := HWM.out j hjn
      have hjI : (j : Int) < (h6 : Int) := Int.ofNat_lt.2 hjn
      have hj0 : (0 : Int) ≤ (j : Int) := Int.natCast_nonneg _
      have c4 : wr.cell? ⟨w1.heap.size, 4, none⟩ = some (.int .u64 (so : Int)) := cell_of_row _ _ 4 _ _ _ hR
      obtain ⟨x0, x1, x2, x3, x4, x5, x6, x7, hx⟩ := HX.out j
      have HEj : Hid (∀ w : World, Calls Tryd.prog 27 #[.string b, .int .i64 ((so : Int) + (j : Int) * (L : Int)), .agg #[.int .i64 cc, .int .i64 o, .int .i64 h2, .int .i64 h3, .int .u64 (so : Int), .int .i64 (L : Int), .int .i64 (h6 : Int), .int .i64 h7]] w fun r w' => r = .returned (.agg #[.int .i64 x0, .int .i64 x1, .int .u64 x2, .int .i64 x3, .int .i64 x4, .int .u64 x5, .int .u64 x6, .int .u64 x7]) ∧ Below w.heap.size w w') := fun w => by have h := HE.out j w hjn; rw [hx] at h; exact h
      have HXJ := Hid.mk' hx
      clear hx
      go_wp2_with (first
        | (refine wpList_load_row rfl _ _ rfl w1.heap.size rfl _ _ _ _ hR Tryd.underlying56 rfl (by kernel_rfl) ?_)
        | (go_at_call 27; refine (HEj.out _).mono ?_; rintro r w3 ⟨rfl, hb3⟩; have hOW := ((own_below hown hb3).alloc (.cells #[.int .i64 x0, .int .i64 x1, .int .u64 x2, .int .i64 x3, .int .i64 x4, .int .u64 x5, .int .u64 x6, .int .u64 x7] 60)).alloc (.cells #[.int .i64 x0, .int .i64 x1, .int .u64 x2, .int .i64 x3, .int .i64 x4, .int .u64 x5, .int .u64 x6, .int .u64 x7] 60))
        | (at_builtin; refine wpList_append_own _ rfl _ _ 51 rfl (w1.heap.size + 1) 60 i0 (.agg #[.int .i64 0, .int .i64 0, .int .u64 0, .int .i64 0, .int .i64 0, .int .u64 0, .int .u64 0, .int .u64 0]) 8 64 Tryd.underlying51 hi hz0 hz1 hz2 rfl (by decide) _ _ _ rfl hOW ⟨w3.heap.size + 1, 0, none⟩ 1 1 [.int .i64 x0, .int .i64 x1, .int .u64 x2, .int .i64 x3, .int .i64 x4, .int .u64 x5, .int .u64 x6, .int .u64 x7] rfl rfl ?c1 (by intro u hu; simp at hu; rcases hu with rfl | rfl | rfl | rfl | rfl | rfl | rfl | rfl <;> rfl) ?c3 ?c4 ?c5 ?_))
      case c1 =>
        intro m u hu
        rw [Addr.add_mid, Nat.zero_add, cell_of_row _ _ _ _ _ _ (heap_alloc2_new w3 _ _)]
        simpa using hu
      case c3 => exact hc3
      case c4 => exact hc4
      case c5 => rw [size_alloc, size_alloc]; have := hb3.size; omega
      intro v' w5 hown' hgrow _
      have hs3 := hb3.size
      have hrow : ∀ q, u9.ownBlock = some q → w1.heap.size + 1 ≤ q := fun q hq => (hown.lt q hq).1
      have hbR : Below (w1.heap.size + 1) wr w5 := Below.grown (Below.alloc (Below.alloc (hb3.mono hlt) (by omega) _) (by rw [size_alloc]; omega) _) hgrow (by rw [size_alloc, size_alloc]; omega) hrow
      have hfl : flat sv (j + 1) = flat sv j ++ [.int .i64 x0, .int .i64 x1, .int .u64 x2, .int .i64 x3, .int .i64 x4, .int .u64 x5, .int .u64 x6, .int .u64 x7] := by rw [flat, HXJ.out]
      have HALL : Hid (w5.ownsRow (w1.heap.size + 1) 60 8 v' (j + 1) (flat sv (j + 1)) ∧ w5.heap[w1.heap.size]? = some (.cells #[.int .i64 cc, .int .i64 o, .int .i64 h2, .int .i64 h3, .int .u64 (so : Int), .int .i64 (L : Int), .int .i64 (h6 : Int), .int .i64 h7] 56 (0, 0)) ∧ Below w.heap.size w w5 ∧ w1.heap.size + 1 ≤ w5.heap.size) := ⟨by rw [hfl]; exact hown', (hbR.block _ (by omega)).trans hR, hB.trans (hbR.mono (by omega)), by have := hbR.size; omega⟩
      clear hown' hgrow hbR hfl hrow hown hR hB hOW hb3
      clear hwm hwa hwn hwn2 hws hws2
      go_wp2
      go_roundw
      case rel => exact ⟨j + 1, hjn, by go_num, HALL.out⟩
      case measure => clear HALL HE HX HWM HW4 HXJ HEj; simp [intOf]; omega
    · obtain rfl : j = h6 := Nat.le_antisymm hj (Nat.not_lt.1 hjn)
      obtain ⟨hwn, hwn2, hws, hws2⟩ := HW4.out
      go_wp2
      go_ret2
      exact ⟨_, rfl, own_base hown (by omega), hB⟩
set_option maxHeartbeats 1000000 in
theorem rSecs_ok0 (b : ByteArray) (cc o h2 h3 h7 : Int) (so L n : Nat) (w : World) (sv : Nat → Array Value) (dq : Nat) (hdq : (b.size - so) / L = dq) (hm : b.size ≤ maxLen) (hb20 : b.size ≤ 1048576) (hso : so ≠ 0) (h60 : n ≠ 0) (y0 y1 y2 y3 y4 y5 y7 : Int) (hL : 0 < L ∧ L ≤ 64) (hin : so ≤ b.size ∧ n * L ≤ b.size - so)
    (hX : ∀ i, ∃ x0 x1 x2 x3 x4 x5 x6 x7 : Int, sv i = #[.int .i64 x0, .int .i64 x1, .int .u64 x2, .int .i64 x3, .int .i64 x4, .int .u64 x5, .int .u64 x6, .int .u64 x7])
    (hH : ∀ w : World, Calls Tryd.prog 18 #[.string b] w fun r w' => r = .returned (.tuple #[.agg #[.int .i64 cc, .int .i64 o, .int .i64 h2, .int .i64 h3, .int .u64 (so : Int), .int .i64 (L : Int), .int .i64 0, .int .i64 h7], .int .i64 0]) ∧ Below w.heap.size w w')
    (hP : ∀ w : World, Calls Tryd.prog 25 #[.int .i64 cc, .int .i64 40, .int .i64 64] w fun r w' => r = .returned (.int .i64 L) ∧ w' = w)
    (hE : ∀ (i : Nat) (w : World), i < n → Calls Tryd.prog 27 #[.string b, .int .i64 ((so : Int) + (i : Int) * (L : Int)), .agg #[.int .i64 cc, .int .i64 o, .int .i64 h2, .int .i64 h3, .int .u64 (so : Int), .int .i64 (L : Int), .int .i64 0, .int .i64 h7]] w fun r w' => r = .returned (.agg (sv i)) ∧ Below w.heap.size w w')
    (hWL : ∀ w : World, Calls Tryd.prog 26 #[.int .i64 b.size, .int .u64 so, .int .u64 (L : Int)] w fun r w' => r = .returned (.bool true) ∧ w' = w)
    (hF : ∀ w : World, Calls Tryd.prog 27 #[.string b, .int .i64 (so : Int), .agg #[.int .i64 cc, .int .i64 o, .int .i64 h2, .int .i64 h3, .int .u64 (so : Int), .int .i64 (L : Int), .int .i64 0, .int .i64 h7]] w fun r w' => r = .returned (.agg #[.int .i64 y0, .int .i64 y1, .int .u64 y2, .int .i64 y3, .int .i64 y4, .int .u64 y5, .int .u64 (n : Int), .int .u64 y7]) ∧ Below w.heap.size w w')
    (hW : ∀ w : World, Calls Tryd.prog 26 #[.int .i64 b.size, .int .u64 so, .int .u64 0] w fun r w' => r = .returned (.bool true) ∧ w' = w) :
    Calls Tryd.prog 17 #[.string b] w fun r w' => ∃ v, r = .returned (.tuple #[v, .int .i64 0]) ∧ w'.ownsRow w.heap.size 60 8 v n (flat sv n) ∧ Below w.heap.size w w' := by
  have HH := Hid.mk' hH
  have HP := Hid.mk' hP
  have HW := Hid.mk' hW
  have HE := Hid.mk' hE
  have HWL := Hid.mk' hWL
  have HF := Hid.mk' hF
  have HX := Hid.mk' hX
  obtain ⟨i0, hi, hz0, hz1, hz2⟩ := info_parts' infoSec
  have hs0 : ((so : Int) == 0) = false := beq_eq_false_iff_ne.2 (by omega)
  have hn0 : ((n : Int) == 0) = false := beq_eq_false_iff_ne.2 (by omega)
  have hLL : ((L : Int) != (L : Int)) = false := bne_self_eq_false _
  have hLne : ¬ (L : Int) = 0 := by omega
  have hm2 : (b.size : Int) ≤ 9223372036854775807 := by unfold maxLen at hm; omega
  have hq : IntKind.u64.wrap ((b.size : Int) - (so : Int)) = (((b.size - so : Nat)) : Int) := by rw [IntKind.wrap_u64]; omega
  have hd : n ≤ dq := by rw [← hdq]; exact (Nat.le_div_iff_mul_le hL.1).2 hin.2
  have hdl : dq ≤ b.size := by rw [← hdq]; exact Nat.le_trans (Nat.div_le_self _ _) (Nat.sub_le _ _)
  have hq2 : IntKind.u64.wrap ((((b.size - so : Nat)) : Int) / (L : Int)) = (dq : Int) := by
    rw [← Int.natCast_ediv, hdq, IntKind.wrap_u64]
    clear hq hin
    omega
  have hnlt : ¬ (dq : Int) < (n : Int) := Int.not_lt.2 (Int.ofNat_le.2 hd)
  have hnlt2 : ¬ dq < n := Nat.not_lt.2 hd
  clear hdq
  have hwn : IntKind.i64.wrap (n : Int) = (n : Int) := by have := hdl; have := hd; clear hin hq hq2; rw [IntKind.wrap_i64]; omega
  have hwn2 : wrap64 (n : Int) = (n : Int) := by have h := hwn; rw [IntKind.wrap_i64] at h; unfold wrap64; exact h
  have hws : IntKind.i64.wrap (so : Int) = (so : Int) := by rw [IntKind.wrap_i64]; omega
  have hws2 : wrap64 (so : Int) = (so : Int) := by have h := hws; rw [IntKind.wrap_i64] at h; unfold wrap64; exact h
  clear hH hP hW hE hX hWL hF
  have HW4 : Hid (IntKind.i64.wrap (n : Int) = (n : Int) ∧ wrap64 (n : Int) = (n : Int) ∧ IntKind.i64.wrap (so : Int) = (so : Int) ∧ wrap64 (so : Int) = (so : Int)) := ⟨hwn, hwn2, hws, hws2⟩
  have HWM : Hid (∀ j : Nat, j < n → IntKind.i64.wrap ((j : Int) * (L : Int)) = (j : Int) * (L : Int) ∧ IntKind.i64.wrap ((so : Int) + (j : Int) * (L : Int)) = (so : Int) + (j : Int) * (L : Int)) := by
    intro j hj
    have hjl : ((j * L : Nat) : Int) = (j : Int) * (L : Int) := Int.natCast_mul j L
    have hle : j * L ≤ n * L := Nat.mul_le_mul_right _ (Nat.le_of_lt hj)
    have h1 : j * L ≤ 1048576 := Nat.le_trans hle (Nat.le_trans hin.2 (Nat.le_trans (Nat.sub_le _ _) hb20))
    have h2 : so ≤ 1048576 := Nat.le_trans hin.1 hb20
    rw [← hjl]
    generalize j * L = q at h1
    clear hle hjl hin hq hq2 hm2 hws hwn hws2 hwn2
    constructor
    · rw [IntKind.wrap_i64]; omega
    · rw [IntKind.wrap_i64]; omega
  have hwL : IntKind.u64.wrap (L : Int) = (L : Int) := by rw [IntKind.wrap_u64]; omega
  have hnb : n ≤ 1048576 := Nat.le_trans hd (Nat.le_trans hdl hb20)
  have hm20 : b.size ≤ 1048576 := hb20
  clear hwn hwn2 hd hdl hb20 hm hin hL hso h60
  go_enter Tryd.func17, Tryd.ntmps17
  go_wp2_with (first
    | (go_at_call 18; refine (HH.out _).mono ?_; rintro r w1 ⟨rfl, hb1⟩)
    | (go_at_call 25; refine (HP.out _).mono ?_; rintro r w2 ⟨rfl, hw2⟩; subst w2)
    | (go_at_call 26; refine (HWL.out _).mono ?_; rintro r w2 ⟨rfl, hw2⟩; subst w2)
    | (refine wpList_load_row rfl _ _ rfl w1.heap.size rfl _ _ _ _ (heap_alloc_new w1 _) Tryd.underlying56 rfl (by kernel_rfl) ?_))
  go_at_call 27
  refine (HF.out _).mono ?_
  rintro r w3 ⟨rfl, hb3⟩
  have hlt3 : w1.heap.size < w3.heap.size := Nat.lt_of_lt_of_le (by rw [size_alloc]; exact Nat.lt_succ_self _) hb3.size
  have hq4 : w3.heap[w1.heap.size]? = some (.cells #[.int .i64 cc, .int .i64 o, .int .i64 h2, .int .i64 h3, .int .u64 (so : Int), .int .i64 (L : Int), .int .i64 0, .int .i64 h7] 56 (0, 0)) := (hb3.block _ (by rw [size_alloc]; exact Nat.lt_succ_self _)).trans (heap_alloc_new w1 _)
  have hR1 : (w3.alloc (.cells #[.int .i64 y0, .int .i64 y1, .int .u64 y2, .int .i64 y3, .int .i64 y4, .int .u64 y5, .int .u64 (n : Int), .int .u64 y7] 60)).heap[w1.heap.size]? = some (.cells #[.int .i64 cc, .int .i64 o, .int .i64 h2, .int .i64 h3, .int .u64 (so : Int), .int .i64 (L : Int), .int .i64 0, .int .i64 h7] 56 (0, 0)) := (Below.heap_alloc w3 _ _ hlt3).trans hq4
  have hq5 : (w3.alloc (.cells #[.int .i64 y0, .int .i64 y1, .int .u64 y2, .int .i64 y3, .int .i64 y4, .int .u64 y5, .int .u64 (n : Int), .int .u64 y7] 60)).cell? ⟨w1.heap.size, 4, none⟩ = some (.int .u64 (so : Int)) := cell_of_row _ _ 4 _ _ _ hR1
  have hs1 := hb1.size
  have hB1 : Below w.heap.size w (w3.alloc (.cells #[.int .i64 y0, .int .i64 y1, .int .u64 y2, .int .i64 y3, .int .i64 y4, .int .u64 y5, .int .u64 (n : Int), .int .u64 y7] 60)) := (Below.alloc hb1 hb1.size _).trans ((Below.alloc hb3 hb3.size _).mono (by rw [size_alloc]; exact Nat.le_succ_of_le hs1))
  have hZ1 : (w3.alloc (.cells #[.int .i64 y0, .int .i64 y1, .int .u64 y2, .int .i64 y3, .int .i64 y4, .int .u64 y5, .int .u64 (n : Int), .int .u64 y7] 60)).heap.size = w3.heap.size + 1 := size_alloc _ _
  clear hq4 HWL HF HH HP hb1 hb3
  have HK := Hid.mk' (And.intro hR1 (And.intro hB1 hZ1))
  clear hR1 hB1 hZ1
  go_wp2_with (first | (go_at_call 26; refine (HW.out _).mono ?_; rintro r w2 ⟨rfl, hw2⟩; subst w2))
  obtain ⟨hR1, hB1, hZ1⟩ := HK.out
  clear HK
  generalize (w3.alloc (.cells #[.int .i64 y0, .int .i64 y1, .int .u64 y2, .int .i64 y3, .int .i64 y4, .int .u64 y5, .int .u64 (n : Int), .int .u64 y7] 60)) = W at hB1 hR1 hZ1 ⊢
  clear HW hq5 hq hq2 hnlt hnlt2 hs0 hn0 hwL
  go_loopw [9, 10] (fun l i wx => ∃ j : Nat, j ≤ n ∧ i = .int .i64 j ∧ wx.ownsRow (w1.heap.size + 1) 60 8 l j (flat sv j) ∧ wx.heap[w1.heap.size]? = some (.cells #[.int .i64 cc, .int .i64 o, .int .i64 h2, .int .i64 h3, .int .u64 (so : Int), .int .i64 (L : Int), .int .i64 0, .int .i64 h7] 56 (0, 0)) ∧ Below w.heap.size w wx ∧ w1.heap.size + 1 ≤ wx.heap.size) (fun _ i _ => n - (intOf i).toNat)
  case atStart => exact ⟨0, Nat.zero_le _, rfl, World.ownsRow_nil _ _ _ _, hR1, hB1, by omega⟩
  case round =>
    obtain ⟨j, hj, rfl, hown, hR, hB, hlt⟩ := hrel
    by_cases hjn : j < n
    · have hc3 : j + 1 ≤ maxLen := by clear hR hown hB; unfold maxLen; omega
      have hc4 : (j + 1) * 64 ≤ 140737488355328 := by clear hR hown hB; omega
      obtain ⟨hwn, hwn2, hws, hws2⟩ := HW4.out
      obtain ⟨hwm, hwa⟩ := HWM.out j hjn
      have hjI : (j : Int) < (n : Int) := Int.ofNat_lt.2 hjn
      have hj0 : (0 : Int) ≤ (j : Int) := Int.natCast_nonneg _
      have c4 : wr.cell? ⟨w1.heap.size, 4, none⟩ = some (.int .u64 (so : Int)) := cell_of_row _ _ 4 _ _ _ hR
      obtain ⟨x0, x1, x2, x3, x4, x5, x6, x7, hx⟩ := HX.out j
      have HEj : Hid (∀ w : World, Calls Tryd.prog 27 #[.string b, .int .i64 ((so : Int) + (j : Int) * (L : Int)), .agg #[.int .i64 cc, .int .i64 o, .int .i64 h2, .int .i64 h3, .int .u64 (so : Int), .int .i64 (L : Int), .int .i64 0, .int .i64 h7]] w fun r w' => r = .returned (.agg #[.int .i64 x0, .int .i64 x1, .int .u64 x2, .int .i64 x3, .int .i64 x4, .int .u64 x5, .int .u64 x6, .int .u64 x7]) ∧ Below w.heap.size w w') := fun w => by have h := HE.out j w hjn; rw [hx] at h; exact h
      have HXJ := Hid.mk' hx
      clear hx
      go_wp2_with (first
        | (refine wpList_load_row rfl _ _ rfl w1.heap.size rfl _ _ _ _ hR Tryd.underlying56 rfl (by kernel_rfl) ?_)
        | (go_at_call 27; refine (HEj.out _).mono ?_; rintro r w3 ⟨rfl, hb3⟩; have hOW := ((own_below hown hb3).alloc (.cells #[.int .i64 x0, .int .i64 x1, .int .u64 x2, .int .i64 x3, .int .i64 x4, .int .u64 x5, .int .u64 x6, .int .u64 x7] 60)).alloc (.cells #[.int .i64 x0, .int .i64 x1, .int .u64 x2, .int .i64 x3, .int .i64 x4, .int .u64 x5, .int .u64 x6, .int .u64 x7] 60))
        | (at_builtin; refine wpList_append_own _ rfl _ _ 51 rfl (w1.heap.size + 1) 60 i0 (.agg #[.int .i64 0, .int .i64 0, .int .u64 0, .int .i64 0, .int .i64 0, .int .u64 0, .int .u64 0, .int .u64 0]) 8 64 Tryd.underlying51 hi hz0 hz1 hz2 rfl (by decide) _ _ _ rfl hOW ⟨w3.heap.size + 1, 0, none⟩ 1 1 [.int .i64 x0, .int .i64 x1, .int .u64 x2, .int .i64 x3, .int .i64 x4, .int .u64 x5, .int .u64 x6, .int .u64 x7] rfl rfl ?c1 (by intro u hu; simp at hu; rcases hu with rfl | rfl | rfl | rfl | rfl | rfl | rfl | rfl <;> rfl) ?c3 ?c4 ?c5 ?_))
      case c1 =>
        intro m u hu
        rw [Addr.add_mid, Nat.zero_add, cell_of_row _ _ _ _ _ _ (heap_alloc2_new w3 _ _)]
        simpa using hu
      case c3 => exact hc3
      case c4 => exact hc4
      case c5 => rw [size_alloc, size_alloc]; have := hb3.size; omega
      intro v' w5 hown' hgrow _
      have hs3 := hb3.size
      have hrow : ∀ q, u9.ownBlock = some q → w1.heap.size + 1 ≤ q := fun q hq => (hown.lt q hq).1
      have hbR : Below (w1.heap.size + 1) wr w5 := Below.grown (Below.alloc (Below.alloc (hb3.mono hlt) (by omega) _) (by rw [size_alloc]; omega) _) hgrow (by rw [size_alloc, size_alloc]; omega) hrow
      have hfl : flat sv (j + 1) = flat sv j ++ [.int .i64 x0, .int .i64 x1, .int .u64 x2, .int .i64 x3, .int .i64 x4, .int .u64 x5, .int .u64 x6, .int .u64 x7] := by rw [flat, HXJ.out]
      have HALL : Hid (w5.ownsRow (w1.heap.size + 1) 60 8 v' (j + 1) (flat sv (j + 1)) ∧ w5.heap[w1.heap.size]? = some (.cells #[.int .i64 cc, .int .i64 o, .int .i64 h2, .int .i64 h3, .int .u64 (so : Int), .int .i64 (L : Int), .int .i64 0, .int .i64 h7] 56 (0, 0)) ∧ Below w.heap.size w w5 ∧ w1.heap.size + 1 ≤ w5.heap.size) := ⟨by rw [hfl]; exact hown', (hbR.block _ (by omega)).trans hR, hB.trans (hbR.mono (by omega)), by have := hbR.size; omega⟩
      clear hown' hgrow hbR hfl hrow hown hR hB hOW hb3
      clear hwm hwa hwn hwn2 hws hws2
      go_wp2
      go_roundw
      case rel => exact ⟨j + 1, hjn, by go_num, HALL.out⟩
      case measure => clear HALL HE HX HWM HW4 HXJ HEj; simp [intOf]; omega
    · obtain rfl : j = n := Nat.le_antisymm hj (Nat.not_lt.1 hjn)
      obtain ⟨hwn, hwn2, hws, hws2⟩ := HW4.out
      go_wp2
      go_ret2
      exact ⟨_, rfl, own_base hown (by omega), hB⟩
end Go.Proofs.YtkmehjikllilaaaDoor
