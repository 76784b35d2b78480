
-- elf: an entry of the table, identify, by class.
import Derived.Test.YtoikagccopglkaaDoorJ0
import Derived.Test.YtoikagccopglkaaDoorK32
import Derived.Test.YtoikagccopglkaaDoorK64
namespace Go.Proofs.YtoikagccopglkaaDoor
open Go.ChangeShapes Go.WideShapes Go.ChangeAt Go.RowKit
set_option linter.unusedVariables false
set_option maxRecDepth 100000
/-- what a call of Sections answers -/
def PSecs (b : ByteArray) (n : Nat) (s : Nat → Sec) (e : Int) : Prop := ∀ w : World, Magic w → Calls Tryd.prog 4 #[.string b] w fun r w' => ∃ v, r = .returned (.tuple #[v, .int .i64 e]) ∧ SecsIn w.heap.size w' v n s ∧ Below w.heap.size w w'
def DSecs (b : ByteArray) (n : Nat) (s : Nat → Sec) (e : Int) : Prop := ∀ w : World, Calls Tryd.prog 5 #[.string b] w fun r w' => ∃ v, r = .returned (.tuple #[v, .int .i64 e]) ∧ SecsIn w.heap.size w' v n s ∧ Below w.heap.size w w'
/-- places and lengths of sections are numbers of eight bytes -/
def SecB (s : Nat → Sec) : Prop := ∀ i, (s i).off < 18446744073709551616 ∧ (s i).sz < 18446744073709551616
theorem sec_b (b : ByteArray) (c : Nat) (o : Int) (p : Nat) : (secOf b c o p).off < 18446744073709551616 ∧ (secOf b c o p).sz < 18446744073709551616 := by
  unfold secOf
  split
  · exact ⟨Nat.lt_trans (num_lt4 b _ _) (by decide), Nat.lt_trans (num_lt4 b _ _) (by decide)⟩
  · exact ⟨num_lt8 b _ _, num_lt8 b _ _⟩
theorem secsIn_nil (B : Nat) (w : World) (s : Nat → Sec) : SecsIn B w (.slice none 0 0) 0 s := ⟨rfl, .inl ⟨rfl, rfl⟩⟩
theorem at_32 (b : ByteArray) (so n i k : Nat) (nm o : Int) (w : World) (hb : b.size ≤ maxLen) (hin : so ≤ b.size ∧ n * 40 ≤ b.size - so) (ho : o = 0 ∨ o = 1) (hi : i < n) (hF : w.heap[k]? = some (.cells (fileCells 32 o b) 62 (0, 0))) :
    Calls Tryd.prog 23 #[.agg #[.pointer (some ⟨k, 0, none⟩), .string (b.extract so (so + n * 40)), .int .i64 n, .int .i64 nm], .int .i64 i] w fun r w' => r = .returned (.agg (secOf b 32 o (so + i * 40)).v) ∧ Below w.heap.size w w' := by
  have hsz : (b.extract so (so + n * 40)).size = n * 40 := by rw [ByteArray.size_extract]; omega
  have hle : i * 40 + 40 ≤ n * 40 := by omega
  have hq : so + i * 40 + 40 ≤ so + n * 40 := by omega
  rw [sec32]
  refine at_ok (b.extract so (so + n * 40)) k n i 40 nm _ _ _ _ _ _ _ _ _ w hF rfl (by omega) hi (by unfold maxLen at *; omega) (by rw [hsz]; exact Nat.le_refl _) (by rw [hsz]; omega) (fun w' hF' => ?_)
  have hs2 : ((b.extract so (so + n * 40)).extract (i * 40) (i * 40 + 40)).size = 40 := by rw [ByteArray.size_extract, hsz]; omega
  refine (section_32 b _ k o w' hF' hs2 ho).mono fun r w'' ⟨h1, h2⟩ => ⟨?_, h2⟩
  have hv : r = .returned (.agg (Sec.v ⟨num b (so + i * 40) 4 o, num b (so + i * 40 + 4) 4 o, num b (so + i * 40 + 8) 4 o, num b (so + i * 40 + 24) 4 o, num b (so + i * 40 + 28) 4 o, num b (so + i * 40 + 16) 4 o, num b (so + i * 40 + 20) 4 o, num b (so + i * 40 + 36) 4 o⟩)) := by
    have e0 : numI ((b.extract so (so + n * 40)).extract (i * 40) (i * 40 + 40)) 0 4 o = ((num b (so + i * 40 + 0) 4 o : Nat) : Int) := congrArg (Nat.cast : Nat → Int) (num_two b so (so + n * 40) (i * 40) 40 0 4 o (by omega) hq)
    have e1 : numI ((b.extract so (so + n * 40)).extract (i * 40) (i * 40 + 40)) 4 4 o = ((num b (so + i * 40 + 4) 4 o : Nat) : Int) := congrArg (Nat.cast : Nat → Int) (num_two b so (so + n * 40) (i * 40) 40 4 4 o (by omega) hq)
    have e2 : numI ((b.extract so (so + n * 40)).extract (i * 40) (i * 40 + 40)) 8 4 o = ((num b (so + i * 40 + 8) 4 o : Nat) : Int) := congrArg (Nat.cast : Nat → Int) (num_two b so (so + n * 40) (i * 40) 40 8 4 o (by omega) hq)
    have e3 : numI ((b.extract so (so + n * 40)).extract (i * 40) (i * 40 + 40)) 24 4 o = ((num b (so + i * 40 + 24) 4 o : Nat) : Int) := congrArg (Nat.cast : Nat → Int) (num_two b so (so + n * 40) (i * 40) 40 24 4 o (by omega) hq)
    have e4 : numI ((b.extract so (so + n * 40)).extract (i * 40) (i * 40 + 40)) 28 4 o = ((num b (so + i * 40 + 28) 4 o : Nat) : Int) := congrArg (Nat.cast : Nat → Int) (num_two b so (so + n * 40) (i * 40) 40 28 4 o (by omega) hq)
    have e5 : numI ((b.extract so (so + n * 40)).extract (i * 40) (i * 40 + 40)) 16 4 o = ((num b (so + i * 40 + 16) 4 o : Nat) : Int) := congrArg (Nat.cast : Nat → Int) (num_two b so (so + n * 40) (i * 40) 40 16 4 o (by omega) hq)
    have e6 : numI ((b.extract so (so + n * 40)).extract (i * 40) (i * 40 + 40)) 20 4 o = ((num b (so + i * 40 + 20) 4 o : Nat) : Int) := congrArg (Nat.cast : Nat → Int) (num_two b so (so + n * 40) (i * 40) 40 20 4 o (by omega) hq)
    have e7 : numI ((b.extract so (so + n * 40)).extract (i * 40) (i * 40 + 40)) 36 4 o = ((num b (so + i * 40 + 36) 4 o : Nat) : Int) := congrArg (Nat.cast : Nat → Int) (num_two b so (so + n * 40) (i * 40) 40 36 4 o (by omega) hq)
    rw [h1, e0, e1, e2, e3, e4, e5, e6, e7]
    rfl
  exact hv
theorem id_32 (b : ByteArray) (hm : b.size ≤ maxLen) (hE : identE b = 0) (hc : cls b = 32) : ∀ w : World, Magic w → Calls Tryd.prog 18 #[.string b] w fun r w' => ∃ k, r = .returned (.pointer (some ⟨k, 0, none⟩)) ∧ Below w.heap.size w w' ∧ w'.heap[k]? = some (.cells (fileCells 32 (ord b) b) 62 (0, 0)) :=
  fun w hM => (identify_c b w hM hm).mono fun r w' ⟨h1, h2⟩ => by
    rcases h2 with ⟨_, k, h3, _, h4⟩ | ⟨h3, _⟩
    · refine ⟨k, h3, h1, ?_⟩
      unfold FileAt at h4
      rw [hc] at h4
      exact h4
    · exact absurd hE h3
theorem rent_32 (b : ByteArray) (p : Nat) (o e2 e3 e4 e5 e6 e7 : Int) (w : World) (hs : p + 40 ≤ b.size) (hm : b.size ≤ maxLen) (ho : o = 0 ∨ o = 1) :
    Calls Tryd.prog 17 #[.string b, .int .i64 p, .agg #[.int .i64 32, .int .i64 o, .int .i64 e2, .int .i64 e3, .int .u64 e4, .int .i64 e5, .int .i64 e6, .int .i64 e7]] w fun r w' => r = .returned (.agg (secOf b 32 o p).v) ∧ Below w.heap.size w w' := by
  rw [sec32]
  exact rEntry_32 b p o e2 e3 e4 e5 e6 e7 w hs hm ho
theorem at_64 (b : ByteArray) (so n i k : Nat) (nm o : Int) (w : World) (hb : b.size ≤ maxLen) (hin : so ≤ b.size ∧ n * 64 ≤ b.size - so) (ho : o = 0 ∨ o = 1) (hi : i < n) (hF : w.heap[k]? = some (.cells (fileCells 64 o b) 62 (0, 0))) :
    Calls Tryd.prog 23 #[.agg #[.pointer (some ⟨k, 0, none⟩), .string (b.extract so (so + n * 64)), .int .i64 n, .int .i64 nm], .int .i64 i] w fun r w' => r = .returned (.agg (secOf b 64 o (so + i * 64)).v) ∧ Below w.heap.size w w' := by
  have hsz : (b.extract so (so + n * 64)).size = n * 64 := by rw [ByteArray.size_extract]; omega
  have hle : i * 64 + 64 ≤ n * 64 := by omega
  have hq : so + i * 64 + 64 ≤ so + n * 64 := by omega
  rw [sec64]
  refine at_ok (b.extract so (so + n * 64)) k n i 64 nm _ _ _ _ _ _ _ _ _ w hF rfl (by omega) hi (by unfold maxLen at *; omega) (by rw [hsz]; exact Nat.le_refl _) (by rw [hsz]; omega) (fun w' hF' => ?_)
  have hs2 : ((b.extract so (so + n * 64)).extract (i * 64) (i * 64 + 64)).size = 64 := by rw [ByteArray.size_extract, hsz]; omega
  refine (section_64 b _ k o w' hF' hs2 ho).mono fun r w'' ⟨h1, h2⟩ => ⟨?_, h2⟩
  have hv : r = .returned (.agg (Sec.v ⟨num b (so + i * 64) 4 o, num b (so + i * 64 + 4) 4 o, num b (so + i * 64 + 8) 8 o, num b (so + i * 64 + 40) 4 o, num b (so + i * 64 + 44) 4 o, num b (so + i * 64 + 24) 8 o, num b (so + i * 64 + 32) 8 o, num b (so + i * 64 + 56) 8 o⟩)) := by
    have e0 : numI ((b.extract so (so + n * 64)).extract (i * 64) (i * 64 + 64)) 0 4 o = ((num b (so + i * 64 + 0) 4 o : Nat) : Int) := congrArg (Nat.cast : Nat → Int) (num_two b so (so + n * 64) (i * 64) 64 0 4 o (by omega) hq)
    have e1 : numI ((b.extract so (so + n * 64)).extract (i * 64) (i * 64 + 64)) 4 4 o = ((num b (so + i * 64 + 4) 4 o : Nat) : Int) := congrArg (Nat.cast : Nat → Int) (num_two b so (so + n * 64) (i * 64) 64 4 4 o (by omega) hq)
    have e2 : numI ((b.extract so (so + n * 64)).extract (i * 64) (i * 64 + 64)) 8 8 o = ((num b (so + i * 64 + 8) 8 o : Nat) : Int) := congrArg (Nat.cast : Nat → Int) (num_two b so (so + n * 64) (i * 64) 64 8 8 o (by omega) hq)
    have e3 : numI ((b.extract so (so + n * 64)).extract (i * 64) (i * 64 + 64)) 40 4 o = ((num b (so + i * 64 + 40) 4 o : Nat) : Int) := congrArg (Nat.cast : Nat → Int) (num_two b so (so + n * 64) (i * 64) 64 40 4 o (by omega) hq)
    have e4 : numI ((b.extract so (so + n * 64)).extract (i * 64) (i * 64 + 64)) 44 4 o = ((num b (so + i * 64 + 44) 4 o : Nat) : Int) := congrArg (Nat.cast : Nat → Int) (num_two b so (so + n * 64) (i * 64) 64 44 4 o (by omega) hq)
    have e5 : numI ((b.extract so (so + n * 64)).extract (i * 64) (i * 64 + 64)) 24 8 o = ((num b (so + i * 64 + 24) 8 o : Nat) : Int) := congrArg (Nat.cast : Nat → Int) (num_two b so (so + n * 64) (i * 64) 64 24 8 o (by omega) hq)
    have e6 : numI ((b.extract so (so + n * 64)).extract (i * 64) (i * 64 + 64)) 32 8 o = ((num b (so + i * 64 + 32) 8 o : Nat) : Int) := congrArg (Nat.cast : Nat → Int) (num_two b so (so + n * 64) (i * 64) 64 32 8 o (by omega) hq)
    have e7 : numI ((b.extract so (so + n * 64)).extract (i * 64) (i * 64 + 64)) 56 8 o = ((num b (so + i * 64 + 56) 8 o : Nat) : Int) := congrArg (Nat.cast : Nat → Int) (num_two b so (so + n * 64) (i * 64) 64 56 8 o (by omega) hq)
    rw [h1, e0, e1, e2, e3, e4, e5, e6, e7]
    rfl
  exact hv
theorem id_64 (b : ByteArray) (hm : b.size ≤ maxLen) (hE : identE b = 0) (hc : cls b = 64) : ∀ w : World, Magic w → Calls Tryd.prog 18 #[.string b] w fun r w' => ∃ k, r = .returned (.pointer (some ⟨k, 0, none⟩)) ∧ Below w.heap.size w w' ∧ w'.heap[k]? = some (.cells (fileCells 64 (ord b) b) 62 (0, 0)) :=
  fun w hM => (identify_c b w hM hm).mono fun r w' ⟨h1, h2⟩ => by
    rcases h2 with ⟨_, k, h3, _, h4⟩ | ⟨h3, _⟩
    · refine ⟨k, h3, h1, ?_⟩
      unfold FileAt at h4
      rw [hc] at h4
      exact h4
    · exact absurd hE h3
theorem rent_64 (b : ByteArray) (p : Nat) (o e2 e3 e4 e5 e6 e7 : Int) (w : World) (hs : p + 64 ≤ b.size) (hm : b.size ≤ maxLen) (ho : o = 0 ∨ o = 1) :
    Calls Tryd.prog 17 #[.string b, .int .i64 p, .agg #[.int .i64 64, .int .i64 o, .int .i64 e2, .int .i64 e3, .int .u64 e4, .int .i64 e5, .int .i64 e6, .int .i64 e7]] w fun r w' => r = .returned (.agg (secOf b 64 o p).v) ∧ Below w.heap.size w w' := by
  rw [sec64]
  exact rEntry_64 b p o e2 e3 e4 e5 e6 e7 w hs hm ho
end Go.Proofs.YtoikagccopglkaaDoor
