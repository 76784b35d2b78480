
-- A section's numbers, and lists of sections in memory.
import Derived.Test.YtoikagccopglkaaDoorA5
import Derived.Test.YtoikagccopglkaaDoorR4
namespace Go.Proofs.YtoikagccopglkaaDoor
open Go.ChangeShapes Go.WideShapes Go.ChangeAt Go.RowKit
set_option linter.unusedVariables false
set_option maxRecDepth 100000
/-- a section's numbers -/
structure Sec where
  nm : Nat
  ty : Nat
  fl : Nat
  li : Nat
  inf : Nat
  off : Nat
  sz : Nat
  en : Nat
def Sec.v (s : Sec) : Array Value := #[.int .i64 s.nm, .int .i64 s.ty, .int .u64 s.fl, .int .i64 s.li, .int .i64 s.inf, .int .u64 s.off, .int .u64 s.sz, .int .u64 s.en]
theorem Sec.one (s : Sec) : s.v.all (·.oneCell') = true := by kernel_rfl
/-- the section whose entry stands at p -/
def secOf (b : ByteArray) (c : Nat) (o : Int) (p : Nat) : Sec :=
  if c = 32 then ⟨num b p 4 o, num b (p + 4) 4 o, num b (p + 8) 4 o, num b (p + 24) 4 o, num b (p + 28) 4 o, num b (p + 16) 4 o, num b (p + 20) 4 o, num b (p + 36) 4 o⟩
  else ⟨num b p 4 o, num b (p + 4) 4 o, num b (p + 8) 8 o, num b (p + 40) 4 o, num b (p + 44) 4 o, num b (p + 24) 8 o, num b (p + 32) 8 o, num b (p + 56) 8 o⟩
theorem sec32 (b : ByteArray) (o : Int) (p : Nat) : secOf b 32 o p = ⟨num b p 4 o, num b (p + 4) 4 o, num b (p + 8) 4 o, num b (p + 24) 4 o, num b (p + 28) 4 o, num b (p + 16) 4 o, num b (p + 20) 4 o, num b (p + 36) 4 o⟩ := if_pos rfl
theorem sec64 (b : ByteArray) (o : Int) (p : Nat) : secOf b 64 o p = ⟨num b p 4 o, num b (p + 4) 4 o, num b (p + 8) 8 o, num b (p + 40) 4 o, num b (p + 44) 4 o, num b (p + 24) 8 o, num b (p + 32) 8 o, num b (p + 56) 8 o⟩ := if_neg (by decide)
/-- a list of sections in memory, a row of its own in a block not below B -/
def SecsIn (B : Nat) (w : World) (v : Value) (n : Nat) (s : Nat → Sec) : Prop := w.ownsRow B 48 8 v n (flat (fun i => (s i).v) n)
theorem flat_get (s : Nat → Sec) : ∀ (n i m : Nat), i < n → m < 8 → (flat (fun i => (s i).v) n)[i * 8 + m]? = (s i).v[m]?
  | 0, i, m, h, _ => by omega
  | n + 1, i, m, h, hm => by
    have hl : (flat (fun i => (s i).v) n).length = n * 8 := flat_length _ (fun i => rfl) n
    rw [flat]
    rcases Nat.lt_or_ge i n with hi | hi
    · rw [List.getElem?_append_left (by rw [hl]; omega)]
      exact flat_get s n i m hi hm
    · obtain rfl : i = n := by omega
      rw [List.getElem?_append_right (by rw [hl]; omega), hl, show i * 8 + m - i * 8 = m by omega, Array.getElem?_toList]
theorem secsIn_row {B : Nat} {w : World} {g n : Nat} {s : Nat → Sec} (hg : B ≤ g) (h : w.heap[g]? = some (.cells (flat (fun i => (s i).v) n).toArray 48 (0, 0))) (hn : n ≤ maxLen) : SecsIn B w (.slice (some ⟨g, 0, none⟩) n n) n s := by
  have hl : (flat (fun i => (s i).v) n).length = n * 8 := flat_length _ (fun i => rfl) n
  exact ⟨hl, .inr ⟨g, n, _, rfl, hg, h, Nat.le_refl _, hn, by rw [List.size_toArray, hl], by rw [List.take_of_length_le (by rw [hl]; exact Nat.le_refl _)]⟩⟩
theorem secsIn_own {B : Nat} {w : World} {v : Value} {n : Nat} {s : Nat → Sec} (h : w.ownsRow B 48 8 v n (flat (fun i => (s i).v) n)) : SecsIn B w v n s := h
theorem SecsIn.kept {B : Nat} {w w' : World} {v : Value} {n : Nat} {s : Nat → Sec} (h : SecsIn B w v n s) (hb : Below w.heap.size w w') : SecsIn B w' v n s := by
  refine ⟨h.1, ?_⟩
  rcases h.2 with q | ⟨g, cap, cur, q1, q2, q3, q4⟩
  · exact .inl q
  · exact .inr ⟨g, cap, cur, q1, q2, (hb.block g (Array.getElem?_eq_some_iff.1 q3).1).trans q3, q4⟩
theorem num_two (b : ByteArray) (so q p L a K : Nat) (o : Int) (h1 : a + K ≤ L) (h2 : so + p + L ≤ q) : num ((b.extract so q).extract p (p + L)) a K o = num b (so + p + a) K o := by
  rw [num_ext _ p (p + L) a K o (by omega), num_ext b so q (p + a) K o (by omega), Nat.add_assoc]
end Go.Proofs.YtoikagccopglkaaDoor
