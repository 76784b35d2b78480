
import Derived.Test.YtjpoifoejbabiaaDoorModeS
import Derived.Test.YtjpoifoejbabiaaDoorF5
namespace Go.Proofs.YtjpoifoejbabiaaDoor
open Go.RowKit
set_option linter.unusedVariables false
set_option maxRecDepth 100000
theorem i64_and (n : Int) (k : Nat) (hk : k < 4096) : bits .and .i64 n k = (((n % 4096).toNat &&& k : Nat) : Int) := by
  have h1 : (BitVec.ofInt 64 (k : Int)).toNat = k := by rw [BitVec.toNat_ofInt]; omega
  have key : (BitVec.ofInt 64 n &&& BitVec.ofInt 64 (k : Int)).toNat = (n % 4096).toNat &&& k := by
    rw [BitVec.toNat_and, BitVec.toNat_ofInt, h1]
    apply Nat.eq_of_testBit_eq
    intro i
    rw [Nat.testBit_and, Nat.testBit_and]
    by_cases hi : i < 12
    · have e : (n % 4096).toNat = (n % ((2 ^ 64 : Nat) : Int)).toNat % 2 ^ 12 := by omega
      rw [e, Nat.testBit_mod_two_pow]; simp [hi]
    · have : k.testBit i = false := Nat.testBit_lt_two_pow (Nat.lt_of_lt_of_le hk (Nat.pow_le_pow_right (n := 2) (by decide) (by omega : 12 ≤ i)))
      rw [this]; simp
  show IntKind.i64.wrap ((BitVec.ofInt 64 n &&& BitVec.ofInt 64 (k : Int)).toNat : Nat) = _
  rw [key, IntKind.wrap_i64]
  have : (n % 4096).toNat &&& k ≤ k := Nat.and_le_right
  omega
/-- The three letters of a group, by its bits. -/
def grp (x : Int) (o : Bool) (c d : Int) : List Int := [lif (bt x 4) 114, lif (bt x 2) 119, if o then (if bt x 1 then c else d) else (if bt x 1 then 120 else 45)]
def strI (l : List Int) : ByteArray := ⟨(l.map fun x => x.toNat.toUInt8).toArray⟩
theorem conv3 (w : World) (a b c : Int) (h : ∀ x ∈ [a, b, c], 0 ≤ x ∧ x < 256) : (convert 37 9 (.slice (some ⟨w.heap.size, 0, none⟩) 3 3)).run Tryd.prog (w.alloc (.cells #[.int .u8 a, .int .u8 b, .int .u8 c] 5)) = .ok (.string (strI [a, b, c])) (w.alloc (.cells #[.int .u8 a, .int .u8 b, .int .u8 c] 5)) := by
  refine conv_m (w.alloc (.cells #[.int .u8 a, .int .u8 b, .int .u8 c] 5)) w.heap.size (.slice (some ⟨w.heap.size, 0, none⟩) 3 3) ([a, b, c].map fun x => x.toNat.toUInt8) ⟨rfl, .inr ⟨w.heap.size, 3, _, rfl, Nat.le_refl _, heap_alloc_new w _, Nat.le_refl _, by decide, rfl, ?_⟩⟩
  rw [bytes_of _ h]; rfl
theorem tri_byte {a b c : Int} (ha : 0 ≤ a ∧ a < 256) (hb : 0 ≤ b ∧ b < 256) (hc : 0 ≤ c ∧ c < 256) : ∀ x ∈ [a, b, c], 0 ≤ x ∧ x < 256 := by
  intro x hx; simp at hx; rcases hx with rfl | rfl | rfl
  · exact ha
  · exact hb
  · exact hc
end Go.Proofs.YtjpoifoejbabiaaDoor
