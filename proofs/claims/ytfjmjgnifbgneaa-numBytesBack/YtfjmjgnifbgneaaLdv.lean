-- shelflaw1.size, and num.Load where it answers a number: contracts.
import Derived.Test.YtfjmjgnifbgneaaNLoad
import Derived.Laws.Bits128
namespace Go.Proofs.Ytfjmjgnifbgneaa
open Go.ChangeShapes Go.WideShapes Go.ChangeAt Go.RowKit
set_option linter.unusedVariables false

theorem i64_and3 (n : Int) : bits .and .i64 n 3 = n % 4 := by
  have h1 : (BitVec.ofInt 64 3).toNat = 2 ^ 2 - 1 := by decide
  have key : (BitVec.ofInt 64 n &&& BitVec.ofInt 64 3).toNat = (n % ((2 ^ 64 : Nat) : Int)).toNat % 2 ^ 2 := by
    rw [BitVec.toNat_and, BitVec.toNat_ofInt, h1, Nat.and_two_pow_sub_one_eq_mod]
  show IntKind.i64.wrap ((BitVec.ofInt 64 n &&& BitVec.ofInt 64 3).toNat : Nat) = n % 4
  rw [key, IntKind.wrap_i64]
  omega
theorem size_any (n k : Int) (w : World) (h : (n % 4 = 0 ∧ k = 1) ∨ (n % 4 = 1 ∧ k = 2) ∨ (n % 4 = 2 ∧ k = 4) ∨ (n % 4 = 3 ∧ k = 8)) :
    Calls Try.prog 13 #[.int .i64 n] w fun e w' => e = .returned (.int .i64 k) ∧ w' = w := by
  have k1 := i64_and3 n
  rcases h with ⟨h, rfl⟩ | ⟨h, rfl⟩ | ⟨h, rfl⟩ | ⟨h, rfl⟩
  all_goals
    rw [h] at k1
    clear h
    go_enter Try.func13, Try.ntmps13
    go_wp2
    go_ret
    exact ⟨rfl, rfl⟩

def ldv (s : ByteArray) (a k o : Int) : Nat := if o = 1 then beNat ((s.data.toList.drop a.toNat).take k.toNat) else leNat ((s.data.toList.drop a.toNat).take k.toNat)
theorem num_ok (s : ByteArray) (a k o : Int) (w : World) (hk : k = 1 ∨ k = 2 ∨ k = 4 ∨ k = 8) (ho : o = 0 ∨ o = 1) (h0 : 0 ≤ a) (h1 : a + k ≤ s.size) (hm : s.size ≤ maxLen) :
    Calls Try.prog 14 #[.string s, .int .i64 a, .int .i64 k, .int .i64 o] w fun e w' => e = .returned (.tuple #[.int .u64 (ldv s a k o), .int .i64 0]) ∧ Below w.heap.size w w' := by
  obtain ⟨n, rfl⟩ := Int.eq_ofNat_of_zero_le h0
  rcases ho with rfl | rfl
  · rcases hk with rfl | rfl | rfl | rfl
    · exact num_load_little_1 s n 0 w rfl rfl (by omega) hm
    · exact num_load_little_2 s n 0 w rfl rfl (by omega) hm
    · exact num_load_little_4 s n 0 w rfl rfl (by omega) hm
    · exact num_load_little_8 s n 0 w rfl rfl (by omega) hm
  · rcases hk with rfl | rfl | rfl | rfl
    · exact num_load_big_1 s n 1 w rfl rfl (by omega) hm
    · exact num_load_big_2 s n 1 w rfl rfl (by omega) hm
    · exact num_load_big_4 s n 1 w rfl rfl (by omega) hm
    · exact num_load_big_8 s n 1 w rfl rfl (by omega) hm
theorem bel (w a b : World) (h : Below w.heap.size w a) (k : Below a.heap.size a b) : Below w.heap.size w b := h.trans (k.mono h.size)

end Go.Proofs.Ytfjmjgnifbgneaa
