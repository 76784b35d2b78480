
import Derived.Test.YtegjklllnegghaaGreatDoorProg
import Derived.KernelRfl
import Derived.WalkKit
import Derived.ProofKit
import Derived.Lib.Walk
import Derived.Lib.BitFns
namespace Go.Proofs.YtegjklllnegghaaGreatDoor
open Go.ChangeShapes Go.WideShapes Go.ChangeAt Go.RowKit

theorem tab_size : Lib.len8tab.size = 256 := by decide +kernel
theorem tab_top : ∀ n : Fin Lib.len8tab.size, 128 ≤ n.val → Lib.len8tab[n.val].toNat = 8 := by decide +kernel
theorem tab_at (n : Nat) (h : n < Lib.len8tab.size) (h0 : 128 ≤ n) : Lib.len8tab[n].toNat = 8 := tab_top ⟨n, h⟩ h0
theorem ret_int {k : IntKind} {a b : Int} (h : a = b) : Ending.returned (.int k a) = .returned (.int k b) := by rw [h]

set_option maxRecDepth 100000 in
theorem len64_8 (x : Int) (w : World) (h0 : 128 ≤ x) (h1 : x ≤ 255) :
    Calls Tryz.prog 111 #[.int .u64 x] w fun e w' => e = .returned (.int .i64 8) ∧ w' = w := by
  have hz := tab_size
  go_enter Tryz.func111, Tryz.ntmps111
  go_wp2
  go_ret
  refine ⟨ret_int ?_, rfl⟩
  rw [tab_at _ _ (by omega)]; unfold wrap64; omega
set_option maxRecDepth 100000 in
theorem len64_16 (x : Int) (w : World) (h0 : 32768 ≤ x) (h1 : x ≤ 65535) :
    Calls Tryz.prog 111 #[.int .u64 x] w fun e w' => e = .returned (.int .i64 16) ∧ w' = w := by
  have hz := tab_size
  go_enter Tryz.func111, Tryz.ntmps111
  go_wp2
  go_ret
  refine ⟨ret_int ?_, rfl⟩
  rw [tab_at _ _ (by omega)]; unfold wrap64; omega
set_option maxRecDepth 100000 in
theorem len64_32 (x : Int) (w : World) (h0 : 2147483648 ≤ x) (h1 : x ≤ 4294967295) :
    Calls Tryz.prog 111 #[.int .u64 x] w fun e w' => e = .returned (.int .i64 32) ∧ w' = w := by
  have hz := tab_size
  go_enter Tryz.func111, Tryz.ntmps111
  go_wp2
  go_ret
  refine ⟨ret_int ?_, rfl⟩
  rw [tab_at _ _ (by omega)]; unfold wrap64; omega
set_option maxRecDepth 100000 in
theorem len64_64 (x : Int) (w : World) (h0 : 9223372036854775808 ≤ x) (h1 : x ≤ 18446744073709551615) :
    Calls Tryz.prog 111 #[.int .u64 x] w fun e w' => e = .returned (.int .i64 64) ∧ w' = w := by
  have hz := tab_size
  go_enter Tryz.func111, Tryz.ntmps111
  go_wp2
  go_ret
  refine ⟨ret_int ?_, rfl⟩
  rw [tab_at _ _ (by omega)]; unfold wrap64; omega

theorem sizeOf8 (w : World) :
    Calls Tryz.prog 91 #[] w fun e w' => e = .returned (.int .i64 1) ∧ w' = w := by
  go_enter Tryz.func91, Tryz.ntmps91
  go_wp2_with (go_at_call 111; refine (len64_8 _ _ (by decide) (by decide)).mono ?_; rintro e w' ⟨rfl, rfl⟩)
  go_ret
  exact ⟨rfl, rfl⟩
theorem sizeOf16 (w : World) :
    Calls Tryz.prog 93 #[] w fun e w' => e = .returned (.int .i64 2) ∧ w' = w := by
  go_enter Tryz.func93, Tryz.ntmps93
  go_wp2_with (go_at_call 111; refine (len64_16 _ _ (by decide) (by decide)).mono ?_; rintro e w' ⟨rfl, rfl⟩)
  go_ret
  exact ⟨rfl, rfl⟩
theorem sizeOf32 (w : World) :
    Calls Tryz.prog 94 #[] w fun e w' => e = .returned (.int .i64 4) ∧ w' = w := by
  go_enter Tryz.func94, Tryz.ntmps94
  go_wp2_with (go_at_call 111; refine (len64_32 _ _ (by decide) (by decide)).mono ?_; rintro e w' ⟨rfl, rfl⟩)
  go_ret
  exact ⟨rfl, rfl⟩
theorem sizeOf64 (w : World) :
    Calls Tryz.prog 95 #[] w fun e w' => e = .returned (.int .i64 8) ∧ w' = w := by
  go_enter Tryz.func95, Tryz.ntmps95
  go_wp2_with (go_at_call 111; refine (len64_64 _ _ (by decide) (by decide)).mono ?_; rintro e w' ⟨rfl, rfl⟩)
  go_ret
  exact ⟨rfl, rfl⟩

theorem weight_big (i k o : Int) (w : World) (ho : (o == 1) = true) (h0 : 0 ≤ i) (h1 : i < k) (h2 : k ≤ 8) :
    Calls Tryz.prog 92 #[.int .i64 i, .int .i64 k, .int .i64 o] w fun e w' => e = .returned (.int .i64 (8 * (k - 1 - i))) ∧ w' = w := by
  go_enter Tryz.func92, Tryz.ntmps92
  go_wp2
  go_ret
  exact ⟨rfl, rfl⟩

theorem weight_little (i k o : Int) (w : World) (ho : (o == 1) = false) (h0 : 0 ≤ i) (h1 : i < k) (h2 : k ≤ 8) :
    Calls Tryz.prog 92 #[.int .i64 i, .int .i64 k, .int .i64 o] w fun e w' => e = .returned (.int .i64 (8 * i)) ∧ w' = w := by
  go_enter Tryz.func92, Tryz.ntmps92
  go_wp2
  go_ret
  exact ⟨rfl, rfl⟩

end Go.Proofs.YtegjklllnegghaaGreatDoor
