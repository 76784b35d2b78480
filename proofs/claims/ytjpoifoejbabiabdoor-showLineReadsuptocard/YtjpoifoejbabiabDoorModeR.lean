
import Derived.Test.YtjpoifoejbabiabDoorModeS
import Derived.Test.YtjpoifoejbabiabDoorF5
namespace Go.Proofs.YtjpoifoejbabiabDoor
open Go.RowKit
set_option linter.unusedVariables false
set_option maxRecDepth 100000
theorem i64_and (n : Int) (k : Nat) (hk : k < 4096) : bits .and .i64 n k = (((n % 4096).toNat &&& k : Nat) : Int) := by
  have h1 : (BitVec.ofInt 64 (k : Int)).toNat = k := by rw [BitVec.toNat_ofInt]; omega
  have key : (BitVec.ofInt 64 n &&& BitVec.ofInt 64 (k : Int)).toNat = (n % 4096).toNat &&& k := by
    rw [BitVec.toNat_and, BitVec.toNat_ofInt, h1]
    apply Nat.eq_of_testBit_eq
    intro i
    rw [Nat.testBit_and, Nat.testBit_and]
    by_cases hi : i < 12
    · have e : (n % 4096).toNat = (n % ((2 ^ 64 : Nat) : Int)).toNat % 2 ^ 12 := by omega
      rw [e, Nat.testBit_mod_two_pow]; simp [hi]
    · have : k.testBit i = false := Nat.testBit_lt_two_pow (Nat.lt_of_lt_of_le hk (Nat.pow_le_pow_right (n := 2) (by decide) (by omega : 12 ≤ i)))
      rw [this]; simp
  show IntKind.i64.wrap ((BitVec.ofInt 64 n &&& BitVec.ofInt 64 (k : Int)).toNat : Nat) = _
  rw [key, IntKind.wrap_i64]
  have : (n % 4096).toNat &&& k ≤ k := Nat.and_le_right
  omega
/-- The three letters of a group, by its bits. -/
def grp (x : Int) (o : Bool) (c d : Int) : List Int := [lif (bt x 4) 114, lif (bt x 2) 119, if o then (if bt x 1 then c else d) else (if bt x 1 then 120 else 45)]
def strI (l : List Int) : ByteArray := ⟨(l.map fun x => x.toNat.toUInt8).toArray⟩
theorem conv3 (w : World) (a b c : Int) (h : ∀ x ∈ [a, b, c], 0 ≤ x ∧ x < 256) : (convert 49 9 (.slice (some ⟨w.heap.size, 0, none⟩) 3 3)).run Tryd.prog (w.alloc (.cells #[.int .u8 a, .int .u8 b, .int .u8 c] 5)) = .ok (.string (strI [a, b, c])) (w.alloc (.cells #[.int .u8 a, .int .u8 b, .int .u8 c] 5)) := by
  refine conv_m (w.alloc (.cells #[.int .u8 a, .int .u8 b, .int .u8 c] 5)) w.heap.size (.slice (some ⟨w.heap.size, 0, none⟩) 3 3) ([a, b, c].map fun x => x.toNat.toUInt8) ⟨rfl, .inr ⟨w.heap.size, 3, _, rfl, Nat.le_refl _, heap_alloc_new w _, Nat.le_refl _, by decide, rfl, ?_⟩⟩
  rw [bytes_of _ h]; rfl
theorem tri_byte {a b c : Int} (ha : 0 ≤ a ∧ a < 256) (hb : 0 ≤ b ∧ b < 256) (hc : 0 ≤ c ∧ c < 256) : ∀ x ∈ [a, b, c], 0 ≤ x ∧ x < 256 := by
  intro x hx; simp at hx; rcases hx with rfl | rfl | rfl
  · exact ha
  · exact hb
  · exact hc
set_option maxHeartbeats 2000000 in
theorem group_c (x : Int) (o : Bool) (c d : Int) (w : World) (hc : 0 ≤ c ∧ c < 256) (hd : 0 ≤ d ∧ d < 256) :
    Calls Tryd.prog 49 #[.int .i64 x, .bool o, .int .u8 c, .int .u8 d] w fun e w' => e = .returned (.string (strI (grp x o c d))) ∧ Below w.heap.size w w' := by
  have HC : Hid (∀ a b e : Int, (∀ x ∈ [a, b, e], 0 ≤ x ∧ x < 256) → (convert 49 9 (.slice (some ⟨w.heap.size, 0, none⟩) 3 3)).run Tryd.prog (w.alloc (.cells #[.int .u8 a, .int .u8 b, .int .u8 e] 5)) = .ok (.string (strI [a, b, e])) (w.alloc (.cells #[.int .u8 a, .int .u8 b, .int .u8 e] 5))) := fun a b e h => conv3 w a b e h
  have e4 : (bits .and .i64 x 4 != 0) = bt x 4 := rfl
  have e2 : (bits .and .i64 x 2 != 0) = bt x 2 := rfl
  have e1 : (bits .and .i64 x 1 != 0) = bt x 1 := rfl
  unfold grp
  rcases h4 : bt x 4 with _ | _ <;> rcases h2 : bt x 2 with _ | _ <;> rcases h1 : bt x 1 with _ | _ <;> rcases o with _ | _
  · rw [h4] at e4
    rw [h2] at e2
    rw [h1] at e1
    show Calls _ _ _ _ fun e w' => e = .returned (.string (strI [45, 45, 45])) ∧ _
    have hcv := HC.out 45 45 45 (tri_byte ⟨by decide, by decide⟩ ⟨by decide, by decide⟩ ⟨by decide, by decide⟩)
    clear h4 h2 h1 HC
    go_enter Tryd.func49, Tryd.ntmps49
    go_wp2
    go_ret
    exact ⟨rfl, (Below.refl _ _).alloc (Nat.le_refl _) _⟩
  · rw [h4] at e4
    rw [h2] at e2
    rw [h1] at e1
    show Calls _ _ _ _ fun e w' => e = .returned (.string (strI [45, 45, d])) ∧ _
    have hcv := HC.out 45 45 d (tri_byte ⟨by decide, by decide⟩ ⟨by decide, by decide⟩ hd)
    clear h4 h2 h1 HC
    go_enter Tryd.func49, Tryd.ntmps49
    go_wp2
    go_ret
    exact ⟨rfl, (Below.refl _ _).alloc (Nat.le_refl _) _⟩
  · rw [h4] at e4
    rw [h2] at e2
    rw [h1] at e1
    show Calls _ _ _ _ fun e w' => e = .returned (.string (strI [45, 45, 120])) ∧ _
    have hcv := HC.out 45 45 120 (tri_byte ⟨by decide, by decide⟩ ⟨by decide, by decide⟩ ⟨by decide, by decide⟩)
    clear h4 h2 h1 HC
    go_enter Tryd.func49, Tryd.ntmps49
    go_wp2
    go_ret
    exact ⟨rfl, (Below.refl _ _).alloc (Nat.le_refl _) _⟩
  · rw [h4] at e4
    rw [h2] at e2
    rw [h1] at e1
    show Calls _ _ _ _ fun e w' => e = .returned (.string (strI [45, 45, c])) ∧ _
    have hcv := HC.out 45 45 c (tri_byte ⟨by decide, by decide⟩ ⟨by decide, by decide⟩ hc)
    clear h4 h2 h1 HC
    go_enter Tryd.func49, Tryd.ntmps49
    go_wp2
    go_ret
    exact ⟨rfl, (Below.refl _ _).alloc (Nat.le_refl _) _⟩
  · rw [h4] at e4
    rw [h2] at e2
    rw [h1] at e1
    show Calls _ _ _ _ fun e w' => e = .returned (.string (strI [45, 119, 45])) ∧ _
    have hcv := HC.out 45 119 45 (tri_byte ⟨by decide, by decide⟩ ⟨by decide, by decide⟩ ⟨by decide, by decide⟩)
    clear h4 h2 h1 HC
    go_enter Tryd.func49, Tryd.ntmps49
    go_wp2
    go_ret
    exact ⟨rfl, (Below.refl _ _).alloc (Nat.le_refl _) _⟩
  · rw [h4] at e4
    rw [h2] at e2
    rw [h1] at e1
    show Calls _ _ _ _ fun e w' => e = .returned (.string (strI [45, 119, d])) ∧ _
    have hcv := HC.out 45 119 d (tri_byte ⟨by decide, by decide⟩ ⟨by decide, by decide⟩ hd)
    clear h4 h2 h1 HC
    go_enter Tryd.func49, Tryd.ntmps49
    go_wp2
    go_ret
    exact ⟨rfl, (Below.refl _ _).alloc (Nat.le_refl _) _⟩
  · rw [h4] at e4
    rw [h2] at e2
    rw [h1] at e1
    show Calls _ _ _ _ fun e w' => e = .returned (.string (strI [45, 119, 120])) ∧ _
    have hcv := HC.out 45 119 120 (tri_byte ⟨by decide, by decide⟩ ⟨by decide, by decide⟩ ⟨by decide, by decide⟩)
    clear h4 h2 h1 HC
    go_enter Tryd.func49, Tryd.ntmps49
    go_wp2
    go_ret
    exact ⟨rfl, (Below.refl _ _).alloc (Nat.le_refl _) _⟩
  · rw [h4] at e4
    rw [h2] at e2
    rw [h1] at e1
    show Calls _ _ _ _ fun e w' => e = .returned (.string (strI [45, 119, c])) ∧ _
    have hcv := HC.out 45 119 c (tri_byte ⟨by decide, by decide⟩ ⟨by decide, by decide⟩ hc)
    clear h4 h2 h1 HC
    go_enter Tryd.func49, Tryd.ntmps49
    go_wp2
    go_ret
    exact ⟨rfl, (Below.refl _ _).alloc (Nat.le_refl _) _⟩
  · rw [h4] at e4
    rw [h2] at e2
    rw [h1] at e1
    show Calls _ _ _ _ fun e w' => e = .returned (.string (strI [114, 45, 45])) ∧ _
    have hcv := HC.out 114 45 45 (tri_byte ⟨by decide, by decide⟩ ⟨by decide, by decide⟩ ⟨by decide, by decide⟩)
    clear h4 h2 h1 HC
    go_enter Tryd.func49, Tryd.ntmps49
    go_wp2
    go_ret
    exact ⟨rfl, (Below.refl _ _).alloc (Nat.le_refl _) _⟩
  · rw [h4] at e4
    rw [h2] at e2
    rw [h1] at e1
    show Calls _ _ _ _ fun e w' => e = .returned (.string (strI [114, 45, d])) ∧ _
    have hcv := HC.out 114 45 d (tri_byte ⟨by decide, by decide⟩ ⟨by decide, by decide⟩ hd)
    clear h4 h2 h1 HC
    go_enter Tryd.func49, Tryd.ntmps49
    go_wp2
    go_ret
    exact ⟨rfl, (Below.refl _ _).alloc (Nat.le_refl _) _⟩
  · rw [h4] at e4
    rw [h2] at e2
    rw [h1] at e1
    show Calls _ _ _ _ fun e w' => e = .returned (.string (strI [114, 45, 120])) ∧ _
    have hcv := HC.out 114 45 120 (tri_byte ⟨by decide, by decide⟩ ⟨by decide, by decide⟩ ⟨by decide, by decide⟩)
    clear h4 h2 h1 HC
    go_enter Tryd.func49, Tryd.ntmps49
    go_wp2
    go_ret
    exact ⟨rfl, (Below.refl _ _).alloc (Nat.le_refl _) _⟩
  · rw [h4] at e4
    rw [h2] at e2
    rw [h1] at e1
    show Calls _ _ _ _ fun e w' => e = .returned (.string (strI [114, 45, c])) ∧ _
    have hcv := HC.out 114 45 c (tri_byte ⟨by decide, by decide⟩ ⟨by decide, by decide⟩ hc)
    clear h4 h2 h1 HC
    go_enter Tryd.func49, Tryd.ntmps49
    go_wp2
    go_ret
    exact ⟨rfl, (Below.refl _ _).alloc (Nat.le_refl _) _⟩
  · rw [h4] at e4
    rw [h2] at e2
    rw [h1] at e1
    show Calls _ _ _ _ fun e w' => e = .returned (.string (strI [114, 119, 45])) ∧ _
    have hcv := HC.out 114 119 45 (tri_byte ⟨by decide, by decide⟩ ⟨by decide, by decide⟩ ⟨by decide, by decide⟩)
    clear h4 h2 h1 HC
    go_enter Tryd.func49, Tryd.ntmps49
    go_wp2
    go_ret
    exact ⟨rfl, (Below.refl _ _).alloc (Nat.le_refl _) _⟩
  · rw [h4] at e4
    rw [h2] at e2
    rw [h1] at e1
    show Calls _ _ _ _ fun e w' => e = .returned (.string (strI [114, 119, d])) ∧ _
    have hcv := HC.out 114 119 d (tri_byte ⟨by decide, by decide⟩ ⟨by decide, by decide⟩ hd)
    clear h4 h2 h1 HC
    go_enter Tryd.func49, Tryd.ntmps49
    go_wp2
    go_ret
    exact ⟨rfl, (Below.refl _ _).alloc (Nat.le_refl _) _⟩
  · rw [h4] at e4
    rw [h2] at e2
    rw [h1] at e1
    show Calls _ _ _ _ fun e w' => e = .returned (.string (strI [114, 119, 120])) ∧ _
    have hcv := HC.out 114 119 120 (tri_byte ⟨by decide, by decide⟩ ⟨by decide, by decide⟩ ⟨by decide, by decide⟩)
    clear h4 h2 h1 HC
    go_enter Tryd.func49, Tryd.ntmps49
    go_wp2
    go_ret
    exact ⟨rfl, (Below.refl _ _).alloc (Nat.le_refl _) _⟩
  · rw [h4] at e4
    rw [h2] at e2
    rw [h1] at e1
    show Calls _ _ _ _ fun e w' => e = .returned (.string (strI [114, 119, c])) ∧ _
    have hcv := HC.out 114 119 c (tri_byte ⟨by decide, by decide⟩ ⟨by decide, by decide⟩ hc)
    clear h4 h2 h1 HC
    go_enter Tryd.func49, Tryd.ntmps49
    go_wp2
    go_ret
    exact ⟨rfl, (Below.refl _ _).alloc (Nat.le_refl _) _⟩
end Go.Proofs.YtjpoifoejbabiabDoor
