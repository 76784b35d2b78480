
-- The document's own text of a date.
import Derived.Test.YtjpoifoejbabiaaDoorDateB
namespace Go.Proofs.YtjpoifoejbabiaaDoor
open Go.RowKit
set_option linter.unusedVariables false
set_option maxRecDepth 100000
def namesB : ByteArray := ⟨#[74, 97, 110, 70, 101, 98, 77, 97, 114, 65, 112, 114, 77, 97, 121, 74, 117, 110, 74, 117, 108, 65, 117, 103, 83, 101, 112, 79, 99, 116, 78, 111, 118, 68, 101, 99]⟩
theorem names_at (k : Nat) (h : k < 12) : namesB.extract (3 * k) (3 * k + 3) = mName k := by
  have : ∀ k : Fin 12, namesB.extract (3 * k.val) (3 * k.val + 3) = mName k.val := by decide
  exact this ⟨k, h⟩
theorem itoa_one (n : Nat) (h : n < 10) (w : World) : Calls Tryd.prog 25 #[.int .i64 n] w fun e w' => e = .returned (.string (oneB n)) ∧ w' = w := by
  have := Tryd.strconv_Itoa_small n (by omega) w
  rw [dec_one n h] at this; exact this
theorem itoa_any (n : Int) (h0 : 0 ≤ n) (h1 : n ≤ 9223372036854775807) (w : World) (htab : Lib.TabIs Tryd.prog w "internal/strconv.uint64pow10" .u64 Lib.pow10Tab) :
    Calls Tryd.prog 25 #[.int .i64 n] w fun e w' => e = .returned (.string (yearB n)) ∧ Below w.heap.size w w' :=
  (Tryd.strconv_Itoa n (by omega) h1 w htab).mono fun e w' ⟨he, k, os, hw⟩ => ⟨he, by rw [hw]; exact below_grown w k os⟩
theorem day_one (d : Nat) (h : d < 10) : (⟨#[32]⟩ : ByteArray) ++ oneB d = dayB d := by
  unfold dayB; rw [if_pos h]
  show strB [32] ++ oneB d = _
  unfold oneB; rw [strB_app]; rfl
theorem day_two (d : Nat) (h : 10 ≤ d) : twoB d = dayB d := by unfold dayB; rw [if_neg (by omega)]
end Go.Proofs.YtjpoifoejbabiaaDoor
