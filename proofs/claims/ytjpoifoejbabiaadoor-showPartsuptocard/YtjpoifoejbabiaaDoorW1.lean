
import Derived.Test.YtjpoifoejbabiaaDoorRows
import Derived.Test.YtjpoifoejbabiaaDoorWords
import Derived.WalkKit
import Derived.ProofKit
import Derived.WalkLawsBesides
import Derived.Lib.IndexBytes
import Derived.Handy
import Derived.BigQuiet
import Derived.Deep.RegionWith
namespace Go.Proofs.YtjpoifoejbabiaaDoor
open Go.RowKit
set_option linter.unusedVariables false
set_option maxRecDepth 100000
theorem idx (s : ByteArray) (k : Nat) (h : k < s.size) : ∀ w, (Instr.index 9 (.string s) (.int .i64 (k : Int))).run Tryd.prog w = .ok (.int .u8 (s[k].toNat : Int)) w := by
  intro w
  rw [run_index_string w 9 s .i64 k Tryd.underlying9, dif_pos (by omega)]
  simp
theorem beqI (n k : Nat) : ((n : Int) == (k : Int)) = decide (n = k) := by
  by_cases h : n = k
  · subst h; simp
  · have h2 : ¬ (n : Int) = (k : Int) := by omega
    simp [h]; omega
def hexI (c : Nat) : Int := match hexV (UInt8.ofNat c) with | some n => n | none => -1
def hexTab : ByteArray := ⟨#[48, 49, 50, 51, 52, 53, 54, 55, 56, 57, 97, 98, 99, 100, 101, 102]⟩
theorem hexI_low (c : Nat) (hc : c < 256) (h : ¬ (65 ≤ c ∧ c ≤ 70)) : firstIdx hexTab c.toUInt8 = hexI c := by
  have : ∀ k : Fin 256, ¬ (65 ≤ k.val ∧ k.val ≤ 70) → firstIdx hexTab k.val.toUInt8 = hexI k.val := by decide +kernel
  exact this ⟨c, hc⟩ h
theorem hexI_cap (c : Nat) (h : 65 ≤ c ∧ c ≤ 70) : firstIdx hexTab (c + 32).toUInt8 = hexI c := by
  have : ∀ k : Fin 256, (65 ≤ k.val ∧ k.val ≤ 70) → firstIdx hexTab (k.val + 32).toUInt8 = hexI k.val := by decide +kernel
  exact this ⟨c, by omega⟩ h
theorem hexI_range (c : Nat) (hc : c < 256) : -1 ≤ hexI c ∧ hexI c < 16 := by
  have : ∀ k : Fin 256, -1 ≤ hexI k.val ∧ hexI k.val < 16 := by decide +kernel
  exact this ⟨c, hc⟩
theorem size_list (s : ByteArray) : s.size = s.data.toList.length := by simp
theorem at_list {s : ByteArray} {l : List UInt8} (h : s.data.toList = l) (k : Nat) (hk : k < s.size) : s[k] = l.getD k 0 := by
  subst h
  have hl : s.data.toList.length = s.size := by simp
  simp [List.getD, List.getElem?_eq_getElem (show k < s.data.toList.length by omega)]
  rfl
theorem below_drewN {n : Nat} {a b : World} (h : Below n a b) (k : Nat) : Below n a (b.drewN k) := by
  induction k with
  | zero => exact h
  | succ k ih => exact ih.drew
theorem or_hex (va vb : Int) (h1 : 0 ≤ va) (h2 : va < 16) (h3 : 0 ≤ vb) (h4 : vb < 16) : bits BinOp.or IntKind.i64 (va * 16) vb % 256 = 16 * va + vb := by
  have : ∀ x y : Fin 16, bits BinOp.or IntKind.i64 ((x.val : Int) * 16) (y.val : Int) % 256 = 16 * (x.val : Int) + (y.val : Int) := by decide +kernel
  have k := this ⟨va.toNat, by omega⟩ ⟨vb.toNat, by omega⟩
  simp only [] at k
  rwa [show ((va.toNat : Nat) : Int) = va by omega, show ((vb.toNat : Nat) : Int) = vb by omega] at k
end Go.Proofs.YtjpoifoejbabiaaDoor
