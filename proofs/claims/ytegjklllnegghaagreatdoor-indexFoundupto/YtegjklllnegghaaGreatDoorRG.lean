
-- shelfref11: get, name: contracts.
import Derived.Test.YtegjklllnegghaaGreatDoorI1
import Derived.Test.YtegjklllnegghaaGreatDoorKQ
import Derived.WalkLawsBesides
import Derived.Lib.IndexBytes
namespace Go.Proofs.YtegjklllnegghaaGreatDoor
open Go.ChangeShapes Go.WideShapes Go.ChangeAt Go.RowKit
set_option linter.unusedVariables false
set_option maxRecDepth 100000
theorem beNat_snoc (l : List UInt8) (x : UInt8) : beNat (l ++ [x]) = beNat l * 256 + x.toNat := by
  unfold beNat; rw [List.reverse_append]; simp only [List.reverse_cons, List.reverse_nil, List.nil_append, List.singleton_append, leNat]; omega
theorem beW_next (b : List UInt8) (p k : Nat) (x : UInt8) (h : b[p + k]? = some x) : beW b p (k + 1) = beW b p k * 256 + x.toNat := by
  unfold beW
  rw [List.take_add_one, List.getElem?_drop, h]
  exact beNat_snoc _ _
theorem beG_lt (b : List UInt8) (p w : Nat) : beW b p w < 256 ^ w := by
  unfold beW beNat
  refine Nat.lt_of_lt_of_le (leNat_lt _) (Nat.pow_le_pow_right (by omega) ?_)
  rw [List.length_reverse]; exact List.length_take_le _ _
def lastW (b : List UInt8) (p n k : Nat) : Nat := leNat ((b.drop (p + n - k)).take k)
theorem lastW_lt (b : List UInt8) (p n k : Nat) : lastW b p n k < 256 ^ k := by
  unfold lastW
  exact Nat.lt_of_lt_of_le (leNat_lt _) (Nat.pow_le_pow_right (by omega) (List.length_take_le _ _))
theorem lastW_next (b : List UInt8) (p n k : Nat) (x : UInt8) (hk : k < n) (h : b[p + n - 1 - k]? = some x) : lastW b p n (k + 1) = lastW b p n k * 256 + x.toNat := by
  obtain ⟨h1, h2⟩ := List.getElem?_eq_some_iff.1 h
  unfold lastW
  have e : p + n - (k + 1) = p + n - 1 - k := by omega
  rw [e, List.drop_eq_getElem_cons h1, h2, show p + n - 1 - k + 1 = p + n - k by omega]
  simp only [List.take_succ_cons, leNat]; omega
theorem at_someG (s : ByteArray) (k : Nat) (h : k < s.size) : s.data.toList[k]? = some s[k] := by
  have hl : s.data.toList.length = s.size := by simp
  rw [List.getElem?_eq_getElem (by omega)]; rfl
theorem idxG (s : ByteArray) (k : Nat) (z : Int) (hz : z = (k : Int)) (h : k < s.size) : ∀ w, (Instr.index 9 (.string s) (.int .i64 z)).run Tryz.prog w = .ok (.int .u8 (s[k].toNat : Int)) w := by
  subst hz
  intro w
  rw [run_index_string w 9 s .i64 k Tryz.underlying9, dif_pos (by omega)]
  simp
def getI (v : Nat) : Int := if v ≤ mostI then v else -1
theorem int_eqG {k : IntKind} {a b : Int} (h : a = b) : Value.int k a = .int k b := by rw [h]
theorem pow_le8 (k : Nat) (h : k ≤ 7) : 256 ^ k ≤ 72057594037927936 := Nat.le_trans (Nat.pow_le_pow_right (by omega) h) (by decide)
def nmV (b : List UInt8) (p : Nat) : ByteArray := if (zAt b p).isSome = true then strL ((b.drop p).take ((zAt b p).getD 0 - p)) else ⟨#[]⟩
theorem nmV_ok {b : List UInt8} {p e : Nat} (h : nmE b p = some e) : nmV b p = nmS b p := by
  have hz : zAt b p = some e := by
    unfold nmE at h
    cases q : zAt b p with
    | none => rw [q] at h; cases h
    | some x =>
      rw [q] at h; simp only [Option.bind_some] at h
      by_cases hx : p < x
      · rw [if_pos hx] at h; exact h
      · rw [if_neg hx] at h; cases h
  unfold nmV nmS; rw [h, hz]; rfl
end Go.Proofs.YtegjklllnegghaaGreatDoor
