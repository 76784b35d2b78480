
-- Strings made of lists, contracts.
import Derived.Test.YtnfplepaejjmfaaGreatDoorRead
namespace Go.Proofs.YtnfplepaejjmfaaGreatDoor.Rd
open Go.ChangeShapes Go.WideShapes Go.ChangeAt Go.RowKit
set_option linter.unusedVariables false
set_option maxRecDepth 100000

def strOf (l : List UInt8) : ByteArray := ⟨l.toArray⟩
theorem strOf_size (l : List UInt8) : (strOf l).size = l.length := by simp [strOf, ByteArray.size]
theorem strOf_data (l : List UInt8) : (strOf l).data.toList = l := by simp [strOf]
theorem strOf_append (a b : List UInt8) : strOf a ++ strOf b = strOf (a ++ b) := by
  apply ByteArray.ext; simp [strOf]
theorem strOf_of (s : ByteArray) : strOf s.data.toList = s := by
  apply ByteArray.ext; simp [strOf]
theorem str_eq_of {a b : ByteArray} (h : a = b) : Value.string a = .string b := by rw [h]
theorem ext_one (s : ByteArray) (k : Nat) (h : k < s.size) : s.extract k (k + 1) = strOf [s[k]] := by
  have hl : s.data.toList.length = s.size := by simp
  rw [Lib.extract_eq]
  have e : (s.data.toList.drop k).take (k + 1 - k) = [s[k]] := by
    rw [List.drop_eq_getElem_cons (by omega), show k + 1 - k = 1 from by omega]; rfl
  rw [e]; rfl
theorem slice1 (s : ByteArray) (k : Nat) (h : k < s.size) : ∀ w, (Instr.slice 9 (.string s) (some (.int .i64 (k : Int))) (some (.int .i64 ((k : Int) + 1))) none).run Tryz.prog w = .ok (.string (strOf [s[k]])) w := by
  intro w
  rw [run_slice_string w 9 s .i64 .i64 k (k + 1) Tryz.underlying9 (by omega) (by omega) (by omega)]
  have e : ((k : Int) + 1).toNat = k + 1 := by omega
  rw [Int.toNat_natCast, e, ext_one s k h]
theorem conv1 (w : World) (n : Int) (h0 : 0 ≤ n) (h1 : n < 256) : (convert 129 9 (.slice (some ⟨w.heap.size, 0, none⟩) 1 1)).run Tryz.prog (w.alloc (.cells #[.int .u8 n] 5)) = .ok (.string (strOf [UInt8.ofNat n.toNat])) (w.alloc (.cells #[.int .u8 n] 5)) := by
  refine run_convert_bytes_back (w.alloc (.cells #[.int .u8 n] 5)) 129 9 5 ⟨w.heap.size, 0, none⟩ 1 [UInt8.ofNat n.toNat] Tryz.underlying129 Tryz.underlying5 Tryz.underlying9 (fun j hj => ?_)
  obtain rfl : j = 0 := by simp at hj; omega
  have ea : (⟨w.heap.size, 0, none⟩ : Addr).add 0 = ⟨w.heap.size, 0, none⟩ := by simp [Addr.add]
  rw [ea, World.cell?_alloc_at _ 5 w.heap.size 0 rfl]
  simp
  have : (n.toNat % 256 : Nat) = n.toNat := by omega
  omega

end Go.Proofs.YtnfplepaejjmfaaGreatDoor.Rd
