
-- A byte's text; strings with one byte changed.
import Derived.Test.YtbkfkanknfdelabDoorZ0
namespace Go.Proofs.YtbkfkanknfdelabDoor
open Go.ChangeShapes Go.WideShapes Go.ChangeAt Go.RowKit
set_option linter.unusedVariables false
set_option maxRecDepth 100000

def byteOf (c : Int) : UInt8 := UInt8.ofNat (c % 256).toNat
theorem byteOf_nat (c : Int) : ((byteOf c).toNat : Int) = c % 256 := by
  unfold byteOf
  have h0 : 0 ≤ c % 256 := by omega
  have h1 : c % 256 < 256 := by omega
  simp
  omega
theorem convD (w : World) (c : Int) : (convert 30 9 (.slice (some ⟨w.heap.size, 0, none⟩) 1 1)).run Tryd.prog ((w.alloc (.cells #[.int .u8 (c % 256)] 5)).drew) = .ok (.string (strL [byteOf c])) ((w.alloc (.cells #[.int .u8 (c % 256)] 5)).drew) := by
  refine run_convert_bytes_back ((w.alloc (.cells #[.int .u8 (c % 256)] 5)).drew) 30 9 5 ⟨w.heap.size, 0, none⟩ 1 [byteOf c] Tryd.underlying30 Tryd.underlying5 Tryd.underlying9 (fun j hj => ?_)
  obtain rfl : j = 0 := by simp at hj; omega
  have ea : (⟨w.heap.size, 0, none⟩ : Addr).add 0 = ⟨w.heap.size, 0, none⟩ := by simp [Addr.add]
  rw [ea]
  show (w.alloc (.cells #[.int .u8 (c % 256)] 5)).cell? ⟨w.heap.size, 0, none⟩ = _
  rw [World.cell?_alloc_at _ 5 w.heap.size 0 rfl]
  show some (Value.int .u8 (c % 256)) = some (Value.int .u8 ((byteOf c).toNat : Int))
  rw [byteOf_nat]
theorem slice_to (s : ByteArray) (k : Nat) (h : k ≤ s.size) : ∀ w, (Instr.slice 9 (.string s) none (some (.int .i64 (k : Int))) none).run Tryd.prog w = .ok (.string (strL (s.data.toList.take k))) w := by
  intro w
  rw [run_slice_string_to_if w 9 s .i64 k Tryd.underlying9, if_pos (by omega), Int.toNat_natCast, Lib.extract_upto]; rfl
theorem slice_from (s : ByteArray) (k : Nat) (h : k + 1 ≤ s.size) : ∀ w, (Instr.slice 9 (.string s) (some (.int .i64 ((k : Int) + 1))) none none).run Tryd.prog w = .ok (.string (strL (s.data.toList.drop (k + 1)))) w := by
  intro w
  rw [run_slice_string_from_if w 9 s .i64 _ Tryd.underlying9, if_pos (by omega), show ((k : Int) + 1).toNat = k + 1 from by omega, Lib.extract_from]; rfl
theorem set_str (l : List UInt8) (k : Nat) (c : UInt8) (h : k < l.length) : strL (l.take k) ++ strL [c] ++ strL (l.drop (k + 1)) = strL (l.set k c) := by
  rw [strL_append, strL_append, List.set_eq_take_append_cons_drop, if_pos h, List.append_assoc]; rfl
end Go.Proofs.YtbkfkanknfdelabDoor
