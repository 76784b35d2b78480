
-- The first four bytes of a text, copied into an array of four.
import Derived.Test.YtoikagccopglkaaDoorF2
import Derived.Test.YtoikagccopglkaaDoorE0
import Derived.Laws.CopyRow
import Derived.MapKept
namespace Go.Proofs.YtoikagccopglkaaDoor
open Go.ChangeShapes Go.WideShapes Go.ChangeAt Go.RowKit
set_option linter.unusedVariables false
set_option maxRecDepth 100000

theorem alloc_setRow (w : World) (cur xs : Array Value) (t : TypeId) : (w.alloc (.cells cur t)).setRow w.heap.size xs = w.alloc (.cells xs t) := by
  cases w with
  | mk heap tape drawn os output =>
    simp only [World.setRow, World.alloc]
    congr 1
    apply Array.ext
    · simp
    · intro k h1 h2
      simp only [Array.getElem_modify, Array.getElem_push]
      split
      · rename_i hk
        subst hk
        simp
      · rename_i hk
        split
        · rfl
        · simp at h2; omega

theorem copy_trim (w : World) (dT sT ty elem t : TypeId) (g n : Nat) (s : ByteArray) (cur : Array Value)
    (hu : Tryd.prog.underlying dT = some (.slice elem)) (hs : (Tryd.prog.info? elem).map (·.size) = some 1) (hg : w.heap[g]? = some (.cells cur t (0, 0))) (hn : cur.size = n) :
    (Builtin.copy_ #[dT, sT] ty #[.slice (some ⟨g, 0, none⟩) n n, .string s]).run Tryd.prog w =
      .ok (goInt (Nat.min s.size n)) (w.setRow g ((s.data.toList.map fun x => Value.int .u8 (x.toNat : Int)).take n ++ cur.toList.drop (Nat.min s.size n)).toArray) := by
  have hsz : s.data.toList.length = s.size := by simp
  let vs : List Value := (s.data.toList.map fun x => Value.int .u8 (x.toNat : Int)).take (Nat.min s.size n)
  have hvl : vs.length = Nat.min s.size n := by
    show (List.take _ _).length = _
    rw [List.length_take, List.length_map, hsz]
    exact Nat.min_eq_left (Nat.min_le_left _ _)
  have hone : ∀ v ∈ vs, v.oneCell' = true := by
    intro v hv
    obtain ⟨x, _, rfl⟩ := List.mem_map.1 (List.mem_of_mem_take hv)
    rfl
  have hst := run_storeCells_at Tryd.prog g 0 t vs 0 cur w hg (by rw [hvl, hn]; simpa using Nat.min_le_right _ _) hone
  have htk : vs = (s.data.toList.map fun x => Value.int .u8 (x.toNat : Int)).take n := by
    show List.take _ _ = _
    by_cases h : s.size ≤ n
    · rw [show Nat.min s.size n = s.size from Nat.min_eq_left h, List.take_of_length_le (by rw [List.length_map, hsz]; exact Nat.le_refl _), List.take_of_length_le (by rw [List.length_map, hsz]; exact h)]
    · rw [show Nat.min s.size n = n from Nat.min_eq_right (by omega)]
  simp only [Nat.add_zero, Nat.zero_add, List.take_zero, List.nil_append] at hst
  rw [hvl] at hst
  cases hq : Tryd.prog.info? elem with
  | none => simp [hq] at hs
  | some i =>
    simp [Builtin.copy_, run_underlying hu, Builtin.lenOf, Builtin.firstCells, sizeOf, typeInfo, hq]
    rw [show List.take (Nat.min s.size n) (List.map (fun b : UInt8 => Value.int IntKind.u8 (b.toNat : Int)) s.data.toList) = vs from rfl, hst, htk]
    simp [Result.andThen]

theorem take4 (b : ByteArray) (h : 16 ≤ b.size) : (b.data.toList.map fun x => Value.int .u8 (x.toNat : Int)).take 4 = [.int .u8 (byt b 0), .int .u8 (byt b 1), .int .u8 (byt b 2), .int .u8 (byt b 3)] := by
  have hl : b.data.toList.length = b.size := by simp
  apply List.ext_getElem?
  intro i
  by_cases hi : i < 4
  · rw [List.getElem?_take, if_pos hi, List.getElem?_map, List.getElem?_eq_getElem (by omega)]
    have e : ((b.data.toList[i]'(by omega)).toNat) = byt b i := by
      unfold byt
      rw [List.getD_eq_getElem?_getD, List.getElem?_eq_getElem (by omega)]
      rfl
    have hc : i = 0 ∨ i = 1 ∨ i = 2 ∨ i = 3 := by omega
    show some (Value.int IntKind.u8 (((b.data.toList[i]'(by omega)).toNat : Nat) : Int)) = _
    rw [e]
    rcases hc with rfl | rfl | rfl | rfl <;> rfl
  · rw [List.getElem?_eq_none (by rw [List.length_take]; omega), List.getElem?_eq_none (by simp; omega)]

def zeros4 : Array Value := #[.int .u8 0, .int .u8 0, .int .u8 0, .int .u8 0]
theorem copy_first (b : ByteArray) (w : World) : ∃ xs : Array Value, xs.size = 4 ∧ (16 ≤ b.size → xs = #[.int .u8 (byt b 0), .int .u8 (byt b 1), .int .u8 (byt b 2), .int .u8 (byt b 3)]) ∧
    (Builtin.copy_ #[71, 9] 3 #[.slice (some ⟨w.heap.size, 0, none⟩) 4 4, .string b]).run Tryd.prog (w.alloc (.cells #[.int .u8 0, .int .u8 0, .int .u8 0, .int .u8 0] 70)) =
      .ok (goInt (Nat.min b.size 4)) (w.alloc (.cells xs 70)) := by
  have hl : b.data.toList.length = b.size := by simp
  have hc := copy_trim (w.alloc (.cells zeros4 70)) 71 9 3 5 70 w.heap.size 4 b zeros4 Tryd.underlying71 (by kernel_rfl) (MapKept.heap_alloc w _).1 rfl
  rw [alloc_setRow] at hc
  refine ⟨_, ?_, ?_, hc⟩
  · rw [List.size_toArray, List.length_append, List.length_take, List.length_map, hl, List.length_drop]
    have : (zeros4.toList).length = 4 := rfl
    have h2 : Nat.min b.size 4 = min b.size 4 := rfl
    rw [this, h2]
    omega
  · intro h
    rw [take4 b h, show Nat.min b.size 4 = 4 from Nat.min_eq_right (by omega)]
    rfl
end Go.Proofs.YtoikagccopglkaaDoor
