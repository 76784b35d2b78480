
-- index: lengths, Size: contracts.
import Derived.Test.YtegjklllnegghaaGreatDoorC3
namespace Go.Proofs.YtegjklllnegghaaGreatDoor
open Go.ChangeShapes Go.WideShapes Go.ChangeAt Go.RowKit
set_option linter.unusedVariables false
set_option maxRecDepth 100000
theorem rowLen1_c (n t : Nat) (w : World) (h1 : n < 1099511627776) (h2 : t < 1099511627776) :
    Calls Tryz.prog 42 #[.agg ca1, .agg #[.int .i64 n, .int .i64 t]] w fun e w' => e = .returned (.int .i64 (headN 1 n + t : Nat)) ∧ Below w.heap.size w w' := by
  have HE : Hid (headN 1 n + t = 4 * (1 + n) + t) := by show _ = _; unfold headN; simp; omega
  unfold ca1
  go_enter Tryz.func42, Tryz.ntmps42
  go_wp2
  go_ret
  exact ⟨by rw [HE.out]; simp, bupK (bupK (Below.refl _ _) _) _⟩
theorem rowLen2_c (n t : Nat) (w : World) (h1 : n < 1099511627776) (h2 : t < 1099511627776) :
    Calls Tryz.prog 42 #[.agg ca2, .agg #[.int .i64 n, .int .i64 t]] w fun e w' => e = .returned (.int .i64 (headN 2 n + t : Nat)) ∧ Below w.heap.size w w' := by
  have HE : Hid (headN 2 n + t = 8 * (1 + n) + t) := by show _ = _; unfold headN; simp; omega
  unfold ca2
  go_enter Tryz.func42, Tryz.ntmps42
  go_wp2
  go_ret
  exact ⟨by rw [HE.out]; simp, bupK (bupK (Below.refl _ _) _) _⟩
theorem pairsLen_c (n t : Nat) (w : World) (h1 : n < 1099511627776) (h2 : t < 1099511627776) :
    Calls Tryz.prog 46 #[.agg ca3, .agg #[.int .i64 n, .int .i64 t]] w fun e w' => e = .returned (.int .i64 (headN 3 n + t : Nat)) ∧ Below w.heap.size w w' := by
  have HE : Hid (headN 3 n + t = 4 * (2 + 2 * n) + t) := by show _ = _; unfold headN; simp; omega
  unfold ca3
  go_enter Tryz.func46, Tryz.ntmps46
  go_wp2
  go_ret
  exact ⟨by rw [HE.out]; simp, bupK (bupK (Below.refl _ _) _) _⟩
theorem RowS.on {w w' : World} {v : Value} {l : List ByteArray} (h : RowS w v l) (hb : Below w.heap.size w w') : RowS w' v l := by
  rcases h with h | ⟨b, off, cap, rfl, hc⟩
  · exact .inl h
  · exact .inr ⟨b, off, cap, rfl, fun j hj => (hb.cell (p := ⟨b, off + j, none⟩) (World.block_lt_of_cell? _ _ (hc j hj))).trans (hc j hj)⟩
theorem sizeA_no {f : Int} (L : List ByteArray) (h : ¬ known f) : sizeA f L = (0, 101) := by unfold sizeA; rw [if_pos h]
theorem sizeA_bad {f : Int} {L : List ByteArray} (h : known f) (hg : goodAll L = false) : sizeA f L = (0, 80) := by unfold sizeA; rw [if_neg (fun q => q h), hg]; rfl
theorem sizeA_ok {f : Int} {L : List ByteArray} (h : known f) (hg : goodAll L = true) : sizeA f L = (((headN f L.length + evenN (totN L) : Nat) : Int), (0 : Int)) := by unfold sizeA; rw [if_neg (fun q => q h), if_pos hg]
theorem zrow_cod (w : World) : (w.alloc (.cells ca0 52)).heap[w.heap.size]? = some (.cells ca0 52 (0, 0)) := heap_alloc_new w _
end Go.Proofs.YtegjklllnegghaaGreatDoor
