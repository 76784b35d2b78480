
-- Builder's WriteByte; (index.codec).store: contracts.
import Derived.Test.YtegjklllnegghaaGreatDoorBW
import Derived.Test.YtegjklllnegghaaGreatDoorEC
import Derived.Lib.FrozenHead2
import Derived.Deep.CutRange
namespace Go.Proofs.YtegjklllnegghaaGreatDoor
open Go.ChangeShapes Go.WideShapes Go.ChangeAt Go.RowKit
set_option linter.unusedVariables false
set_option maxRecDepth 100000
set_option maxHeartbeats 2000000 in
theorem writeByte_c (B b : Nat) (bs : List UInt8) (c : UInt8) (w : World) (h : IsB B b bs w) (hlen : bs.length + 1 ≤ 140737488355328) (hBw : B ≤ w.heap.size) :
    Calls Tryz.prog 38 #[.pointer (some ⟨b, 0, none⟩), .int .u8 c.toNat] w fun e w' => e = .returned .nilIface ∧ IsB B b (bs ++ [c]) w' ∧ Below B w w' ∧ Kept b w w' := by
  obtain ⟨i0, hi, hz0, hz1, hz2⟩ := info_parts info5b
  have hll := Lib.byteCells_length bs
  obtain ⟨cs, hcs⟩ : ∃ cs, cs = Lib.byteCells bs := ⟨_, rfl⟩
  have HCS : Hid (cs = Lib.byteCells bs) := hcs
  rw [IsB, ← hcs] at h
  rw [← hcs] at hll
  rw [← hll] at hlen
  clear hcs hll
  obtain ⟨n, hn⟩ : ∃ n : Int, n = c.toNat := ⟨_, rfl⟩
  have HN : Hid (n = c.toNat) := hn
  rw [← hn]
  clear hn
  go_enter Tryz.func38, Tryz.ntmps38
  go_wp2_with (go_at_call 35; refine (copy_c B b cs _ h).mono ?_)
  rintro e w1 ⟨rfl, h1, hb1, hk1⟩
  obtain ⟨hB, v, hbk, hown, hne⟩ := h1
  have c0 : w1.cell? ⟨b, 0, none⟩ = some (.pointer (some ⟨b, 0, none⟩)) := by rw [Lib.cell_of_heap hbk]; rfl
  have c1 : w1.cell? ⟨b, 1, none⟩ = some v := by rw [Lib.cell_of_heap hbk]; rfl
  go_wp2_with (at_builtin; refine wpList_append_ownF _ rfl _ _ 63 rfl B 5 i0 (.int .u8 0) 1 1 Tryz.underlying63 hi hz0 hz1 hz2 rfl (by decide) _ _ _ rfl (hown.alloc _) ⟨w1.heap.size, 0, none⟩ 1 1 [.int .u8 n] rfl rfl ?c1 ?c2 ?c3 ?c4 ?c5 ?_)
  case c1 =>
    intro j u hj
    match j, hj with
    | 0, hj => simp at hj; subst hj; simp [Addr.add]
  case c2 => intro u hu; simp at hu; subst hu; rfl
  case c3 => unfold maxLen; omega
  case c4 => omega
  case c5 => have := hb1.size; simp; omega
  intro v' w2 hown' hgrow _
  have hlt := blk_lt hbk
  have hb2 : w2.heap[b]? = some (.cells #[.pointer (some ⟨b, 0, none⟩), v] 65 (0, 0)) := by
    rw [hgrow.block b (by simp; omega) (fun e => hne e.symm), Lib.alloc_old w1 _ b hlt]
    exact hbk
  have d0 : w2.cell? ⟨b, 0, none⟩ = some (.pointer (some ⟨b, 0, none⟩)) := by rw [Lib.cell_of_heap hb2]; rfl
  have d1 : w2.cell? ⟨b, 1, none⟩ = some v := by rw [Lib.cell_of_heap hb2]; rfl
  have f1 : w2.frozen? ⟨b, 1, none⟩ = false := Lib.frozen_of_heap hb2 1
  obtain ⟨g, cap, rfl⟩ : ∃ g cap, v' = .slice (some ⟨g, 0, none⟩) (cs.length + 1) cap := by
    rcases hown'.2 with ⟨_, h0⟩ | ⟨g, cap, cur, fz, hv, _⟩
    · omega
    · exact ⟨g, cap, hv⟩
  go_wp2
  go_ret
  refine ⟨rfl, ?_, ?_, ((hk1.alloc _).grown hgrow (Lib.ownsRowF_kind (hown.alloc _))).setCell ⟨b, 1, none⟩ rfl _⟩
  · have := Lib.BuilderAtF.put (T := 65) (e := 5) hB hb2 (bs' := cs ++ [.int .u8 n]) (by simpa using hown') (by decide)
    have e : Lib.byteCells [c] = [.int .u8 n] := by rw [HN.out]; rfl
    rw [IsB, Lib.byteCells_append, ← HCS.out, e]
    exact .inr this
  · exact ((hb1.alloc (by have := hb1.size; omega) _).grown hgrow (by have := hb1.size; simp; omega) (fun k hk => (hown.lt k hk).1)).setCell (p := ⟨b, 1, none⟩) hB _

theorem keptB {b : Nat} {a w w' : World} (h : Below a.heap.size a w) (k : Kept b w w') : Kept b a w' := by
  exact Lib.OthersKept.trans (fun i o ho _ _ => (h.block i (Array.getElem?_eq_some_iff.1 ho).1).trans ho) k
/-- a number in the bytes of the first, second, third form -/
def nb1 (v : Nat) : List UInt8 := (leBytes 4 v).reverse
def nb2 (v : Nat) : List UInt8 := (leBytes 8 v).reverse
def nb3 (v : Nat) : List UInt8 := leBytes 4 v
theorem nb1_len (v : Nat) : (nb1 v).length = 4 := by unfold nb1; rw [List.length_reverse, leBytes_length]
theorem nb2_len (v : Nat) : (nb2 v).length = 8 := by unfold nb2; rw [List.length_reverse, leBytes_length]
theorem nb3_len (v : Nat) : (nb3 v).length = 4 := by unfold nb3; rw [leBytes_length]
set_option maxHeartbeats 2000000 in
theorem cstore1_c (B b : Nat) (bs : List UInt8) (v : Nat) (w : World) (h : IsB B b bs w) (hlen : bs.length + 4 ≤ 140737488355328) (hBw : B ≤ w.heap.size) (hv : v < 4294967296) :
    Calls Tryz.prog 53 #[.agg ca1, .pointer (some ⟨b, 0, none⟩), .int .i64 v] w fun e w' => e = .returned (.tuple #[]) ∧ IsB B b (bs ++ nb1 v) w' ∧ Below B w w' ∧ Kept b w w' := by
  have R0 : (w.alloc (.cells ca1 52)).heap[w.heap.size]? = some (.cells ca1 52 (0, 0)) := heap_alloc_new w _
  have cw := cell_rowK R0 1 (.int .i64 4) rfl
  have co := cell_rowK R0 2 (.int .i64 1) rfl
  have HS : Hid (∀ w, Calls Tryz.prog 60 #[.int .u64 v, .int .i64 4, .int .i64 1] w fun e w' => e = .returned (.tuple #[.string ⟨(nb1 v).toArray⟩, .int .i64 0]) ∧ Below w.heap.size w w') := fun w => num_store_big_4 v w (by omega)
  have hz : (⟨(nb1 v).toArray⟩ : ByteArray).size = 4 := (List.size_toArray).trans (nb1_len v)
  have HD : Hid ((⟨(nb1 v).toArray⟩ : ByteArray).data.toList = nb1 v) := rfl
  generalize (⟨(nb1 v).toArray⟩ : ByteArray) = R at *
  have hB0 : Below w.heap.size w (w.alloc (.cells ca1 52)) := bupK (Below.refl _ _) _
  have HI := hidK h
  have HB0 := hidK hB0
  clear h hB0
  go_enter Tryz.func53, Tryz.ntmps53
  go_upto_region 2 with (go_at_call 60; refine (HS.out _).mono ?_; rintro e w1 ⟨rfl, b1⟩)
  have hB1 := bel3K HB0.out b1
  have I1 := isB_below HI.out hB1
  clear R0 cw co b1
  go_wp2_with (go_at_call 37; refine (writeString_c B b bs R w1 I1 (by omega) (Nat.le_trans hBw hB1.size)).mono ?_; rintro e w2 ⟨rfl, i2, b2, k2⟩)
  go_end0
  rw [HD.out] at i2
  exact ⟨rfl, i2, (hB1.mono hBw).trans b2, keptB hB1 k2⟩
set_option maxHeartbeats 2000000 in
theorem cstore2_c (B b : Nat) (bs : List UInt8) (v : Nat) (w : World) (h : IsB B b bs w) (hlen : bs.length + 8 ≤ 140737488355328) (hBw : B ≤ w.heap.size) (hv : v < 9223372036854775808) :
    Calls Tryz.prog 53 #[.agg ca2, .pointer (some ⟨b, 0, none⟩), .int .i64 v] w fun e w' => e = .returned (.tuple #[]) ∧ IsB B b (bs ++ nb2 v) w' ∧ Below B w w' ∧ Kept b w w' := by
  have R0 : (w.alloc (.cells ca2 52)).heap[w.heap.size]? = some (.cells ca2 52 (0, 0)) := heap_alloc_new w _
  have cw := cell_rowK R0 1 (.int .i64 8) rfl
  have co := cell_rowK R0 2 (.int .i64 1) rfl
  have HS : Hid (∀ w, Calls Tryz.prog 60 #[.int .u64 v, .int .i64 8, .int .i64 1] w fun e w' => e = .returned (.tuple #[.string ⟨(nb2 v).toArray⟩, .int .i64 0]) ∧ Below w.heap.size w w') := fun w => num_store_big_8 v w (by omega)
  have hz : (⟨(nb2 v).toArray⟩ : ByteArray).size = 8 := (List.size_toArray).trans (nb2_len v)
  have HD : Hid ((⟨(nb2 v).toArray⟩ : ByteArray).data.toList = nb2 v) := rfl
  generalize (⟨(nb2 v).toArray⟩ : ByteArray) = R at *
  have hB0 : Below w.heap.size w (w.alloc (.cells ca2 52)) := bupK (Below.refl _ _) _
  have HI := hidK h
  have HB0 := hidK hB0
  clear h hB0
  go_enter Tryz.func53, Tryz.ntmps53
  go_upto_region 2 with (go_at_call 60; refine (HS.out _).mono ?_; rintro e w1 ⟨rfl, b1⟩)
  have hB1 := bel3K HB0.out b1
  have I1 := isB_below HI.out hB1
  clear R0 cw co b1
  go_wp2_with (go_at_call 37; refine (writeString_c B b bs R w1 I1 (by omega) (Nat.le_trans hBw hB1.size)).mono ?_; rintro e w2 ⟨rfl, i2, b2, k2⟩)
  go_end0
  rw [HD.out] at i2
  exact ⟨rfl, i2, (hB1.mono hBw).trans b2, keptB hB1 k2⟩
set_option maxHeartbeats 2000000 in
theorem cstore3_c (B b : Nat) (bs : List UInt8) (v : Nat) (w : World) (h : IsB B b bs w) (hlen : bs.length + 4 ≤ 140737488355328) (hBw : B ≤ w.heap.size) (hv : v < 4294967296) :
    Calls Tryz.prog 53 #[.agg ca3, .pointer (some ⟨b, 0, none⟩), .int .i64 v] w fun e w' => e = .returned (.tuple #[]) ∧ IsB B b (bs ++ nb3 v) w' ∧ Below B w w' ∧ Kept b w w' := by
  have R0 : (w.alloc (.cells ca3 52)).heap[w.heap.size]? = some (.cells ca3 52 (0, 0)) := heap_alloc_new w _
  have cw := cell_rowK R0 1 (.int .i64 4) rfl
  have co := cell_rowK R0 2 (.int .i64 0) rfl
  have HS : Hid (∀ w, Calls Tryz.prog 60 #[.int .u64 v, .int .i64 4, .int .i64 0] w fun e w' => e = .returned (.tuple #[.string ⟨(nb3 v).toArray⟩, .int .i64 0]) ∧ Below w.heap.size w w') := fun w => num_store_little_4 v w (by omega)
  have hz : (⟨(nb3 v).toArray⟩ : ByteArray).size = 4 := (List.size_toArray).trans (nb3_len v)
  have HD : Hid ((⟨(nb3 v).toArray⟩ : ByteArray).data.toList = nb3 v) := rfl
  generalize (⟨(nb3 v).toArray⟩ : ByteArray) = R at *
  have hB0 : Below w.heap.size w (w.alloc (.cells ca3 52)) := bupK (Below.refl _ _) _
  have HI := hidK h
  have HB0 := hidK hB0
  clear h hB0
  go_enter Tryz.func53, Tryz.ntmps53
  go_upto_region 2 with (go_at_call 60; refine (HS.out _).mono ?_; rintro e w1 ⟨rfl, b1⟩)
  have hB1 := bel3K HB0.out b1
  have I1 := isB_below HI.out hB1
  clear R0 cw co b1
  go_wp2_with (go_at_call 37; refine (writeString_c B b bs R w1 I1 (by omega) (Nat.le_trans hBw hB1.size)).mono ?_; rintro e w2 ⟨rfl, i2, b2, k2⟩)
  go_end0
  rw [HD.out] at i2
  exact ⟨rfl, i2, (hB1.mono hBw).trans b2, keptB hB1 k2⟩
end Go.Proofs.YtegjklllnegghaaGreatDoor
