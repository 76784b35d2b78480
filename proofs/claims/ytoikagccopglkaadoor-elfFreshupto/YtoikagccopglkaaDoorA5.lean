
-- elf: every entry of the table: contract.
import Derived.Test.YtoikagccopglkaaDoorA2
import Derived.OwnWalk
import Derived.LoopTactic
namespace Go.Proofs.YtoikagccopglkaaDoor
open Go.ChangeShapes Go.WideShapes Go.ChangeAt Go.RowKit
set_option linter.unusedVariables false
set_option maxRecDepth 100000
theorem infoSec : (Tryd.prog.info? 48).map (fun i => (i.zero, i.size, i.bytes)) = some (some (.agg #[.int .i64 0, .int .i64 0, .int .u64 0, .int .i64 0, .int .i64 0, .int .u64 0, .int .u64 0, .int .u64 0]), 8, 64) := by kernel_rfl
theorem info_parts' {P : Program} {e : TypeId} {z : Option Value} {s b : Nat} (h : (P.info? e).map (fun i => (i.zero, i.size, i.bytes)) = some (z, s, b)) : ∃ i, P.info? e = some i ∧ i.zero = z ∧ i.size = s ∧ i.bytes = b := by
  cases hq : P.info? e with
  | none => rw [hq] at h; cases h
  | some i =>
    rw [hq] at h
    simp only [Option.map_some, Option.some.injEq, Prod.mk.injEq] at h
    exact ⟨i, rfl, h.1, h.2.1, h.2.2⟩
/-- the cells of the first n sections -/
def flat (sv : Nat → Array Value) : Nat → List Value
  | 0 => []
  | n + 1 => flat sv n ++ (sv n).toList
theorem run_storeVar_at (P : Program) (w : World) (g o : Nat) (t ty : TypeId) (cur cells : Array Value) (hg : w.heap[g]? = some (.cells cur t (0, 0))) (hn : o + cells.size ≤ cur.size)
    (hi : (P.info? ty).map (·.size) = some cells.size) (h1 : cells.all (·.oneCell') = true) :
    (storeVar ty ⟨g, o, none⟩ (.agg cells)).run P w = .ok () (w.setRow g (cur.toList.take o ++ cells.toList ++ cur.toList.drop (o + cells.size)).toArray) := by
  have h := run_storeCells_at P g o t cells.toList 0 cur w hg (by simpa using hn) (fun v hv => (Array.all_eq_true_iff_forall_mem.1 h1) v (by simpa using hv))
  simp only [Nat.add_zero, Array.length_toList] at h
  cases hq : P.info? ty with
  | none => simp [hq] at hi
  | some i =>
    have hs : cells.size = i.size := by simp [hq] at hi; omega
    rw [hs] at h
    simp [storeVar, sizeOf, typeInfo, hq, Value.cells, hs, h]
theorem wp_store_at {P : Program} {op : Oper} {a : Act} {w : World} {K : Act → World → Prop} {Q : Exit → Act → World → Prop} (ty : TypeId) (x y : Operand) (ho : op.op = .store ty x y)
    (g o : Nat) (cells : Array Value) (hx : a.eval x = .pointer (some ⟨g, o, none⟩)) (hy : a.eval y = .agg cells) (t : TypeId) (cur : Array Value)
    (hg : w.heap[g]? = some (.cells cur t (0, 0))) (hn : o + cells.size ≤ cur.size) (hi : (P.info? ty).map (·.size) = some cells.size) (h1 : cells.all (·.oneCell') = true)
    (h : K (a.put op.dst undef) (w.setRow g (cur.toList.take o ++ cells.toList ++ cur.toList.drop (o + cells.size)).toArray)) : op.wp P a w K Q := by
  unfold Oper.wp execOp
  simp only [ho, hx, hy, Instr.storeAt, Instr.sureAddr, Sem.run_bind, Sem.run_pure, Result.andThen_ok, run_storeVar_at P w g o t ty cur cells hg hn hi h1]
  exact h
theorem wpList_store_at {P : Program} {ops : Array Oper} {rest : List Oper} {op : Oper} {a : Act} {w : World} {Q : Exit → Act → World → Prop} (hgd : op.guard = none) (ty : TypeId) (x y : Operand) (ho : op.op = .store ty x y)
    (g o : Nat) (cells : Array Value) (hx : a.eval x = .pointer (some ⟨g, o, none⟩)) (hy : a.eval y = .agg cells) (t : TypeId) (cur : Array Value)
    (hg : w.heap[g]? = some (.cells cur t (0, 0))) (hn : o + cells.size ≤ cur.size) (hi : (P.info? ty).map (·.size) = some cells.size) (h1 : cells.all (·.oneCell') = true)
    (h : wpList P ops Q rest (a.put op.dst undef) (w.setRow g (cur.toList.take o ++ cells.toList ++ cur.toList.drop (o + cells.size)).toArray)) : wpList P ops Q (op :: rest) a w :=
  wpList_plain hgd fun _ hK => wp_store_at ty x y ho g o cells hx hy t cur hg hn hi h1 (hK _ _ h)
theorem flat_length (sv : Nat → Array Value) (hs : ∀ i, (sv i).size = 8) : ∀ n, (flat sv n).length = n * 8
  | 0 => rfl
  | n + 1 => by rw [flat, List.length_append, flat_length sv hs n, Array.length_toList, hs]; omega
set_option maxHeartbeats 1000000 in
theorem sections_ok (ent : ByteArray) (n k : Nat) (nm : Int) (sv : Nat → Array Value) (fc : Array Value) (w : World) (hF : w.heap[k]? = some (.cells fc 62 (0, 0))) (hn : 64 * n ≤ 281474976710656) (hs : ∀ i, (sv i).size = 8) (h1 : ∀ i, (sv i).all (·.oneCell') = true)
    (hA : ∀ (i : Nat) (w' : World), i < n → w'.heap[k]? = some (.cells fc 62 (0, 0)) → Calls Tryd.prog 23 #[.agg #[.pointer (some ⟨k, 0, none⟩), .string ent, .int .i64 n, .int .i64 nm], .int .i64 i] w' fun r w'' => r = .returned (.agg (sv i)) ∧ Below w'.heap.size w' w'') :
    Calls Tryd.prog 13 #[.agg #[.pointer (some ⟨k, 0, none⟩), .string ent, .int .i64 n, .int .i64 nm]] w fun r w' => ∃ g, r = .returned (.slice (some ⟨g, 0, none⟩) n n) ∧ w.heap.size ≤ g ∧ w'.heap[g]? = some (.cells (flat sv n).toArray 48 (0, 0)) ∧ Below w.heap.size w w' := by
  obtain ⟨i0, hi, hz0, hz1, hz2⟩ := info_parts' infoSec
  have HA := Hid.mk' hA
  clear hA
  go_enter Tryd.func13, Tryd.ntmps13
  go_wp2_with (at_make; refine wpList_make_full _ rfl _ _ 22 rfl (w.heap.size + 1) 48 i0 _ 8 Tryd.underlying22 hi hz0 hz1 .i64 .i64 _ _ n rfl rfl rfl rfl (by rw [hz2]; omega) (by unfold maxLen; omega) (by rw [size_alloc]; exact Nat.le_refl _) ?_; intro w1 hown1 hg1)
  have hb1 : Below (w.heap.size + 1) (w.alloc (.cells #[.pointer (some ⟨k, 0, none⟩), .string ent, .int .i64 n, .int .i64 nm] 36)) w1 := (Below.refl _ _).grown hg1 (by rw [size_alloc]; exact Nat.le_refl _) (fun k hk => by cases hk)
  have hk : k < w.heap.size := (Array.getElem?_eq_some_iff.1 hF).1
  have hF1 : w1.heap[k]? = some (.cells fc 62 (0, 0)) := (hb1.block k (by omega)).trans ((Below.heap_alloc w _ k hk).trans hF)
  have ht1 : w1.heap[w.heap.size]? = some (.cells #[.pointer (some ⟨k, 0, none⟩), .string ent, .int .i64 n, .int .i64 nm] 36 (0, 0)) := (hb1.block _ (by omega)).trans (heap_alloc_new w _)
  have hB1 : Below w.heap.size w w1 := (Below.alloc (Below.refl _ _) (Nat.le_refl _) _).trans (hb1.mono (Nat.le_succ _))
  obtain ⟨cur, hcur, hcsz⟩ : ∃ cur, w1.heap[w.heap.size + 1]? = some (.cells cur 48 (0, 0)) ∧ cur.size = n * 8 := by
    rcases hown1.2 with ⟨h, _⟩ | ⟨g, cap, cur, hv, _, h2, _, _, h3, _⟩
    · cases h
    · simp only [Value.slice.injEq, Option.some.injEq] at hv
      obtain ⟨hv1, _, rfl⟩ := hv
      have hg : w.heap.size + 1 = g := by have := congrArg Addr.block hv1; simpa using this
      exact ⟨cur, by rw [hg]; exact h2, h3⟩
  have hlt1 : w.heap.size + 2 ≤ w1.heap.size := by have := (Array.getElem?_eq_some_iff.1 hcur).1; omega
  have HS := Hid.mk' hs
  have H1 := Hid.mk' h1
  have HST : Hid (w1.heap[k]? = some (.cells fc 62 (0, 0)) ∧ w1.heap[w.heap.size]? = some (.cells #[.pointer (some ⟨k, 0, none⟩), .string ent, .int .i64 n, .int .i64 nm] 36 (0, 0)) ∧ w1.heap[w.heap.size + 1]? = some (.cells cur 48 (0, 0)) ∧ cur.size = n * 8 ∧ Below w.heap.size w w1 ∧ w.heap.size + 2 ≤ w1.heap.size) := ⟨hF1, ht1, hcur, hcsz, hB1, hlt1⟩
  clear hown1 hg1 hb1 hF hF1 ht1 hB1 hcur hcsz hlt1 hs h1 hi hz0 hz1 hz2
  go_loopw [10] (fun i wx => ∃ (j : Nat) (cu : Array Value), j ≤ n ∧ i = .int .i64 j ∧ wx.heap[k]? = some (.cells fc 62 (0, 0)) ∧ wx.heap[w.heap.size]? = some (.cells #[.pointer (some ⟨k, 0, none⟩), .string ent, .int .i64 n, .int .i64 nm] 36 (0, 0)) ∧ wx.heap[w.heap.size + 1]? = some (.cells cu 48 (0, 0)) ∧ cu.size = n * 8 ∧ cu.toList.take (j * 8) = flat sv j ∧ Below w.heap.size w wx ∧ w.heap.size + 2 ≤ wx.heap.size) (fun i _ => n - (intOf i).toNat)
  case atStart => exact ⟨0, cur, Nat.zero_le _, rfl, HST.out.1, HST.out.2.1, HST.out.2.2.1, HST.out.2.2.2.1, rfl, HST.out.2.2.2.2.1, HST.out.2.2.2.2.2⟩
  case round =>
    obtain ⟨j, cu, hj, rfl, hF, ht, hl, hc, htk, hB, hlt⟩ := hrel
    by_cases hjn : j < n
    · have hjI : (j : Int) < (n : Int) := by omega
      have hj0 : (0 : Int) ≤ (j : Int) := by omega
      have HTK := Hid.mk' htk
      have HC := Hid.mk' hc
      clear htk hc
      go_wp2_with (first
        | (refine wpList_load_row rfl _ _ rfl w.heap.size rfl _ _ _ _ ht Tryd.underlying36 rfl (by kernel_rfl) ?_)
        | (go_at_call 23; refine (HA.out j _ hjn hF).mono ?_; rintro r w2 ⟨rfl, hb2⟩; have hF2 := (hb2.block k (by omega)).trans hF; have ht2 := (hb2.block w.heap.size (by omega)).trans ht; have hl2 := (hb2.block (w.heap.size + 1) (by omega)).trans hl)
        | (refine wpList_store_at rfl _ _ _ rfl (w.heap.size + 1) (j * 8) (sv j) rfl rfl _ _ hl2 (by rw [HS.out, HC.out]; omega) (by rw [HS.out]; kernel_rfl) (H1.out j) ?_))
      go_roundw
      case rel =>
        have hsv := HS.out j
        have hcc := HC.out
        have hcl : cu.toList.length = n * 8 := by rw [Array.length_toList, hcc]
        have hvl : (sv j).toList.length = 8 := by rw [Array.length_toList, hsv]
        have hB2 : Below w.heap.size w w2 := hB.trans (hb2.mono (by omega))
        refine ⟨j + 1, _, by omega, by go_num, (setRow_other _ _ _ _ (by omega)).trans hF2, (setRow_other _ _ _ _ (by omega)).trans ht2, setRow_heap _ _ _ _ _ _ hl2, ?_, ?_, below_setRow hB2 (by omega) _, by rw [size_setRow]; have := hb2.size; omega⟩
        · rw [List.size_toArray]
          simp only [List.length_append, List.length_take, List.length_drop, hvl, hcl, hsv]
          omega
        · have e1 : (cu.toList.take (j * 8) ++ (sv j).toList).length = (j + 1) * 8 := by rw [List.length_append, List.length_take, hvl, hcl]; omega
          rw [List.toList_toArray]
          try rw [← List.append_assoc]
          rw [List.take_append_of_le_length (by rw [e1]; exact Nat.le_refl _), List.take_of_length_le (by rw [e1]; exact Nat.le_refl _), HTK.out]
          rfl
      case measure => simp [intOf]; omega
    · obtain rfl : j = n := by omega
      go_wp2
      go_ret
      refine ⟨_, rfl, Nat.le_succ _, ?_, hB⟩
      rw [hl, ← htk, List.take_of_length_le (by rw [Array.length_toList, hc]; exact Nat.le_refl _), Array.toArray_toList]
end Go.Proofs.YtoikagccopglkaaDoor
