
-- head.join: a contract.
import Derived.Test.YtbkfkanknfdelabDoorX3
import Derived.Laws.CopyRow
import Derived.Laws.CopyOwn
import Derived.Deep.RegionLaw
namespace Go.Proofs.YtbkfkanknfdelabDoor
open Go.ChangeShapes Go.WideShapes Go.ChangeAt Go.RowKit
set_option linter.unusedVariables false
set_option maxRecDepth 100000

/-- bytes as they lie in memory -/
def bV (l : List UInt8) : List Value := l.map fun x => Value.int .u8 (x.toNat : Int)
theorem bV_len (l : List UInt8) : (bV l).length = l.length := List.length_map _
theorem bV_app (a b : List UInt8) : bV (a ++ b) = bV a ++ bV b := List.map_append
theorem bV_one (l : List UInt8) : ∀ v ∈ bV l, v.oneCell' = true := fun v hv => by
  obtain ⟨x, _, rfl⟩ := List.mem_map.1 hv; rfl
/-- a field in its columns: blanks behind -/
def fill (f : ByteArray) (n : Nat) : List UInt8 := f.data.toList ++ List.replicate (n - f.size) 32
theorem fill_len (f : ByteArray) (n : Nat) (h : f.size ≤ n) : (fill f n).length = n := by
  unfold fill; rw [List.length_append, List.length_replicate]; simp; omega
theorem copy_at (w : World) (dT sT ty elem t : TypeId) (g o n cap : Nat) (s : ByteArray) (cur : Array Value)
    (hu : Tryd.prog.underlying dT = some (.slice elem)) (hs : (Tryd.prog.info? elem).map (·.size) = some 1) (hg : w.heap[g]? = some (.cells cur t (0, 0))) (hn : o + n ≤ cur.size) (hsn : s.size ≤ n) :
    (Builtin.copy_ #[dT, sT] ty #[.slice (some ⟨g, o, none⟩) n cap, .string s]).run Tryd.prog w =
      .ok (goInt s.size) (w.setRow g (cur.toList.take o ++ (bV s.data.toList ++ cur.toList.drop (o + s.size))).toArray) := by
  have hsz : s.data.toList.length = s.size := by simp
  have hst := run_storeCells_at (P := Tryd.prog) g o t (bV s.data.toList) 0 cur w hg (by rw [bV_len, hsz]; omega) (bV_one _)
  simp only [Nat.add_zero] at hst
  rw [bV_len, hsz] at hst
  have hmin : Nat.min s.size n = s.size := Nat.min_eq_left hsn
  cases hq : Tryd.prog.info? elem with
  | none => simp [hq] at hs
  | some i =>
    simp [Builtin.copy_, run_underlying hu, Builtin.lenOf, Builtin.firstCells, sizeOf, typeInfo, hq]
    rw [hmin]
    rw [show List.take s.size (List.map (fun b : UInt8 => Value.int IntKind.u8 (b.toNat : Int)) s.data.toList) = bV s.data.toList from List.take_of_length_le (by rw [List.length_map, hsz]; exact Nat.le_refl _)]
    rw [hst, List.append_assoc]
    simp [Result.andThen]
def cpy (cur : Array Value) (off : Nat) (f : ByteArray) : Array Value := (cur.toList.take off ++ (bV f.data.toList ++ cur.toList.drop (off + f.size))).toArray
theorem step_copy_str {ops : Array Oper} {o : Oper} {a : Act} {w : World} {K : Act → World → Prop} {Q : Exit → Act → World → Prop} {E : Prop} (hgd : o.guard = none) (d s : Operand) (dT sT : TypeId)
    (ho : o.op = .call { callee := .builtin .copy, args := #[d, s], argTypes := #[dT, sT] }) (elem : TypeId) (hu : Tryd.prog.underlying dT = some (.slice elem)) (hsz : (Tryd.prog.info? elem).map (·.size) = some 1)
    (g off dLen dCap : Nat) (f : ByteArray) (hd : a.eval d = .slice (some ⟨g, off, none⟩) dLen dCap) (hs : a.eval s = .string f) (t : TypeId) (cur : Array Value)
    (hg : w.heap[g]? = some (.cells cur t (0, 0))) (hn : off + dLen ≤ cur.size) (hf : f.size ≤ dLen)
    (h : K (a.put o.dst (goInt f.size)) (w.setRow g (cpy cur off f))) :
    if Region.wanted o (yielded ops a.tmps) = true then Oper.wp Tryd.prog o a w K Q else E := by
  have hw : Region.wanted o (yielded ops a.tmps) = true := by simp [Region.wanted, hgd]
  rw [if_pos hw]
  have hrun := copy_at w dT sT o.type elem t g off dLen dCap f cur hu hsz hg hn hf
  rw [show (cur.toList.take off ++ (bV f.data.toList ++ cur.toList.drop (off + f.size))).toArray = cpy cur off f from rfl] at hrun
  unfold Oper.wp
  simp [execOp, ho, resolve, invoke, builtin, hd, hs, hrun, Result.andThen]
  exact h
theorem next_row (P : List UInt8) (f : ByteArray) (o n r : Nat) (hP : P.length = o) (hf : f.size ≤ n) (hr : n ≤ r) :
    cpy (bV (P ++ List.replicate r 32)).toArray o f = (bV (P ++ fill f n ++ List.replicate (r - n) 32)).toArray := by
  unfold cpy
  rw [List.toList_toArray, bV_app, ← hP, ← bV_len P, List.take_left, List.drop_append, List.drop_eq_nil_of_le (by omega), List.nil_append]
  rw [show (bV P).length + f.size - (bV P).length = f.size from by omega]
  congr 1
  rw [bV_app, bV_app]
  unfold fill
  rw [bV_app, List.append_assoc, List.append_assoc]
  congr 2
  rw [← bV_app, List.replicate_append_replicate]
  unfold bV
  rw [← List.map_drop, List.drop_replicate]
  rw [show r - f.size = n - f.size + (r - n) from by omega]
def Cbl (C : Array Value) (k : Nat) : Prop := C.size = 60 ∧ ∀ j, j < k → C[j]? = some (.int .u8 32)
theorem Cbl.next {C : Array Value} {k : Nat} (h : Cbl C k) (hk : k < 60) : Cbl (C.setIfInBounds k (.int .u8 32)) (k + 1) := by
  refine ⟨by rw [Array.size_setIfInBounds]; exact h.1, fun j hj => ?_⟩
  by_cases e : j = k
  · subst e; exact Array.getElem?_setIfInBounds_self_of_lt (by rw [h.1]; exact hk)
  · rw [Array.getElem?_setIfInBounds_ne (by omega)]; exact h.2 j (by omega)
theorem Cbl.all {C : Array Value} (h : Cbl C 60) : C = (bV (List.replicate 60 32)).toArray := by
  apply Array.ext_getElem?
  intro i
  by_cases hi : i < 60
  · rw [h.2 i hi]
    unfold bV
    rw [List.map_replicate, List.getElem?_toArray, List.getElem?_replicate, if_pos hi]; rfl
  · rw [Array.getElem?_eq_none (by rw [h.1]; omega), Array.getElem?_eq_none (by rw [List.size_toArray, bV_len, List.length_replicate]; omega)]
def jnP (f0 f1 f2 f3 f4 f5 f6 : ByteArray) : Nat → List UInt8
  | 0 => ([] : List UInt8)
  | 1 => ([] : List UInt8) ++ fill f0 16
  | 2 => ([] : List UInt8) ++ fill f0 16 ++ fill f1 12
  | 3 => ([] : List UInt8) ++ fill f0 16 ++ fill f1 12 ++ fill f2 6
  | 4 => ([] : List UInt8) ++ fill f0 16 ++ fill f1 12 ++ fill f2 6 ++ fill f3 6
  | 5 => ([] : List UInt8) ++ fill f0 16 ++ fill f1 12 ++ fill f2 6 ++ fill f3 6 ++ fill f4 8
  | 6 => ([] : List UInt8) ++ fill f0 16 ++ fill f1 12 ++ fill f2 6 ++ fill f3 6 ++ fill f4 8 ++ fill f5 10
  | _ => ([] : List UInt8) ++ fill f0 16 ++ fill f1 12 ++ fill f2 6 ++ fill f3 6 ++ fill f4 8 ++ fill f5 10 ++ fill f6 2
def colAt : Nat → Nat
  | 0 => 0
  | 1 => 16
  | 2 => 28
  | 3 => 34
  | 4 => 40
  | 5 => 48
  | 6 => 58
  | _ => 60
theorem jnP_len (f0 f1 f2 f3 f4 f5 f6 : ByteArray) (z0 : f0.size ≤ 16) (z1 : f1.size ≤ 12) (z2 : f2.size ≤ 6) (z3 : f3.size ≤ 6) (z4 : f4.size ≤ 8) (z5 : f5.size ≤ 10) (z6 : f6.size ≤ 2) (k : Nat) (hk : k ≤ 7) : (jnP f0 f1 f2 f3 f4 f5 f6 k).length = colAt k := by
  have g0 := fill_len f0 16 z0
  have g1 := fill_len f1 12 z1
  have g2 := fill_len f2 6 z2
  have g3 := fill_len f3 6 z3
  have g4 := fill_len f4 8 z4
  have g5 := fill_len f5 10 z5
  have g6 := fill_len f6 2 z6
  have hc : k = 0 ∨ k = 1 ∨ k = 2 ∨ k = 3 ∨ k = 4 ∨ k = 5 ∨ k = 6 ∨ k = 7 := by omega
  rcases hc with rfl | rfl | rfl | rfl | rfl | rfl | rfl | rfl <;> simp only [jnP, colAt, List.length_append, List.length_nil, g0, g1, g2, g3, g4, g5, g6]
theorem hid_of {p : Prop} (h : p) : Hid p := h
theorem len60 : Tryd.prog.arrayLen 53 = 60 := by kernel_rfl
theorem und60 : Tryd.prog.underlying 53 = some (.array (Tryd.prog.arrayLen 53) (Tryd.prog.elem 53)) := by kernel_rfl
theorem elem60 : ∀ w, (sizeOf (Tryd.prog.elem 53)).run Tryd.prog w = .ok 1 w := fun _ => by kernel_rfl
theorem slice60 (a n b : Nat) (h : a + n ≤ 60) (hn : 0 < n) : ∀ w, (Instr.sliceAt 53 (.pointer (some ⟨b, 0, none⟩)) (some (.int .i64 (a : Int))) (some (.int .i64 ((a + n : Nat) : Int))) none).run Tryd.prog w = .ok (.slice (some ⟨b, a, none⟩) n (60 - a)) w := by
  intro w
  rw [run_sliceAt_array_lh w 53 ⟨b, 0, none⟩ und60 .i64 .i64 a ((a + n : Nat) : Int) (by omega) (by omega) (by rw [len60]; omega), elem60, len60]
  simp only [Result.andThen_ok, Int.toNat_natCast, slicedAt]
  have hadd : (⟨b, 0, none⟩ : Addr).add (a * 1) = ⟨b, a, none⟩ := by rw [Nat.mul_one]; unfold Addr.add; split <;> simp_all
  rw [if_neg (by omega), hadd, show a + n - a = n from by omega]
theorem slice60_all (b : Nat) : ∀ w, (Instr.sliceAt 53 (.pointer (some ⟨b, 0, none⟩)) none none none).run Tryd.prog w = .ok (.slice (some ⟨b, 0, none⟩) 60 60) w := by
  intro w
  rw [run_sliceAt_array_all w 53 ⟨b, 0, none⟩ und60, elem60, len60]
  rfl
theorem conv60 (w : World) (b : Nat) (L : List UInt8) (hl : L.length = 60) (h : w.heap[b]? = some (.cells (bV L).toArray 53 (0, 0))) :
    (convert 30 9 (.slice (some ⟨b, 0, none⟩) 60 60)).run Tryd.prog w = .ok (.string (strL L)) w := by
  rw [← hl]
  refine run_convert_bytes_back w 30 9 5 ⟨b, 0, none⟩ L.length L Tryd.underlying30 Tryd.underlying5 Tryd.underlying9 (fun j hj => ?_)
  have ea : (⟨b, 0, none⟩ : Addr).add j = ⟨b, j, none⟩ := by cases j <;> simp [Addr.add]
  rw [ea, cell_of_row _ _ j _ _ _ h]
  rw [List.getElem?_toArray]
  unfold bV
  rw [List.getElem?_map, List.getElem?_eq_getElem hj]; rfl
theorem zero60 : ∀ w, (zeroValue 53).run Tryd.prog w = .ok (.agg (Array.replicate 60 (.int .u8 0))) w := fun _ => by kernel_rfl
set_option maxHeartbeats 4000000 in
theorem join_c (f0 f1 f2 f3 f4 f5 f6 : ByteArray) (w : World) (hC : Cols w) (z0 : f0.size ≤ 16) (z1 : f1.size ≤ 12) (z2 : f2.size ≤ 6) (z3 : f3.size ≤ 6) (z4 : f4.size ≤ 8) (z5 : f5.size ≤ 10) (z6 : f6.size ≤ 2) :
    Calls Tryd.prog 13 #[.agg #[.string f0, .string f1, .string f2, .string f3, .string f4, .string f5, .string f6]] w fun e w' => e = .returned (.string (strL (jnP f0 f1 f2 f3 f4 f5 f6 7))) ∧ Below w.heap.size w w' := by
  have hz := zero60
  have HZ : Hid (f0.size ≤ 16 ∧ f1.size ≤ 12 ∧ f2.size ≤ 6 ∧ f3.size ≤ 6 ∧ f4.size ≤ 8 ∧ f5.size ≤ 10 ∧ f6.size ≤ 2) := ⟨z0, z1, z2, z3, z4, z5, z6⟩
  have HC : Hid (Cols w) := hC
  clear z0 z1 z2 z3 z4 z5 z6 hC
  go_enter Tryd.func13, Tryd.ntmps13
  go_wp2
  clear hz
  go_loopw [7] (fun i wx => ∃ (k : Nat) (C : Array Value), k ≤ 60 ∧ i = .int .i64 k ∧ wx = (w.alloc (.cells #[.string f0, .string f1, .string f2, .string f3, .string f4, .string f5, .string f6] 44)).alloc (.cells C 53) ∧ Cbl C k) (fun i _ => 60 - (intOf i).toNat)
  case atStart => exact ⟨0, _, by omega, rfl, rfl, by simp, fun j hj => absurd hj (Nat.not_lt_zero _)⟩
  case round =>
    obtain ⟨k, C, hk, rfl, rfl, hcb⟩ := hrel
    have HB : Hid (Cbl C k) := hcb
    clear hcb
    by_cases hlt : k < 60
    · obtain ⟨y, hy⟩ : ∃ y, C[k]? = some y := ⟨C[k]'(by rw [HB.out.1]; omega), Array.getElem?_eq_getElem _⟩
      go_wp2
      go_roundw
      case rel => exact ⟨k + 1, _, by omega, by go_num, rfl, HB.out.next hlt⟩
      case measure => simp [intOf]; omega
    · obtain rfl : k = 60 := by omega
      obtain rfl := HB.out.all
      clear HB
      have hl := ((HC.out.alloc (.cells #[.string f0, .string f1, .string f2, .string f3, .string f4, .string f5, .string f6] 44)).alloc (.cells (bV (List.replicate 60 32)).toArray 53)).range
      go_wp2_with (refine wpList_load_mid rfl _ _ rfl 0 0 rfl colL _ hl Tryd.underlying39 rfl (by kernel_rfl) ?_)
      clear hl
      go_loopw [15] (fun i wx => ∃ k : Nat, k ≤ 7 ∧ i = .int .i64 k ∧ wx.heap[w.heap.size]? = some (.cells #[.string f0, .string f1, .string f2, .string f3, .string f4, .string f5, .string f6] 44 (0, 0)) ∧ wx.heap[w.heap.size + 1]? = some (.cells (bV (jnP f0 f1 f2 f3 f4 f5 f6 k ++ List.replicate (60 - colAt k) 32)).toArray 53 (0, 0)) ∧ Below w.heap.size w wx) (fun i _ => 7 - (intOf i).toNat)
      case atStart => exact ⟨0, by omega, rfl, hup (heap_alloc_new w _) _, heap_new2 w _ _, bup (bup (Below.refl _ _) _) _⟩
      case round =>
        obtain ⟨k, hk, rfl, hr0, hr1, hb⟩ := hrel
        have hc : k = 0 ∨ k = 1 ∨ k = 2 ∨ k = 3 ∨ k = 4 ∨ k = 5 ∨ k = 6 ∨ k = 7 := by omega
        clear hk
        rcases hc with rfl | rfl | rfl | rfl | rfl | rfl | rfl | rfl
        · have hi := col_0
          have hR0 := hup hr0 (.cells #[.int .i64 0, .int .i64 16, .int .i64 0] 38)
          have hR1 := hup hr1 (.cells #[.int .i64 0, .int .i64 16, .int .i64 0] 38)
          have hB := bup hb (.cells #[.int .i64 0, .int .i64 16, .int .i64 0] 38)
          have hN := heap_alloc_new wr (.cells #[.int .i64 0, .int .i64 16, .int .i64 0] 38)
          clear hr0 hr1 hb
          go_wp2_with fail
          generalize wr.alloc (.cells #[.int .i64 0, .int .i64 16, .int .i64 0] 38) = W at hR0 hR1 hB hN ⊢
          generalize wr.heap.size = B at hN ⊢
          have c0 := cell_of_row W B 0 _ _ _ hN
          have c1 := cell_of_row W B 1 _ _ _ hN
          have m0 := cell_of_row W w.heap.size 0 _ _ _ hR0
          have hsl : ∀ w', (Instr.sliceAt 53 (.pointer (some ⟨w.heap.size + 1, 0, none⟩)) (some (.int .i64 0)) (some (.int .i64 16)) none).run Tryd.prog w' = .ok (.slice (some ⟨w.heap.size + 1, 0, none⟩) 16 60) w' := slice60 0 16 (w.heap.size + 1) (by omega) (by omega)
          have hwr : IntKind.i64.wrap 16 = 16 := by decide
          have hPl := jnP_len f0 f1 f2 f3 f4 f5 f6 HZ.out.1 HZ.out.2.1 HZ.out.2.2.1 HZ.out.2.2.2.1 HZ.out.2.2.2.2.1 HZ.out.2.2.2.2.2.1 HZ.out.2.2.2.2.2.2 0 (by omega)
          have hnx := next_row (jnP f0 f1 f2 f3 f4 f5 f6 0) f0 0 16 (60 - colAt 0) hPl (HZ.out.1) (by decide)
          have hcs : 0 + 16 ≤ (bV (jnP f0 f1 f2 f3 f4 f5 f6 0 ++ List.replicate (60 - colAt 0) 32)).toArray.size := by
            rw [List.size_toArray, bV_len, List.length_append, List.length_replicate, hPl]; decide
          have HX : Hid (W.heap[w.heap.size + 1]? = some (.cells (bV (jnP f0 f1 f2 f3 f4 f5 f6 0 ++ List.replicate (60 - colAt 0) 32)).toArray 53 (0, 0)) ∧ 0 + 16 ≤ (bV (jnP f0 f1 f2 f3 f4 f5 f6 0 ++ List.replicate (60 - colAt 0) 32)).toArray.size) := ⟨hR1, hcs⟩
          have HN := hid_of hnx
          have HB : Hid (Below w.heap.size w W ∧ W.heap[w.heap.size]? = some (.cells #[.string f0, .string f1, .string f2, .string f3, .string f4, .string f5, .string f6] 44 (0, 0))) := ⟨hB, hR0⟩
          clear hnx hcs hR1 hPl hB hR0 hN
          generalize (bV (jnP f0 f1 f2 f3 f4 f5 f6 0 ++ List.replicate (60 - colAt 0) 32)).toArray = C at HX HN
          go_region_law (refine step_copy_str rfl (.tmp 26) (.tmp 29) 30 9 rfl 5 Tryd.underlying30 (by kernel_rfl) (w.heap.size + 1) 0 16 60 f0 (by simp [Act.eval, Act.put]) (by simp [Act.eval, Act.put]) 53 C HX.out.1 HX.out.2 (HZ.out.1) ?_)
          all_goals
            go_wp2
            go_roundw
            case rel => exact ⟨1, by omega, rfl, (setRow_other _ _ _ _ (by omega)).trans HB.out.2, (setRow_heap _ _ _ _ _ _ HX.out.1).trans (congrArg (fun z => some (Obj.cells z 53 (0, 0))) HN.out), below_setRow (by first | exact HB.out.1 | exact HB.out.1.drew | exact HB.out.1.drew.drew) (by omega) _⟩
            case measure => simp [intOf]
        · have hi := col_1
          have hR0 := hup hr0 (.cells #[.int .i64 16, .int .i64 12, .int .i64 10] 38)
          have hR1 := hup hr1 (.cells #[.int .i64 16, .int .i64 12, .int .i64 10] 38)
          have hB := bup hb (.cells #[.int .i64 16, .int .i64 12, .int .i64 10] 38)
          have hN := heap_alloc_new wr (.cells #[.int .i64 16, .int .i64 12, .int .i64 10] 38)
          clear hr0 hr1 hb
          go_wp2_with fail
          generalize wr.alloc (.cells #[.int .i64 16, .int .i64 12, .int .i64 10] 38) = W at hR0 hR1 hB hN ⊢
          generalize wr.heap.size = B at hN ⊢
          have c0 := cell_of_row W B 0 _ _ _ hN
          have c1 := cell_of_row W B 1 _ _ _ hN
          have m0 := cell_of_row W w.heap.size 1 _ _ _ hR0
          have hsl : ∀ w', (Instr.sliceAt 53 (.pointer (some ⟨w.heap.size + 1, 0, none⟩)) (some (.int .i64 16)) (some (.int .i64 28)) none).run Tryd.prog w' = .ok (.slice (some ⟨w.heap.size + 1, 16, none⟩) 12 44) w' := slice60 16 12 (w.heap.size + 1) (by omega) (by omega)
          have hwr : IntKind.i64.wrap 28 = 28 := by decide
          have hPl := jnP_len f0 f1 f2 f3 f4 f5 f6 HZ.out.1 HZ.out.2.1 HZ.out.2.2.1 HZ.out.2.2.2.1 HZ.out.2.2.2.2.1 HZ.out.2.2.2.2.2.1 HZ.out.2.2.2.2.2.2 1 (by omega)
          have hnx := next_row (jnP f0 f1 f2 f3 f4 f5 f6 1) f1 16 12 (60 - colAt 1) hPl (HZ.out.2.1) (by decide)
          have hcs : 16 + 12 ≤ (bV (jnP f0 f1 f2 f3 f4 f5 f6 1 ++ List.replicate (60 - colAt 1) 32)).toArray.size := by
            rw [List.size_toArray, bV_len, List.length_append, List.length_replicate, hPl]; decide
          have HX : Hid (W.heap[w.heap.size + 1]? = some (.cells (bV (jnP f0 f1 f2 f3 f4 f5 f6 1 ++ List.replicate (60 - colAt 1) 32)).toArray 53 (0, 0)) ∧ 16 + 12 ≤ (bV (jnP f0 f1 f2 f3 f4 f5 f6 1 ++ List.replicate (60 - colAt 1) 32)).toArray.size) := ⟨hR1, hcs⟩
          have HN := hid_of hnx
          have HB : Hid (Below w.heap.size w W ∧ W.heap[w.heap.size]? = some (.cells #[.string f0, .string f1, .string f2, .string f3, .string f4, .string f5, .string f6] 44 (0, 0))) := ⟨hB, hR0⟩
          clear hnx hcs hR1 hPl hB hR0 hN
          generalize (bV (jnP f0 f1 f2 f3 f4 f5 f6 1 ++ List.replicate (60 - colAt 1) 32)).toArray = C at HX HN
          go_region_law (refine step_copy_str rfl (.tmp 26) (.tmp 29) 30 9 rfl 5 Tryd.underlying30 (by kernel_rfl) (w.heap.size + 1) 16 12 44 f1 (by simp [Act.eval, Act.put]) (by simp [Act.eval, Act.put]) 53 C HX.out.1 HX.out.2 (HZ.out.2.1) ?_)
          all_goals
            go_wp2
            go_roundw
            case rel => exact ⟨2, by omega, rfl, (setRow_other _ _ _ _ (by omega)).trans HB.out.2, (setRow_heap _ _ _ _ _ _ HX.out.1).trans (congrArg (fun z => some (Obj.cells z 53 (0, 0))) HN.out), below_setRow (by first | exact HB.out.1 | exact HB.out.1.drew | exact HB.out.1.drew.drew) (by omega) _⟩
            case measure => simp [intOf]
        · have hi := col_2
          have hR0 := hup hr0 (.cells #[.int .i64 28, .int .i64 6, .int .i64 10] 38)
          have hR1 := hup hr1 (.cells #[.int .i64 28, .int .i64 6, .int .i64 10] 38)
          have hB := bup hb (.cells #[.int .i64 28, .int .i64 6, .int .i64 10] 38)
          have hN := heap_alloc_new wr (.cells #[.int .i64 28, .int .i64 6, .int .i64 10] 38)
          clear hr0 hr1 hb
          go_wp2_with fail
          generalize wr.alloc (.cells #[.int .i64 28, .int .i64 6, .int .i64 10] 38) = W at hR0 hR1 hB hN ⊢
          generalize wr.heap.size = B at hN ⊢
          have c0 := cell_of_row W B 0 _ _ _ hN
          have c1 := cell_of_row W B 1 _ _ _ hN
          have m0 := cell_of_row W w.heap.size 2 _ _ _ hR0
          have hsl : ∀ w', (Instr.sliceAt 53 (.pointer (some ⟨w.heap.size + 1, 0, none⟩)) (some (.int .i64 28)) (some (.int .i64 34)) none).run Tryd.prog w' = .ok (.slice (some ⟨w.heap.size + 1, 28, none⟩) 6 32) w' := slice60 28 6 (w.heap.size + 1) (by omega) (by omega)
          have hwr : IntKind.i64.wrap 34 = 34 := by decide
          have hPl := jnP_len f0 f1 f2 f3 f4 f5 f6 HZ.out.1 HZ.out.2.1 HZ.out.2.2.1 HZ.out.2.2.2.1 HZ.out.2.2.2.2.1 HZ.out.2.2.2.2.2.1 HZ.out.2.2.2.2.2.2 2 (by omega)
          have hnx := next_row (jnP f0 f1 f2 f3 f4 f5 f6 2) f2 28 6 (60 - colAt 2) hPl (HZ.out.2.2.1) (by decide)
          have hcs : 28 + 6 ≤ (bV (jnP f0 f1 f2 f3 f4 f5 f6 2 ++ List.replicate (60 - colAt 2) 32)).toArray.size := by
            rw [List.size_toArray, bV_len, List.length_append, List.length_replicate, hPl]; decide
          have HX : Hid (W.heap[w.heap.size + 1]? = some (.cells (bV (jnP f0 f1 f2 f3 f4 f5 f6 2 ++ List.replicate (60 - colAt 2) 32)).toArray 53 (0, 0)) ∧ 28 + 6 ≤ (bV (jnP f0 f1 f2 f3 f4 f5 f6 2 ++ List.replicate (60 - colAt 2) 32)).toArray.size) := ⟨hR1, hcs⟩
          have HN := hid_of hnx
          have HB : Hid (Below w.heap.size w W ∧ W.heap[w.heap.size]? = some (.cells #[.string f0, .string f1, .string f2, .string f3, .string f4, .string f5, .string f6] 44 (0, 0))) := ⟨hB, hR0⟩
          clear hnx hcs hR1 hPl hB hR0 hN
          generalize (bV (jnP f0 f1 f2 f3 f4 f5 f6 2 ++ List.replicate (60 - colAt 2) 32)).toArray = C at HX HN
          go_region_law (refine step_copy_str rfl (.tmp 26) (.tmp 29) 30 9 rfl 5 Tryd.underlying30 (by kernel_rfl) (w.heap.size + 1) 28 6 32 f2 (by simp [Act.eval, Act.put]) (by simp [Act.eval, Act.put]) 53 C HX.out.1 HX.out.2 (HZ.out.2.2.1) ?_)
          all_goals
            go_wp2
            go_roundw
            case rel => exact ⟨3, by omega, rfl, (setRow_other _ _ _ _ (by omega)).trans HB.out.2, (setRow_heap _ _ _ _ _ _ HX.out.1).trans (congrArg (fun z => some (Obj.cells z 53 (0, 0))) HN.out), below_setRow (by first | exact HB.out.1 | exact HB.out.1.drew | exact HB.out.1.drew.drew) (by omega) _⟩
            case measure => simp [intOf]
        · have hi := col_3
          have hR0 := hup hr0 (.cells #[.int .i64 34, .int .i64 6, .int .i64 10] 38)
          have hR1 := hup hr1 (.cells #[.int .i64 34, .int .i64 6, .int .i64 10] 38)
          have hB := bup hb (.cells #[.int .i64 34, .int .i64 6, .int .i64 10] 38)
          have hN := heap_alloc_new wr (.cells #[.int .i64 34, .int .i64 6, .int .i64 10] 38)
          clear hr0 hr1 hb
          go_wp2_with fail
          generalize wr.alloc (.cells #[.int .i64 34, .int .i64 6, .int .i64 10] 38) = W at hR0 hR1 hB hN ⊢
          generalize wr.heap.size = B at hN ⊢
          have c0 := cell_of_row W B 0 _ _ _ hN
          have c1 := cell_of_row W B 1 _ _ _ hN
          have m0 := cell_of_row W w.heap.size 3 _ _ _ hR0
          have hsl : ∀ w', (Instr.sliceAt 53 (.pointer (some ⟨w.heap.size + 1, 0, none⟩)) (some (.int .i64 34)) (some (.int .i64 40)) none).run Tryd.prog w' = .ok (.slice (some ⟨w.heap.size + 1, 34, none⟩) 6 26) w' := slice60 34 6 (w.heap.size + 1) (by omega) (by omega)
          have hwr : IntKind.i64.wrap 40 = 40 := by decide
          have hPl := jnP_len f0 f1 f2 f3 f4 f5 f6 HZ.out.1 HZ.out.2.1 HZ.out.2.2.1 HZ.out.2.2.2.1 HZ.out.2.2.2.2.1 HZ.out.2.2.2.2.2.1 HZ.out.2.2.2.2.2.2 3 (by omega)
          have hnx := next_row (jnP f0 f1 f2 f3 f4 f5 f6 3) f3 34 6 (60 - colAt 3) hPl (HZ.out.2.2.2.1) (by decide)
          have hcs : 34 + 6 ≤ (bV (jnP f0 f1 f2 f3 f4 f5 f6 3 ++ List.replicate (60 - colAt 3) 32)).toArray.size := by
            rw [List.size_toArray, bV_len, List.length_append, List.length_replicate, hPl]; decide
          have HX : Hid (W.heap[w.heap.size + 1]? = some (.cells (bV (jnP f0 f1 f2 f3 f4 f5 f6 3 ++ List.replicate (60 - colAt 3) 32)).toArray 53 (0, 0)) ∧ 34 + 6 ≤ (bV (jnP f0 f1 f2 f3 f4 f5 f6 3 ++ List.replicate (60 - colAt 3) 32)).toArray.size) := ⟨hR1, hcs⟩
          have HN := hid_of hnx
          have HB : Hid (Below w.heap.size w W ∧ W.heap[w.heap.size]? = some (.cells #[.string f0, .string f1, .string f2, .string f3, .string f4, .string f5, .string f6] 44 (0, 0))) := ⟨hB, hR0⟩
          clear hnx hcs hR1 hPl hB hR0 hN
          generalize (bV (jnP f0 f1 f2 f3 f4 f5 f6 3 ++ List.replicate (60 - colAt 3) 32)).toArray = C at HX HN
          go_region_law (refine step_copy_str rfl (.tmp 26) (.tmp 29) 30 9 rfl 5 Tryd.underlying30 (by kernel_rfl) (w.heap.size + 1) 34 6 26 f3 (by simp [Act.eval, Act.put]) (by simp [Act.eval, Act.put]) 53 C HX.out.1 HX.out.2 (HZ.out.2.2.2.1) ?_)
          all_goals
            go_wp2
            go_roundw
            case rel => exact ⟨4, by omega, rfl, (setRow_other _ _ _ _ (by omega)).trans HB.out.2, (setRow_heap _ _ _ _ _ _ HX.out.1).trans (congrArg (fun z => some (Obj.cells z 53 (0, 0))) HN.out), below_setRow (by first | exact HB.out.1 | exact HB.out.1.drew | exact HB.out.1.drew.drew) (by omega) _⟩
            case measure => simp [intOf]
        · have hi := col_4
          have hR0 := hup hr0 (.cells #[.int .i64 40, .int .i64 8, .int .i64 8] 38)
          have hR1 := hup hr1 (.cells #[.int .i64 40, .int .i64 8, .int .i64 8] 38)
          have hB := bup hb (.cells #[.int .i64 40, .int .i64 8, .int .i64 8] 38)
          have hN := heap_alloc_new wr (.cells #[.int .i64 40, .int .i64 8, .int .i64 8] 38)
          clear hr0 hr1 hb
          go_wp2_with fail
          generalize wr.alloc (.cells #[.int .i64 40, .int .i64 8, .int .i64 8] 38) = W at hR0 hR1 hB hN ⊢
          generalize wr.heap.size = B at hN ⊢
          have c0 := cell_of_row W B 0 _ _ _ hN
          have c1 := cell_of_row W B 1 _ _ _ hN
          have m0 := cell_of_row W w.heap.size 4 _ _ _ hR0
          have hsl : ∀ w', (Instr.sliceAt 53 (.pointer (some ⟨w.heap.size + 1, 0, none⟩)) (some (.int .i64 40)) (some (.int .i64 48)) none).run Tryd.prog w' = .ok (.slice (some ⟨w.heap.size + 1, 40, none⟩) 8 20) w' := slice60 40 8 (w.heap.size + 1) (by omega) (by omega)
          have hwr : IntKind.i64.wrap 48 = 48 := by decide
          have hPl := jnP_len f0 f1 f2 f3 f4 f5 f6 HZ.out.1 HZ.out.2.1 HZ.out.2.2.1 HZ.out.2.2.2.1 HZ.out.2.2.2.2.1 HZ.out.2.2.2.2.2.1 HZ.out.2.2.2.2.2.2 4 (by omega)
          have hnx := next_row (jnP f0 f1 f2 f3 f4 f5 f6 4) f4 40 8 (60 - colAt 4) hPl (HZ.out.2.2.2.2.1) (by decide)
          have hcs : 40 + 8 ≤ (bV (jnP f0 f1 f2 f3 f4 f5 f6 4 ++ List.replicate (60 - colAt 4) 32)).toArray.size := by
            rw [List.size_toArray, bV_len, List.length_append, List.length_replicate, hPl]; decide
          have HX : Hid (W.heap[w.heap.size + 1]? = some (.cells (bV (jnP f0 f1 f2 f3 f4 f5 f6 4 ++ List.replicate (60 - colAt 4) 32)).toArray 53 (0, 0)) ∧ 40 + 8 ≤ (bV (jnP f0 f1 f2 f3 f4 f5 f6 4 ++ List.replicate (60 - colAt 4) 32)).toArray.size) := ⟨hR1, hcs⟩
          have HN := hid_of hnx
          have HB : Hid (Below w.heap.size w W ∧ W.heap[w.heap.size]? = some (.cells #[.string f0, .string f1, .string f2, .string f3, .string f4, .string f5, .string f6] 44 (0, 0))) := ⟨hB, hR0⟩
          clear hnx hcs hR1 hPl hB hR0 hN
          generalize (bV (jnP f0 f1 f2 f3 f4 f5 f6 4 ++ List.replicate (60 - colAt 4) 32)).toArray = C at HX HN
          go_region_law (refine step_copy_str rfl (.tmp 26) (.tmp 29) 30 9 rfl 5 Tryd.underlying30 (by kernel_rfl) (w.heap.size + 1) 40 8 20 f4 (by simp [Act.eval, Act.put]) (by simp [Act.eval, Act.put]) 53 C HX.out.1 HX.out.2 (HZ.out.2.2.2.2.1) ?_)
          all_goals
            go_wp2
            go_roundw
            case rel => exact ⟨5, by omega, rfl, (setRow_other _ _ _ _ (by omega)).trans HB.out.2, (setRow_heap _ _ _ _ _ _ HX.out.1).trans (congrArg (fun z => some (Obj.cells z 53 (0, 0))) HN.out), below_setRow (by first | exact HB.out.1 | exact HB.out.1.drew | exact HB.out.1.drew.drew) (by omega) _⟩
            case measure => simp [intOf]
        · have hi := col_5
          have hR0 := hup hr0 (.cells #[.int .i64 48, .int .i64 10, .int .i64 10] 38)
          have hR1 := hup hr1 (.cells #[.int .i64 48, .int .i64 10, .int .i64 10] 38)
          have hB := bup hb (.cells #[.int .i64 48, .int .i64 10, .int .i64 10] 38)
          have hN := heap_alloc_new wr (.cells #[.int .i64 48, .int .i64 10, .int .i64 10] 38)
          clear hr0 hr1 hb
          go_wp2_with fail
          generalize wr.alloc (.cells #[.int .i64 48, .int .i64 10, .int .i64 10] 38) = W at hR0 hR1 hB hN ⊢
          generalize wr.heap.size = B at hN ⊢
          have c0 := cell_of_row W B 0 _ _ _ hN
          have c1 := cell_of_row W B 1 _ _ _ hN
          have m0 := cell_of_row W w.heap.size 5 _ _ _ hR0
          have hsl : ∀ w', (Instr.sliceAt 53 (.pointer (some ⟨w.heap.size + 1, 0, none⟩)) (some (.int .i64 48)) (some (.int .i64 58)) none).run Tryd.prog w' = .ok (.slice (some ⟨w.heap.size + 1, 48, none⟩) 10 12) w' := slice60 48 10 (w.heap.size + 1) (by omega) (by omega)
          have hwr : IntKind.i64.wrap 58 = 58 := by decide
          have hPl := jnP_len f0 f1 f2 f3 f4 f5 f6 HZ.out.1 HZ.out.2.1 HZ.out.2.2.1 HZ.out.2.2.2.1 HZ.out.2.2.2.2.1 HZ.out.2.2.2.2.2.1 HZ.out.2.2.2.2.2.2 5 (by omega)
          have hnx := next_row (jnP f0 f1 f2 f3 f4 f5 f6 5) f5 48 10 (60 - colAt 5) hPl (HZ.out.2.2.2.2.2.1) (by decide)
          have hcs : 48 + 10 ≤ (bV (jnP f0 f1 f2 f3 f4 f5 f6 5 ++ List.replicate (60 - colAt 5) 32)).toArray.size := by
            rw [List.size_toArray, bV_len, List.length_append, List.length_replicate, hPl]; decide
          have HX : Hid (W.heap[w.heap.size + 1]? = some (.cells (bV (jnP f0 f1 f2 f3 f4 f5 f6 5 ++ List.replicate (60 - colAt 5) 32)).toArray 53 (0, 0)) ∧ 48 + 10 ≤ (bV (jnP f0 f1 f2 f3 f4 f5 f6 5 ++ List.replicate (60 - colAt 5) 32)).toArray.size) := ⟨hR1, hcs⟩
          have HN := hid_of hnx
          have HB : Hid (Below w.heap.size w W ∧ W.heap[w.heap.size]? = some (.cells #[.string f0, .string f1, .string f2, .string f3, .string f4, .string f5, .string f6] 44 (0, 0))) := ⟨hB, hR0⟩
          clear hnx hcs hR1 hPl hB hR0 hN
          generalize (bV (jnP f0 f1 f2 f3 f4 f5 f6 5 ++ List.replicate (60 - colAt 5) 32)).toArray = C at HX HN
          go_region_law (refine step_copy_str rfl (.tmp 26) (.tmp 29) 30 9 rfl 5 Tryd.underlying30 (by kernel_rfl) (w.heap.size + 1) 48 10 12 f5 (by simp [Act.eval, Act.put]) (by simp [Act.eval, Act.put]) 53 C HX.out.1 HX.out.2 (HZ.out.2.2.2.2.2.1) ?_)
          all_goals
            go_wp2
            go_roundw
            case rel => exact ⟨6, by omega, rfl, (setRow_other _ _ _ _ (by omega)).trans HB.out.2, (setRow_heap _ _ _ _ _ _ HX.out.1).trans (congrArg (fun z => some (Obj.cells z 53 (0, 0))) HN.out), below_setRow (by first | exact HB.out.1 | exact HB.out.1.drew | exact HB.out.1.drew.drew) (by omega) _⟩
            case measure => simp [intOf]
        · have hi := col_6
          have hR0 := hup hr0 (.cells #[.int .i64 58, .int .i64 2, .int .i64 0] 38)
          have hR1 := hup hr1 (.cells #[.int .i64 58, .int .i64 2, .int .i64 0] 38)
          have hB := bup hb (.cells #[.int .i64 58, .int .i64 2, .int .i64 0] 38)
          have hN := heap_alloc_new wr (.cells #[.int .i64 58, .int .i64 2, .int .i64 0] 38)
          clear hr0 hr1 hb
          go_wp2_with fail
          generalize wr.alloc (.cells #[.int .i64 58, .int .i64 2, .int .i64 0] 38) = W at hR0 hR1 hB hN ⊢
          generalize wr.heap.size = B at hN ⊢
          have c0 := cell_of_row W B 0 _ _ _ hN
          have c1 := cell_of_row W B 1 _ _ _ hN
          have m0 := cell_of_row W w.heap.size 6 _ _ _ hR0
          have hsl : ∀ w', (Instr.sliceAt 53 (.pointer (some ⟨w.heap.size + 1, 0, none⟩)) (some (.int .i64 58)) (some (.int .i64 60)) none).run Tryd.prog w' = .ok (.slice (some ⟨w.heap.size + 1, 58, none⟩) 2 2) w' := slice60 58 2 (w.heap.size + 1) (by omega) (by omega)
          have hwr : IntKind.i64.wrap 60 = 60 := by decide
          have hPl := jnP_len f0 f1 f2 f3 f4 f5 f6 HZ.out.1 HZ.out.2.1 HZ.out.2.2.1 HZ.out.2.2.2.1 HZ.out.2.2.2.2.1 HZ.out.2.2.2.2.2.1 HZ.out.2.2.2.2.2.2 6 (by omega)
          have hnx := next_row (jnP f0 f1 f2 f3 f4 f5 f6 6) f6 58 2 (60 - colAt 6) hPl (HZ.out.2.2.2.2.2.2) (by decide)
          have hcs : 58 + 2 ≤ (bV (jnP f0 f1 f2 f3 f4 f5 f6 6 ++ List.replicate (60 - colAt 6) 32)).toArray.size := by
            rw [List.size_toArray, bV_len, List.length_append, List.length_replicate, hPl]; decide
          have HX : Hid (W.heap[w.heap.size + 1]? = some (.cells (bV (jnP f0 f1 f2 f3 f4 f5 f6 6 ++ List.replicate (60 - colAt 6) 32)).toArray 53 (0, 0)) ∧ 58 + 2 ≤ (bV (jnP f0 f1 f2 f3 f4 f5 f6 6 ++ List.replicate (60 - colAt 6) 32)).toArray.size) := ⟨hR1, hcs⟩
          have HN := hid_of hnx
          have HB : Hid (Below w.heap.size w W ∧ W.heap[w.heap.size]? = some (.cells #[.string f0, .string f1, .string f2, .string f3, .string f4, .string f5, .string f6] 44 (0, 0))) := ⟨hB, hR0⟩
          clear hnx hcs hR1 hPl hB hR0 hN
          generalize (bV (jnP f0 f1 f2 f3 f4 f5 f6 6 ++ List.replicate (60 - colAt 6) 32)).toArray = C at HX HN
          go_region_law (refine step_copy_str rfl (.tmp 26) (.tmp 29) 30 9 rfl 5 Tryd.underlying30 (by kernel_rfl) (w.heap.size + 1) 58 2 2 f6 (by simp [Act.eval, Act.put]) (by simp [Act.eval, Act.put]) 53 C HX.out.1 HX.out.2 (HZ.out.2.2.2.2.2.2) ?_)
          all_goals
            go_wp2
            go_roundw
            case rel => exact ⟨7, by omega, rfl, (setRow_other _ _ _ _ (by omega)).trans HB.out.2, (setRow_heap _ _ _ _ _ _ HX.out.1).trans (congrArg (fun z => some (Obj.cells z 53 (0, 0))) HN.out), below_setRow (by first | exact HB.out.1 | exact HB.out.1.drew | exact HB.out.1.drew.drew) (by omega) _⟩
            case measure => simp [intOf]
        · have hPl := jnP_len f0 f1 f2 f3 f4 f5 f6 HZ.out.1 HZ.out.2.1 HZ.out.2.2.1 HZ.out.2.2.2.1 HZ.out.2.2.2.2.1 HZ.out.2.2.2.2.2.1 HZ.out.2.2.2.2.2.2 7 (by omega)
          have hsa := slice60_all (w.heap.size + 1)
          have hr2 : wr.heap[w.heap.size + 1]? = some (.cells (bV (jnP f0 f1 f2 f3 f4 f5 f6 7)).toArray 53 (0, 0)) := by
            rw [hr1, show 60 - colAt 7 = 0 from rfl, List.replicate_zero, List.append_nil]
          have hcv := conv60 wr (w.heap.size + 1) (jnP f0 f1 f2 f3 f4 f5 f6 7) hPl hr2
          obtain ⟨J, hJ⟩ : ∃ J, J = strL (jnP f0 f1 f2 f3 f4 f5 f6 7) := ⟨_, rfl⟩
          rw [← hJ] at hcv
          have HJ : Hid (J = strL (jnP f0 f1 f2 f3 f4 f5 f6 7)) := hJ
          clear hJ
          clear hr0 hr1 hr2 hPl
          go_wp2
          go_ret
          exact ⟨by rw [← HJ.out]; rfl, hb⟩
end Go.Proofs.YtbkfkanknfdelabDoor
