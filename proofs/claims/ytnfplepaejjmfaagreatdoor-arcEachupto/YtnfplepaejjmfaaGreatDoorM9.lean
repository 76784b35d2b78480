import Derived.Test.YtnfplepaejjmfaaGreatDoorM8
import Derived.LoopTactic
import Derived.Test.YtnfplepaejjmfaaGreatDoorM6

-- arc: the document's read.
namespace Go.Proofs.YtnfplepaejjmfaaGreatDoor
open Go.ChangeShapes Go.WideShapes Go.ChangeAt Go.RowKit Go.Shelf
set_option linter.unusedVariables false
set_option maxRecDepth 100000

theorem wpList_store_kz {P : Program} {ops : Array Oper} {rest : List Oper} {o : Oper} {a : Act} {w : World} {Q : Exit → Act → World → Prop} (hgd : o.guard = none) (hd : o.dst = none) (ty : TypeId) (x y : Operand) (ho : o.op = .store ty x y)
    (g off : Nat) (v : Value) (hx : a.eval x = .pointer (some ⟨g, off, none⟩)) (hy : a.eval y = v)
    (t : TypeId) (old new : Array Value) (hg : w.heap[g]? = some (.cells old t (0, 0))) (hi : (P.info? ty).map (·.size) = some v.cells.size)
    (hfit : Nat.ble (off + v.cells.size) old.size = true) (h1 : v.cells.toList.all (·.oneCell') = true) (hnew : putAt old off v.cells = new)
    (h : ∀ W : World, W.heap[g]? = some (.cells new t (0, 0)) → Kq g w W → wpList P ops Q rest a W) : wpList P ops Q (o :: rest) a w :=
  wpList_store_kq hgd ty x y ho g off v hx hy t old new hg hi hfit h1 hnew (fun W h1 h2 => by rw [hd]; exact h W h1 h2)
theorem slice8 (b t : ByteArray) (h : 8 ≤ b.size) (ht : strL (b.data.toList.take 8) = t) : ∀ w, (Instr.slice 9 (.string b) none (some (.int .i64 8)) none).run Tryz.prog w = .ok (.string t) w := by
  intro w
  have := slice_f0 b b.data.toList rfl 8 h w
  unfold fld at this
  rw [List.drop_zero, ht] at this
  exact this
theorem magic_len (b : ByteArray) (h : magic b) : 8 ≤ b.size := magic8 b h
set_option maxHeartbeats 2000000 in
theorem read_short (b : ByteArray) (w : World) (h8 : b.size < 8) :
    Calls Tryz.prog 28 #[.string b] w fun r w' => r = .returned (.agg #[.int .i64 0, .int .i64 0, .string ⟨#[]⟩, .int .i64 0, .slice none 0 0, .slice none 0 0, .string ⟨#[]⟩, .int .i64 0, .bool false, .int .i64 0, .int .i64 90]) ∧ Below w.heap.size w w' := by
  have hI : (b.size : Int) < 8 := by omega
  have h0 : ((w.alloc (.cells #[.int .i64 0, .int .i64 0, .string ⟨#[]⟩, .int .i64 0, .slice none 0 0, .slice none 0 0, .string ⟨#[]⟩, .int .i64 0, .bool false, .int .i64 0, .int .i64 0] 76)).alloc (.cells #[.int .i64 0, .int .i64 0, .string ⟨#[]⟩, .int .i64 0, .slice none 0 0, .slice none 0 0, .string ⟨#[]⟩, .int .i64 0, .bool false, .int .i64 0, .int .i64 0] 76)).heap[w.heap.size]? = some (.cells #[.int .i64 0, .int .i64 0, .string ⟨#[]⟩, .int .i64 0, .slice none 0 0, .slice none 0 0, .string ⟨#[]⟩, .int .i64 0, .bool false, .int .i64 0, .int .i64 0] 76 (0, 0)) := hup (heap_alloc_new w _) _
  have h1 : ((w.alloc (.cells #[.int .i64 0, .int .i64 0, .string ⟨#[]⟩, .int .i64 0, .slice none 0 0, .slice none 0 0, .string ⟨#[]⟩, .int .i64 0, .bool false, .int .i64 0, .int .i64 0] 76)).alloc (.cells #[.int .i64 0, .int .i64 0, .string ⟨#[]⟩, .int .i64 0, .slice none 0 0, .slice none 0 0, .string ⟨#[]⟩, .int .i64 0, .bool false, .int .i64 0, .int .i64 0] 76)).heap[w.heap.size + 1]? = some (.cells #[.int .i64 0, .int .i64 0, .string ⟨#[]⟩, .int .i64 0, .slice none 0 0, .slice none 0 0, .string ⟨#[]⟩, .int .i64 0, .bool false, .int .i64 0, .int .i64 0] 76 (0, 0)) := heap_new2 w _ _
  have hB0 : Below w.heap.size w ((w.alloc (.cells #[.int .i64 0, .int .i64 0, .string ⟨#[]⟩, .int .i64 0, .slice none 0 0, .slice none 0 0, .string ⟨#[]⟩, .int .i64 0, .bool false, .int .i64 0, .int .i64 0] 76)).alloc (.cells #[.int .i64 0, .int .i64 0, .string ⟨#[]⟩, .int .i64 0, .slice none 0 0, .slice none 0 0, .string ⟨#[]⟩, .int .i64 0, .bool false, .int .i64 0, .int .i64 0] 76)) := bup (bup (Below.refl _ _) _) _
  clear h8
  go_enter Tryz.func28, Tryz.ntmps28
  go_wp2_with first
    | (refine wpList_store_kq rfl _ _ _ rfl (w.heap.size + 1) 10 (.int .i64 90) rfl rfl _ _ #[.int .i64 0, .int .i64 0, .string ⟨#[]⟩, .int .i64 0, .slice none 0 0, .slice none 0 0, .string ⟨#[]⟩, .int .i64 0, .bool false, .int .i64 0, .int .i64 90] h1 (by kernel_rfl) rfl rfl rfl ?_; intro W1 hW1 q1; have a0 := q1.keeps (by omega) h0; have hB1 := q1.belowN hB0 (by omega) (Nat.le_refl _); obtain ⟨x0, x1, x2, x3, x4, x5, x6, x7, x8, x9, x10⟩ := cells11 hW1)
    | (refine wpList_store_kq rfl _ _ _ rfl w.heap.size 0 (.agg #[.int .i64 0, .int .i64 0, .string ⟨#[]⟩, .int .i64 0, .slice none 0 0, .slice none 0 0, .string ⟨#[]⟩, .int .i64 0, .bool false, .int .i64 0, .int .i64 90]) rfl rfl _ _ #[.int .i64 0, .int .i64 0, .string ⟨#[]⟩, .int .i64 0, .slice none 0 0, .slice none 0 0, .string ⟨#[]⟩, .int .i64 0, .bool false, .int .i64 0, .int .i64 90] a0 (by kernel_rfl) rfl rfl rfl ?_; intro Wz hWz qz; have hBz := qz.belowN hB1 (by omega) (Nat.le_refl _))
  refine bodyPost_ret (results_cell_row rfl _ _ w.heap.size _ _ _ _ rfl hWz Tryz.underlying76 rfl (by kernel_rfl)) rfl ?_
  exact ⟨rfl, hBz⟩
set_option maxHeartbeats 2000000 in
theorem read_other (b t : ByteArray) (w : World) (h8 : 8 ≤ b.size) (hs : ∀ w, (Instr.slice 9 (.string b) none (some (.int .i64 8)) none).run Tryz.prog w = .ok (.string t) w) (n1 : (t.toList == [33, 60, 97, 114, 99, 104, 62, 10]) = false) (n2 : (t.toList == [33, 60, 116, 104, 105, 110, 62, 10]) = false) :
    Calls Tryz.prog 28 #[.string b] w fun r w' => r = .returned (.agg #[.int .i64 0, .int .i64 0, .string ⟨#[]⟩, .int .i64 0, .slice none 0 0, .slice none 0 0, .string ⟨#[]⟩, .int .i64 0, .bool false, .int .i64 0, .int .i64 90]) ∧ Below w.heap.size w w' := by
  have hI : ¬ (b.size : Int) < 8 := by omega
  have m1 : (t.toList != [33, 60, 97, 114, 99, 104, 62, 10]) = true := by simp [bne, n1]
  have m2 : (t.toList != [33, 60, 116, 104, 105, 110, 62, 10]) = true := by simp [bne, n2]
  have h0 : ((w.alloc (.cells #[.int .i64 0, .int .i64 0, .string ⟨#[]⟩, .int .i64 0, .slice none 0 0, .slice none 0 0, .string ⟨#[]⟩, .int .i64 0, .bool false, .int .i64 0, .int .i64 0] 76)).alloc (.cells #[.int .i64 0, .int .i64 0, .string ⟨#[]⟩, .int .i64 0, .slice none 0 0, .slice none 0 0, .string ⟨#[]⟩, .int .i64 0, .bool false, .int .i64 0, .int .i64 0] 76)).heap[w.heap.size]? = some (.cells #[.int .i64 0, .int .i64 0, .string ⟨#[]⟩, .int .i64 0, .slice none 0 0, .slice none 0 0, .string ⟨#[]⟩, .int .i64 0, .bool false, .int .i64 0, .int .i64 0] 76 (0, 0)) := hup (heap_alloc_new w _) _
  have h1 : ((w.alloc (.cells #[.int .i64 0, .int .i64 0, .string ⟨#[]⟩, .int .i64 0, .slice none 0 0, .slice none 0 0, .string ⟨#[]⟩, .int .i64 0, .bool false, .int .i64 0, .int .i64 0] 76)).alloc (.cells #[.int .i64 0, .int .i64 0, .string ⟨#[]⟩, .int .i64 0, .slice none 0 0, .slice none 0 0, .string ⟨#[]⟩, .int .i64 0, .bool false, .int .i64 0, .int .i64 0] 76)).heap[w.heap.size + 1]? = some (.cells #[.int .i64 0, .int .i64 0, .string ⟨#[]⟩, .int .i64 0, .slice none 0 0, .slice none 0 0, .string ⟨#[]⟩, .int .i64 0, .bool false, .int .i64 0, .int .i64 0] 76 (0, 0)) := heap_new2 w _ _
  have hB0 : Below w.heap.size w ((w.alloc (.cells #[.int .i64 0, .int .i64 0, .string ⟨#[]⟩, .int .i64 0, .slice none 0 0, .slice none 0 0, .string ⟨#[]⟩, .int .i64 0, .bool false, .int .i64 0, .int .i64 0] 76)).alloc (.cells #[.int .i64 0, .int .i64 0, .string ⟨#[]⟩, .int .i64 0, .slice none 0 0, .slice none 0 0, .string ⟨#[]⟩, .int .i64 0, .bool false, .int .i64 0, .int .i64 0] 76)) := bup (bup (Below.refl _ _) _) _
  clear h8
  go_enter Tryz.func28, Tryz.ntmps28
  go_wp2_with first
    | (refine wpList_store_kq rfl _ _ _ rfl (w.heap.size + 1) 10 (.int .i64 90) rfl rfl _ _ #[.int .i64 0, .int .i64 0, .string ⟨#[]⟩, .int .i64 0, .slice none 0 0, .slice none 0 0, .string ⟨#[]⟩, .int .i64 0, .bool false, .int .i64 0, .int .i64 90] h1 (by kernel_rfl) rfl rfl rfl ?_; intro W1 hW1 q1; have a0 := q1.keeps (by omega) h0; have hB1 := q1.belowN hB0 (by omega) (Nat.le_refl _); obtain ⟨x0, x1, x2, x3, x4, x5, x6, x7, x8, x9, x10⟩ := cells11 hW1)
    | (refine wpList_store_kq rfl _ _ _ rfl w.heap.size 0 (.agg #[.int .i64 0, .int .i64 0, .string ⟨#[]⟩, .int .i64 0, .slice none 0 0, .slice none 0 0, .string ⟨#[]⟩, .int .i64 0, .bool false, .int .i64 0, .int .i64 90]) rfl rfl _ _ #[.int .i64 0, .int .i64 0, .string ⟨#[]⟩, .int .i64 0, .slice none 0 0, .slice none 0 0, .string ⟨#[]⟩, .int .i64 0, .bool false, .int .i64 0, .int .i64 90] a0 (by kernel_rfl) rfl rfl rfl ?_; intro Wz hWz qz; have hBz := qz.belowN hB1 (by omega) (Nat.le_refl _))
  refine bodyPost_ret (results_cell_row rfl _ _ w.heap.size _ _ _ _ rfl hWz Tryz.underlying76 rfl (by kernel_rfl)) rfl ?_
  exact ⟨rfl, hBz⟩
/-- what is left for the loop -/
def msr (b : ByteArray) (B : Nat) (W : World) : Nat := match W.cell? ⟨B, 9, none⟩, W.cell? ⟨B, 10, none⟩ with | some (.int _ p), some (.int _ e) => if e = 0 then b.size - p.toNat + 1 else 0 | _, _ => 0
theorem msr_row {b : ByteArray} {B : Nat} {W : World} {s : Wk} {p : Ar} {e : Int} {vm va : Value} (h : W.heap[B]? = some (.cells (wrow s p e vm va) 76 (0, 0))) : msr b B W = if e = 0 then b.size - s.pos + 1 else 0 := by
  unfold msr
  rw [cell_row h 9 (.int .i64 (s.pos : Int)) rfl, cell_row h 10 (.int .i64 e) rfl]
  simp
theorem arK_kind (b : ByteArray) (k : Nat) : (arK b k).kind = (st b k).kind := by
  induction k with
  | zero => rfl
  | succ k ih =>
    rw [arK_succ, st_succ]
    unfold addA passW
    repeat' split
    all_goals rfl
theorem arK_len (b : ByteArray) (k : Nat) : (arK b k).mem.length ≤ k ∧ (arK b k).ats.length ≤ k := by
  have h := arK0_len (kind0 b) (ptL b k) (ar0 (kind0 b))
  rw [ptL_len] at h
  have e : (ar0 (kind0 b)).mem.length = 0 ∧ (ar0 (kind0 b)).ats.length = 0 := ⟨rfl, rfl⟩
  have e2 : arK b k = (ptL b k).foldl addA (ar0 (kind0 b)) := rfl
  rw [e2]; omega
/-- what read answers -/
def RdPost (b : ByteArray) (w : World) (r : Ending) (w' : World) : Prop := ∃ (n : Nat) (e : Int) (am : Option Addr) (lm cm : Nat) (aa : Option Addr) (la ca : Nat), First b n ∧ r = .returned (.agg (wrow (st b n) (arK b n) e (.slice am lm cm) (.slice aa la ca))) ∧ Rows2 w.heap.size w' (arK b n) (.slice am lm cm) (.slice aa la ca) ∧ Below w.heap.size w w' ∧ e = (if (st b n).pos < b.size then (pt b n).e else 0)
/-- what step answers at part k -/
def StPost (b : ByteArray) (k n₀ : Nat) (wx : World) (r : Ending) (w' : World) : Prop := FrS n₀ wx w' ∧ ∃ (k' : Nat) (e : Int) (am : Option Addr) (lm cm : Nat) (aa : Option Addr) (la ca : Nat), r = .returned (.agg (wrow (st b k') (arK b k') e (.slice am lm cm) (.slice aa la ca))) ∧ Rows2 n₀ w' (arK b k') (.slice am lm cm) (.slice aa la ca) ∧ ((k' = k ∧ ¬ e = 0 ∧ e = (pt b k).e) ∨ (k' = k + 1 ∧ e = 0 ∧ (pt b k).e = 0))
/-- the loop's state -/
def RdSt (b : ByteArray) (w : World) (wx : World) : Prop := ∃ (k : Nat) (e : Int) (am : Option Addr) (lm cm : Nat) (aa : Option Addr) (la ca : Nat), (∀ i, i < k → good b i) ∧ wx.heap[w.heap.size + 1]? = some (.cells (wrow (st b k) (arK b k) e (.slice am lm cm) (.slice aa la ca)) 76 (0, 0)) ∧ wx.heap[w.heap.size]? = some (.cells #[.int .i64 0, .int .i64 0, .string ⟨#[]⟩, .int .i64 0, .slice none 0 0, .slice none 0 0, .string ⟨#[]⟩, .int .i64 0, .bool false, .int .i64 0, .int .i64 0] 76 (0, 0)) ∧ Rows2 w.heap.size wx (arK b k) (.slice am lm cm) (.slice aa la ca) ∧ Below w.heap.size w wx ∧ (e = 0 ∨ (¬ e = 0 ∧ (st b k).pos < b.size ∧ e = (pt b k).e))
end Go.Proofs.YtnfplepaejjmfaaGreatDoor

-- arc: the document's read.
namespace Go.Proofs.YtnfplepaejjmfaaGreatDoor
open Go.ChangeShapes Go.WideShapes Go.ChangeAt Go.RowKit Go.Shelf
set_option linter.unusedVariables false
set_option maxRecDepth 100000

theorem hidE {p : Prop} (h : p) : Hid p := h
set_option maxHeartbeats 4000000 in
theorem read_reg (b : ByteArray) (w : World) (hb : b.size < 4294967281) (h8 : 8 ≤ b.size) (hs : ∀ w, (Instr.slice 9 (.string b) none (some (.int .i64 8)) none).run Tryz.prog w = .ok (.string ⟨#[33, 60, 97, 114, 99, 104, 62, 10]⟩) w) (hk0 : kind0 b = 0) :
    Calls Tryz.prog 28 #[.string b] w fun r w' => RdPost b w r w' := by
  have hI : ¬ (b.size : Int) < 8 := by omega
  have h0 : ((w.alloc (.cells #[.int .i64 0, .int .i64 0, .string ⟨#[]⟩, .int .i64 0, .slice none 0 0, .slice none 0 0, .string ⟨#[]⟩, .int .i64 0, .bool false, .int .i64 0, .int .i64 0] 76)).alloc (.cells #[.int .i64 0, .int .i64 0, .string ⟨#[]⟩, .int .i64 0, .slice none 0 0, .slice none 0 0, .string ⟨#[]⟩, .int .i64 0, .bool false, .int .i64 0, .int .i64 0] 76)).heap[w.heap.size]? = some (.cells #[.int .i64 0, .int .i64 0, .string ⟨#[]⟩, .int .i64 0, .slice none 0 0, .slice none 0 0, .string ⟨#[]⟩, .int .i64 0, .bool false, .int .i64 0, .int .i64 0] 76 (0, 0)) := hup (heap_alloc_new w _) _
  have h1 : ((w.alloc (.cells #[.int .i64 0, .int .i64 0, .string ⟨#[]⟩, .int .i64 0, .slice none 0 0, .slice none 0 0, .string ⟨#[]⟩, .int .i64 0, .bool false, .int .i64 0, .int .i64 0] 76)).alloc (.cells #[.int .i64 0, .int .i64 0, .string ⟨#[]⟩, .int .i64 0, .slice none 0 0, .slice none 0 0, .string ⟨#[]⟩, .int .i64 0, .bool false, .int .i64 0, .int .i64 0] 76)).heap[w.heap.size + 1]? = some (.cells #[.int .i64 0, .int .i64 0, .string ⟨#[]⟩, .int .i64 0, .slice none 0 0, .slice none 0 0, .string ⟨#[]⟩, .int .i64 0, .bool false, .int .i64 0, .int .i64 0] 76 (0, 0)) := heap_new2 w _ _
  have hB0 : Below w.heap.size w ((w.alloc (.cells #[.int .i64 0, .int .i64 0, .string ⟨#[]⟩, .int .i64 0, .slice none 0 0, .slice none 0 0, .string ⟨#[]⟩, .int .i64 0, .bool false, .int .i64 0, .int .i64 0] 76)).alloc (.cells #[.int .i64 0, .int .i64 0, .string ⟨#[]⟩, .int .i64 0, .slice none 0 0, .slice none 0 0, .string ⟨#[]⟩, .int .i64 0, .bool false, .int .i64 0, .int .i64 0] 76)) := bup (bup (Below.refl _ _) _) _
  have HW0 : Hid (#[.int .i64 0, .int .i64 0, .string ⟨#[]⟩, .int .i64 0, .slice none 0 0, .slice none 0 0, .string ⟨#[]⟩, .int .i64 0, .bool false, .int .i64 8, .int .i64 0] = wrow (st b 0) (arK b 0) 0 (.slice none 0 0) (.slice none 0 0)) := by
    show _ = wrow ⟨8, 0, kind0 b, false, ByteArray.empty⟩ (ar0 (kind0 b)) 0 _ _
    rw [hk0]; rfl
  have H8 := hidE h8
  have HBB := hidE hb
  clear hk0 hb h8
  go_enter Tryz.func28, Tryz.ntmps28
  go_wp2_with first
    | (refine wpList_store_kq rfl _ _ _ rfl (w.heap.size + 1) 9 (.int .i64 8) rfl rfl _ _ #[.int .i64 0, .int .i64 0, .string ⟨#[]⟩, .int .i64 0, .slice none 0 0, .slice none 0 0, .string ⟨#[]⟩, .int .i64 0, .bool false, .int .i64 8, .int .i64 0] h1 (by kernel_rfl) rfl rfl rfl ?_; intro W1 hW1 q1; have a0 := q1.keeps (by omega) h0; have hB1 := q1.belowN hB0 (by omega) (Nat.le_refl _))
  go_loopw [] (fun wx => RdSt b w wx) (fun wx => msr b (w.heap.size + 1) wx)
  case atStart => exact ⟨0, 0, none, 0, 0, none, 0, 0, fun i h => absurd h (Nat.not_lt_zero _), by rw [← HW0.out]; exact hW1, a0, ⟨⟨rfl, .inl ⟨rfl, rfl⟩⟩, ⟨rfl, .inl ⟨rfl, rfl⟩⟩⟩, hB1, .inl rfl⟩
  case round =>
    clear HW0 h0 h1 hB0 a0 hW1 hB1 q1
    obtain ⟨k, e, am, lm, cm, aa, la, ca, hk, hbox, hres, hR, hB, he⟩ := hrel
    rename World => wx
    have h8 := H8.out
    have hb := HBB.out
    have hms : msr b (w.heap.size + 1) wx = if e = 0 then b.size - (st b k).pos + 1 else 0 := msr_row hbox
    have hBs : w.heap.size + 1 < wx.heap.size := (Array.getElem?_eq_some_iff.1 hbox).1
    have HBOX := hidE hbox
    have HB := hidE hB
    have HRES := hidE hres
    have HKK := hidE hk
    have HMS := hidE hms
    by_cases hgo : e = 0 ∧ (st b k).pos < b.size
    · obtain ⟨rfl, hpos⟩ := hgo
      have hl := arK_len b k
      have hst8 := st_pos b h8 k hk
      have HS : Hid (Calls Tryz.prog 50 #[.string b, .agg (wrow (st b k) (arK b k) 0 (.slice am lm cm) (.slice aa la ca))] wx fun r w' => StPost b k w.heap.size wx r w') := by
        refine (rstep_c w.heap.size b (st b k) (arK b k) am aa lm cm la ca wx hB.size (arK_kind b k) hR (wk_ok b h8 k hk hpos) hb (by omega) (by omega)).mono ?_
        rintro r w' ⟨hF, ⟨q1, q2, q3⟩ | ⟨q1, am', lm', cm', aa', la', ca', q2, q3⟩⟩
        · exact ⟨hF, k, _, am, lm, cm, aa, la, ca, q2, q3, .inl ⟨rfl, q1, rfl⟩⟩
        · refine ⟨hF, k + 1, 0, am', lm', cm', aa', la', ca', ?_, ?_, .inr ⟨rfl, rfl, q1⟩⟩
          · rw [arK_succ, st_succ]; exact q2
          · rw [arK_succ]; exact q3
      have hdec : (pt b k).e = 0 → (st b k).pos < (st b (k + 1)).pos := fun h0 => by
        have g := lookW_fin b (st b k) h0
        have e1 : (st b (k + 1)).pos = (lookW b (st b k)).fin.toNat := rfl
        omega
      have hpI : (((st b k).pos : Nat) : Int) < (b.size : Int) := by omega
      have HDEC := hidE hdec
      have HPOS := hidE hpos
      clear hdec hres hk hms hl hst8 hR hpos he hB h8 hb
      unfold wrow at hbox
      obtain ⟨x0, x1, x2, x3, x4, x5, x6, x7, x8, x9, x10⟩ := cells11 hbox
      clear hbox
      go_wp2_with first
        | (go_at_call 50; refine HS.out.mono ?_; rintro r w1 ⟨hF1, k', e', am', lm', cm', aa', la', ca', rfl, hR1, hor⟩; have HOR := hidE hor; have HR1 := hidE hR1; clear hor hR1; have hbox1 := hF1.row HBOX.out (by decide) (by decide); have hres1 := hF1.row HRES.out (by decide) (by decide); have hB1 : Below w.heap.size w w1 := HB.out.trans hF1.below)
        | (refine wpList_store_kz rfl rfl _ _ _ rfl (w.heap.size + 1) 0 (.agg (wrow (st b k') (arK b k') e' (.slice am' lm' cm') (.slice aa' la' ca'))) rfl rfl _ _ (wrow (st b k') (arK b k') e' (.slice am' lm' cm') (.slice aa' la' ca')) hbox1 (by kernel_rfl) rfl rfl rfl ?_; intro W2 hW2 q2)
      go_roundw
      case rel =>
        have hR1 := HR1.out
        have hor := HOR.out
        refine ⟨k', e', am', lm', cm', aa', la', ca', fun i hi => ?_, hW2, q2.keeps (by omega) hres1, ⟨own_kq hR1.mem q2 hbox1 (by decide), own_kq hR1.ats q2 hbox1 (by decide)⟩, q2.belowN hB1 (by omega) (Nat.le_refl _), ?_⟩
        · rcases hor with ⟨c1, _, _⟩ | ⟨c1, _, hz⟩
          · exact HKK.out i (by omega)
          · by_cases hik : i < k
            · exact HKK.out i hik
            · have hik' : i = k := by omega
              rw [hik']
              exact ⟨HPOS.out, hz⟩
        · rcases hor with ⟨c1, c2, c3⟩ | ⟨c1, c2, hz⟩
          · exact .inr ⟨c2, by rw [c1]; exact HPOS.out, by rw [c1]; exact c3⟩
          · exact .inl c2
      case measure =>
        have a1 : msr b (w.heap.size + 1) wx = if (0 : Int) = 0 then b.size - (st b k).pos + 1 else 0 := msr_row HBOX.out
        have a2 : msr b (w.heap.size + 1) W2 = if e' = 0 then b.size - (st b k').pos + 1 else 0 := msr_row hW2
        rw [if_pos rfl] at a1
        have a4 := HPOS.out
        show msr b (w.heap.size + 1) W2 < msr b (w.heap.size + 1) wx
        rcases HOR.out with ⟨c1, c2, c3⟩ | ⟨c1, c2, hz⟩
        · rw [if_neg c2] at a2; omega
        · rw [if_pos c2, c1] at a2
          have a3 := HDEC.out hz
          omega
    · have hend : First b k ∧ e = (if (st b k).pos < b.size then (pt b k).e else 0) := by
        rcases he with rfl | ⟨h1, h2, h3⟩
        · have hp : ¬ (st b k).pos < b.size := fun h => hgo ⟨rfl, h⟩
          exact ⟨⟨hk, fun g => hp g.1⟩, by rw [if_neg hp]⟩
        · exact ⟨⟨hk, fun g => h1 (by rw [h3]; exact g.2)⟩, by rw [if_pos h2]; exact h3⟩
      have HEND := hidE hend
      have HROW := hidE hR
      have hd : e = 0 → ¬ (((st b k).pos : Nat) : Int) < (b.size : Int) := fun h0 => by
        intro h; exact hgo ⟨h0, by omega⟩
      clear hend hR he hgo hms hk hB h8 hb
      unfold wrow at hbox
      obtain ⟨x0, x1, x2, x3, x4, x5, x6, x7, x8, x9, x10⟩ := cells11 hbox
      clear hbox hres
      by_cases he0 : e = 0
      · have hq := hd he0
        have b1 : (e == 0) = true := by simp [he0]
        clear hd he0
        go_wp2_with (refine wpList_store_kq rfl _ _ _ rfl w.heap.size 0 (.agg (wrow (st b k) (arK b k) e (.slice am lm cm) (.slice aa la ca))) rfl rfl _ _ (wrow (st b k) (arK b k) e (.slice am lm cm) (.slice aa la ca)) HRES.out (by kernel_rfl) rfl rfl rfl ?_; intro Wz hWz qz)
        refine bodyPost_ret (results_cell_row rfl _ _ w.heap.size _ _ _ _ rfl hWz Tryz.underlying76 rfl (by kernel_rfl)) rfl ?_
        exact ⟨k, e, am, lm, cm, aa, la, ca, HEND.out.1, rfl, ⟨own_kq HROW.out.mem qz HRES.out (by decide), own_kq HROW.out.ats qz HRES.out (by decide)⟩, qz.belowN HB.out (Nat.le_refl _) (Nat.le_refl _), HEND.out.2⟩
      · have b1 : (e == 0) = false := by simp [he0]
        clear hd he0
        go_wp2_with (refine wpList_store_kq rfl _ _ _ rfl w.heap.size 0 (.agg (wrow (st b k) (arK b k) e (.slice am lm cm) (.slice aa la ca))) rfl rfl _ _ (wrow (st b k) (arK b k) e (.slice am lm cm) (.slice aa la ca)) HRES.out (by kernel_rfl) rfl rfl rfl ?_; intro Wz hWz qz)
        refine bodyPost_ret (results_cell_row rfl _ _ w.heap.size _ _ _ _ rfl hWz Tryz.underlying76 rfl (by kernel_rfl)) rfl ?_
        exact ⟨k, e, am, lm, cm, aa, la, ca, HEND.out.1, rfl, ⟨own_kq HROW.out.mem qz HRES.out (by decide), own_kq HROW.out.ats qz HRES.out (by decide)⟩, qz.belowN HB.out (Nat.le_refl _) (Nat.le_refl _), HEND.out.2⟩
end Go.Proofs.YtnfplepaejjmfaaGreatDoor

-- arc: the document's read.
namespace Go.Proofs.YtnfplepaejjmfaaGreatDoor
open Go.ChangeShapes Go.WideShapes Go.ChangeAt Go.RowKit Go.Shelf
set_option linter.unusedVariables false
set_option maxRecDepth 100000

set_option maxHeartbeats 4000000 in
theorem read_thin (b : ByteArray) (w : World) (hb : b.size < 4294967281) (h8 : 8 ≤ b.size) (hs : ∀ w, (Instr.slice 9 (.string b) none (some (.int .i64 8)) none).run Tryz.prog w = .ok (.string ⟨#[33, 60, 116, 104, 105, 110, 62, 10]⟩) w) (hk0 : kind0 b = 1) :
    Calls Tryz.prog 28 #[.string b] w fun r w' => RdPost b w r w' := by
  have hI : ¬ (b.size : Int) < 8 := by omega
  have h0 : ((w.alloc (.cells #[.int .i64 0, .int .i64 0, .string ⟨#[]⟩, .int .i64 0, .slice none 0 0, .slice none 0 0, .string ⟨#[]⟩, .int .i64 0, .bool false, .int .i64 0, .int .i64 0] 76)).alloc (.cells #[.int .i64 0, .int .i64 0, .string ⟨#[]⟩, .int .i64 0, .slice none 0 0, .slice none 0 0, .string ⟨#[]⟩, .int .i64 0, .bool false, .int .i64 0, .int .i64 0] 76)).heap[w.heap.size]? = some (.cells #[.int .i64 0, .int .i64 0, .string ⟨#[]⟩, .int .i64 0, .slice none 0 0, .slice none 0 0, .string ⟨#[]⟩, .int .i64 0, .bool false, .int .i64 0, .int .i64 0] 76 (0, 0)) := hup (heap_alloc_new w _) _
  have h1 : ((w.alloc (.cells #[.int .i64 0, .int .i64 0, .string ⟨#[]⟩, .int .i64 0, .slice none 0 0, .slice none 0 0, .string ⟨#[]⟩, .int .i64 0, .bool false, .int .i64 0, .int .i64 0] 76)).alloc (.cells #[.int .i64 0, .int .i64 0, .string ⟨#[]⟩, .int .i64 0, .slice none 0 0, .slice none 0 0, .string ⟨#[]⟩, .int .i64 0, .bool false, .int .i64 0, .int .i64 0] 76)).heap[w.heap.size + 1]? = some (.cells #[.int .i64 0, .int .i64 0, .string ⟨#[]⟩, .int .i64 0, .slice none 0 0, .slice none 0 0, .string ⟨#[]⟩, .int .i64 0, .bool false, .int .i64 0, .int .i64 0] 76 (0, 0)) := heap_new2 w _ _
  have hB0 : Below w.heap.size w ((w.alloc (.cells #[.int .i64 0, .int .i64 0, .string ⟨#[]⟩, .int .i64 0, .slice none 0 0, .slice none 0 0, .string ⟨#[]⟩, .int .i64 0, .bool false, .int .i64 0, .int .i64 0] 76)).alloc (.cells #[.int .i64 0, .int .i64 0, .string ⟨#[]⟩, .int .i64 0, .slice none 0 0, .slice none 0 0, .string ⟨#[]⟩, .int .i64 0, .bool false, .int .i64 0, .int .i64 0] 76)) := bup (bup (Below.refl _ _) _) _
  have HW0 : Hid (#[.int .i64 1, .int .i64 0, .string ⟨#[]⟩, .int .i64 0, .slice none 0 0, .slice none 0 0, .string ⟨#[]⟩, .int .i64 0, .bool false, .int .i64 8, .int .i64 0] = wrow (st b 0) (arK b 0) 0 (.slice none 0 0) (.slice none 0 0)) := by
    show _ = wrow ⟨8, 0, kind0 b, false, ByteArray.empty⟩ (ar0 (kind0 b)) 0 _ _
    rw [hk0]; rfl
  have H8 := hidE h8
  have HBB := hidE hb
  clear hk0 hb h8
  go_enter Tryz.func28, Tryz.ntmps28
  go_wp2_with first
    | (refine wpList_store_kq rfl _ _ _ rfl (w.heap.size + 1) 9 (.int .i64 8) rfl rfl _ _ #[.int .i64 0, .int .i64 0, .string ⟨#[]⟩, .int .i64 0, .slice none 0 0, .slice none 0 0, .string ⟨#[]⟩, .int .i64 0, .bool false, .int .i64 8, .int .i64 0] h1 (by kernel_rfl) rfl rfl rfl ?_; intro W1 hW1 q1; have a0 := q1.keeps (by omega) h0; have hB1 := q1.belowN hB0 (by omega) (Nat.le_refl _))
    | (refine wpList_store_kq rfl _ _ _ rfl (w.heap.size + 1) 0 (.int .i64 1) rfl rfl _ _ #[.int .i64 1, .int .i64 0, .string ⟨#[]⟩, .int .i64 0, .slice none 0 0, .slice none 0 0, .string ⟨#[]⟩, .int .i64 0, .bool false, .int .i64 8, .int .i64 0] hW1 (by kernel_rfl) rfl rfl rfl ?_; intro W2 hW2 q2; have a1 := q2.keeps (by omega) a0; have hB2 := q2.belowN hB1 (by omega) (Nat.le_refl _))
  go_loopw [] (fun wx => RdSt b w wx) (fun wx => msr b (w.heap.size + 1) wx)
  case atStart => exact ⟨0, 0, none, 0, 0, none, 0, 0, fun i h => absurd h (Nat.not_lt_zero _), by rw [← HW0.out]; exact hW2, a1, ⟨⟨rfl, .inl ⟨rfl, rfl⟩⟩, ⟨rfl, .inl ⟨rfl, rfl⟩⟩⟩, hB2, .inl rfl⟩
  case round =>
    clear HW0 h0 h1 hB0 a0 hW1 hB1 a1 hW2 hB2 q1 q2
    obtain ⟨k, e, am, lm, cm, aa, la, ca, hk, hbox, hres, hR, hB, he⟩ := hrel
    rename World => wx
    have h8 := H8.out
    have hb := HBB.out
    have hms : msr b (w.heap.size + 1) wx = if e = 0 then b.size - (st b k).pos + 1 else 0 := msr_row hbox
    have hBs : w.heap.size + 1 < wx.heap.size := (Array.getElem?_eq_some_iff.1 hbox).1
    have HBOX := hidE hbox
    have HB := hidE hB
    have HRES := hidE hres
    have HKK := hidE hk
    have HMS := hidE hms
    by_cases hgo : e = 0 ∧ (st b k).pos < b.size
    · obtain ⟨rfl, hpos⟩ := hgo
      have hl := arK_len b k
      have hst8 := st_pos b h8 k hk
      have HS : Hid (Calls Tryz.prog 50 #[.string b, .agg (wrow (st b k) (arK b k) 0 (.slice am lm cm) (.slice aa la ca))] wx fun r w' => StPost b k w.heap.size wx r w') := by
        refine (rstep_c w.heap.size b (st b k) (arK b k) am aa lm cm la ca wx hB.size (arK_kind b k) hR (wk_ok b h8 k hk hpos) hb (by omega) (by omega)).mono ?_
        rintro r w' ⟨hF, ⟨q1, q2, q3⟩ | ⟨q1, am', lm', cm', aa', la', ca', q2, q3⟩⟩
        · exact ⟨hF, k, _, am, lm, cm, aa, la, ca, q2, q3, .inl ⟨rfl, q1, rfl⟩⟩
        · refine ⟨hF, k + 1, 0, am', lm', cm', aa', la', ca', ?_, ?_, .inr ⟨rfl, rfl, q1⟩⟩
          · rw [arK_succ, st_succ]; exact q2
          · rw [arK_succ]; exact q3
      have hdec : (pt b k).e = 0 → (st b k).pos < (st b (k + 1)).pos := fun h0 => by
        have g := lookW_fin b (st b k) h0
        have e1 : (st b (k + 1)).pos = (lookW b (st b k)).fin.toNat := rfl
        omega
      have hpI : (((st b k).pos : Nat) : Int) < (b.size : Int) := by omega
      have HDEC := hidE hdec
      have HPOS := hidE hpos
      clear hdec hres hk hms hl hst8 hR hpos he hB h8 hb
      unfold wrow at hbox
      obtain ⟨x0, x1, x2, x3, x4, x5, x6, x7, x8, x9, x10⟩ := cells11 hbox
      clear hbox
      go_wp2_with first
        | (go_at_call 50; refine HS.out.mono ?_; rintro r w1 ⟨hF1, k', e', am', lm', cm', aa', la', ca', rfl, hR1, hor⟩; have HOR := hidE hor; have HR1 := hidE hR1; clear hor hR1; have hbox1 := hF1.row HBOX.out (by decide) (by decide); have hres1 := hF1.row HRES.out (by decide) (by decide); have hB1 : Below w.heap.size w w1 := HB.out.trans hF1.below)
        | (refine wpList_store_kz rfl rfl _ _ _ rfl (w.heap.size + 1) 0 (.agg (wrow (st b k') (arK b k') e' (.slice am' lm' cm') (.slice aa' la' ca'))) rfl rfl _ _ (wrow (st b k') (arK b k') e' (.slice am' lm' cm') (.slice aa' la' ca')) hbox1 (by kernel_rfl) rfl rfl rfl ?_; intro W2 hW2 q2)
      go_roundw
      case rel =>
        have hR1 := HR1.out
        have hor := HOR.out
        refine ⟨k', e', am', lm', cm', aa', la', ca', fun i hi => ?_, hW2, q2.keeps (by omega) hres1, ⟨own_kq hR1.mem q2 hbox1 (by decide), own_kq hR1.ats q2 hbox1 (by decide)⟩, q2.belowN hB1 (by omega) (Nat.le_refl _), ?_⟩
        · rcases hor with ⟨c1, _, _⟩ | ⟨c1, _, hz⟩
          · exact HKK.out i (by omega)
          · by_cases hik : i < k
            · exact HKK.out i hik
            · have hik' : i = k := by omega
              rw [hik']
              exact ⟨HPOS.out, hz⟩
        · rcases hor with ⟨c1, c2, c3⟩ | ⟨c1, c2, hz⟩
          · exact .inr ⟨c2, by rw [c1]; exact HPOS.out, by rw [c1]; exact c3⟩
          · exact .inl c2
      case measure =>
        have a1 : msr b (w.heap.size + 1) wx = if (0 : Int) = 0 then b.size - (st b k).pos + 1 else 0 := msr_row HBOX.out
        have a2 : msr b (w.heap.size + 1) W2 = if e' = 0 then b.size - (st b k').pos + 1 else 0 := msr_row hW2
        rw [if_pos rfl] at a1
        have a4 := HPOS.out
        show msr b (w.heap.size + 1) W2 < msr b (w.heap.size + 1) wx
        rcases HOR.out with ⟨c1, c2, c3⟩ | ⟨c1, c2, hz⟩
        · rw [if_neg c2] at a2; omega
        · rw [if_pos c2, c1] at a2
          have a3 := HDEC.out hz
          omega
    · have hend : First b k ∧ e = (if (st b k).pos < b.size then (pt b k).e else 0) := by
        rcases he with rfl | ⟨h1, h2, h3⟩
        · have hp : ¬ (st b k).pos < b.size := fun h => hgo ⟨rfl, h⟩
          exact ⟨⟨hk, fun g => hp g.1⟩, by rw [if_neg hp]⟩
        · exact ⟨⟨hk, fun g => h1 (by rw [h3]; exact g.2)⟩, by rw [if_pos h2]; exact h3⟩
      have HEND := hidE hend
      have HROW := hidE hR
      have hd : e = 0 → ¬ (((st b k).pos : Nat) : Int) < (b.size : Int) := fun h0 => by
        intro h; exact hgo ⟨h0, by omega⟩
      clear hend hR he hgo hms hk hB h8 hb
      unfold wrow at hbox
      obtain ⟨x0, x1, x2, x3, x4, x5, x6, x7, x8, x9, x10⟩ := cells11 hbox
      clear hbox hres
      by_cases he0 : e = 0
      · have hq := hd he0
        have b1 : (e == 0) = true := by simp [he0]
        clear hd he0
        go_wp2_with (refine wpList_store_kq rfl _ _ _ rfl w.heap.size 0 (.agg (wrow (st b k) (arK b k) e (.slice am lm cm) (.slice aa la ca))) rfl rfl _ _ (wrow (st b k) (arK b k) e (.slice am lm cm) (.slice aa la ca)) HRES.out (by kernel_rfl) rfl rfl rfl ?_; intro Wz hWz qz)
        refine bodyPost_ret (results_cell_row rfl _ _ w.heap.size _ _ _ _ rfl hWz Tryz.underlying76 rfl (by kernel_rfl)) rfl ?_
        exact ⟨k, e, am, lm, cm, aa, la, ca, HEND.out.1, rfl, ⟨own_kq HROW.out.mem qz HRES.out (by decide), own_kq HROW.out.ats qz HRES.out (by decide)⟩, qz.belowN HB.out (Nat.le_refl _) (Nat.le_refl _), HEND.out.2⟩
      · have b1 : (e == 0) = false := by simp [he0]
        clear hd he0
        go_wp2_with (refine wpList_store_kq rfl _ _ _ rfl w.heap.size 0 (.agg (wrow (st b k) (arK b k) e (.slice am lm cm) (.slice aa la ca))) rfl rfl _ _ (wrow (st b k) (arK b k) e (.slice am lm cm) (.slice aa la ca)) HRES.out (by kernel_rfl) rfl rfl rfl ?_; intro Wz hWz qz)
        refine bodyPost_ret (results_cell_row rfl _ _ w.heap.size _ _ _ _ rfl hWz Tryz.underlying76 rfl (by kernel_rfl)) rfl ?_
        exact ⟨k, e, am, lm, cm, aa, la, ca, HEND.out.1, rfl, ⟨own_kq HROW.out.mem qz HRES.out (by decide), own_kq HROW.out.ats qz HRES.out (by decide)⟩, qz.belowN HB.out (Nat.le_refl _) (Nat.le_refl _), HEND.out.2⟩
end Go.Proofs.YtnfplepaejjmfaaGreatDoor

-- arc: the document's Parse.
namespace Go.Proofs.YtnfplepaejjmfaaGreatDoor
open Go.ChangeShapes Go.WideShapes Go.ChangeAt Go.RowKit Go.Shelf
set_option linter.unusedVariables false
set_option maxRecDepth 100000

theorem results_ctt {P : Program} {fn : Func} {p u v : Tmp} {ty : TypeId} (h : fn.results = #[.cell p ty, .tmp u, .tmp v]) (tmps : Array Value) (w : World) (g : Nat) (t : TypeId) (cs : Array Value) (fr : Nat × Nat) (d : TypeDesc) (x y : Value)
    (hp : tmps.getD p undef = .pointer (some ⟨g, 0, none⟩)) (hx : tmps.getD u undef = x) (hy : tmps.getD v undef = y) (hg : w.heap[g]? = some (.cells cs t fr))
    (hu : P.underlying ty = some d) (hd : (match d with | .struct _ | .array _ _ => true | _ => false) = true) (hi : (P.info? ty).map (·.size) = some cs.size) :
    (results fn tmps).run P w = .ok (.tuple #[.agg cs, x, y]) w := by
  have hp' : tmps[p]?.getD undef = .pointer (some ⟨g, 0, none⟩) := by simpa using hp
  have hx' : tmps[u]?.getD undef = x := by simpa using hx
  have hy' : tmps[v]?.getD undef = y := by simpa using hy
  simp only [results, h]
  simp [Result.andThen, hp', hx', hy', asAddr, run_loadVar_row w g t ty cs fr d hg hu hd hi]
theorem take8_reg (b : ByteArray) (h : b.data.toList.take 8 = mREG) : strL (b.data.toList.take 8) = ⟨#[33, 60, 97, 114, 99, 104, 62, 10]⟩ := by rw [h]; rfl
theorem take8_thin (b : ByteArray) (h : b.data.toList.take 8 = mTHIN) : strL (b.data.toList.take 8) = ⟨#[33, 60, 116, 104, 105, 110, 62, 10]⟩ := by rw [h]; rfl
/-- read, of bytes with a magic -/
theorem read_c (b : ByteArray) (w : World) (hb : b.size < 4294967281) (hm : magic b) : Calls Tryz.prog 28 #[.string b] w fun r w' => RdPost b w r w' := by
  have h8 := magic8 b hm
  rcases hm with h | h
  · exact read_reg b w hb h8 (slice8 b _ h8 (take8_reg b h)) (by unfold kind0; rw [h]; decide)
  · exact read_thin b w hb h8 (slice8 b _ h8 (take8_thin b h)) (by unfold kind0; rw [h]; decide)
theorem read_no (b : ByteArray) (w : World) (hm : ¬ magic b) : Calls Tryz.prog 28 #[.string b] w fun r w' => r = .returned (.agg (wrow ⟨0, 0, 0, false, ByteArray.empty⟩ (ar0 0) 90 (.slice none 0 0) (.slice none 0 0))) ∧ Below w.heap.size w w' := by
  by_cases h8 : b.size < 8
  · exact read_short b w h8
  · have h8' : 8 ≤ b.size := by omega
    refine read_other b _ w h8' (slice8 b _ h8' rfl) (ne_lit _ _ ?_) (ne_lit _ _ ?_)
    · rw [strL_data]; exact fun h => hm (.inl h)
    · rw [strL_data]; exact fun h => hm (.inr h)
def z6 : Array Value := #[.int .i64 0, .int .i64 0, .string ⟨#[]⟩, .int .i64 0, .slice none 0 0, .slice none 0 0]
/-- what the document's Parse answers -/
def RpPost (b : ByteArray) (w : World) (e : Ending) (w' : World) : Prop := ∃ vm va p pl er, e = .returned (.tuple #[.agg (parRow p vm va), .int .i64 pl, .int .i64 er]) ∧ PRows w.heap.size w' p vm va ∧ Below w.heap.size w w' ∧ Ans b p pl er
def RdL (kd fm sp pc pl er : Int) (ix tb : ByteArray) (ib : Bool) (p : Ar) (wx : World) (r : Ending) (w' : World) : Prop := ∃ (am : Option Addr) (lm cm : Nat) (aa : Option Addr) (la ca : Nat), r = .returned (.agg #[.int .i64 kd, .int .i64 fm, .string ix, .int .i64 sp, .slice am lm cm, .slice aa la ca, .string tb, .int .i64 pc, .bool ib, .int .i64 pl, .int .i64 er]) ∧ Rows2 wx.heap.size w' p (.slice am lm cm) (.slice aa la ca) ∧ Below wx.heap.size wx w'
def RpOk (kd fm sp : Int) (ix : ByteArray) (p : Ar) (w : World) (r : Ending) (w' : World) : Prop := ∃ (am : Option Addr) (lm cm : Nat) (aa : Option Addr) (la ca : Nat), r = .returned (.tuple #[.agg #[.int .i64 kd, .int .i64 fm, .string ix, .int .i64 sp, .slice am lm cm, .slice aa la ca], .int .i64 0, .int .i64 0]) ∧ Rows2 w.heap.size w' p (.slice am lm cm) (.slice aa la ca) ∧ Below w.heap.size w w'
set_option maxHeartbeats 2000000 in
theorem rpa_ok (b : ByteArray) (kd fm sp pc pl : Int) (ix tb : ByteArray) (ib : Bool) (p : Ar) (w : World)
    (HR : Hid (∀ wx, Calls Tryz.prog 28 #[.string b] wx fun r w' => RdL kd fm sp pc pl 0 ix tb ib p wx r w')) :
    Calls Tryz.prog 16 #[.string b] w fun e w' => RpOk kd fm sp ix p w e w' := by
  have h0 : (w.alloc (.cells z6 43)).heap[w.heap.size]? = some (.cells z6 43 (0, 0)) := heap_alloc_new w _
  have hB0 : Below w.heap.size w (w.alloc (.cells z6 43)) := bup (Below.refl _ _) _
  have hL0 : w.heap.size ≤ (w.alloc (.cells z6 43)).heap.size := hB0.size
  unfold z6 at h0 hB0 hL0
  go_enter Tryz.func16, Tryz.ntmps16
  go_wp2_with first
    | (go_at_call 28; refine (HR.out _).mono ?_; rintro r w1 ⟨am, lm, cm, aa, la, ca, rfl, ⟨hm1, ha1⟩, hb1⟩; have j0 := hup (hkeep hb1 h0) (.cells #[.int .i64 kd, .int .i64 fm, .string ix, .int .i64 sp, .slice am lm cm, .slice aa la ca, .string tb, .int .i64 pc, .bool ib, .int .i64 pl, .int .i64 0] 76); have hm2 := own_up (own_base hm1 hL0) (.cells #[.int .i64 kd, .int .i64 fm, .string ix, .int .i64 sp, .slice am lm cm, .slice aa la ca, .string tb, .int .i64 pc, .bool ib, .int .i64 pl, .int .i64 0] 76); have ha2 := own_up (own_base ha1 hL0) (.cells #[.int .i64 kd, .int .i64 fm, .string ix, .int .i64 sp, .slice am lm cm, .slice aa la ca, .string tb, .int .i64 pc, .bool ib, .int .i64 pl, .int .i64 0] 76); have hB1 := bup (bel3 hB0 hb1) (.cells #[.int .i64 kd, .int .i64 fm, .string ix, .int .i64 sp, .slice am lm cm, .slice aa la ca, .string tb, .int .i64 pc, .bool ib, .int .i64 pl, .int .i64 0] 76))
    | (refine wpList_store_kq rfl _ _ _ rfl w.heap.size 0 (.agg #[.int .i64 kd, .int .i64 fm, .string ix, .int .i64 sp, .slice am lm cm, .slice aa la ca]) rfl rfl _ _ #[.int .i64 kd, .int .i64 fm, .string ix, .int .i64 sp, .slice am lm cm, .slice aa la ca] j0 (by kernel_rfl) rfl rfl rfl ?_; intro Wz hWz qz; have hmz := own_kq hm2 qz j0 (by decide); have haz := own_kq ha2 qz j0 (by decide); have hBz := qz.belowN hB1 (Nat.le_refl _) (Nat.le_refl _))
  refine bodyPost_ret (results_ctt rfl _ _ w.heap.size _ _ _ _ _ _ rfl rfl rfl hWz Tryz.underlying43 rfl (by kernel_rfl)) rfl ?_
  exact ⟨am, lm, cm, aa, la, ca, rfl, ⟨hmz, haz⟩, hBz⟩
theorem set6 {w : World} {k : Nat} {t : TypeId} {x0 x1 x2 x3 x4 x5 : Value} (v0 v1 v2 v3 v4 v5 : Value) (h : w.heap[k]? = some (.cells #[x0, x1, x2, x3, x4, x5] t (0, 0))) :
    ((((((w.setCell ⟨k, 0, none⟩ v0).setCell ⟨k, 1, none⟩ v1).setCell ⟨k, 2, none⟩ v2).setCell ⟨k, 3, none⟩ v3).setCell ⟨k, 4, none⟩ v4).setCell ⟨k, 5, none⟩ v5).heap[k]? = some (.cells #[v0, v1, v2, v3, v4, v5] t (0, 0)) ∧ (∀ n a, n ≤ k → Below n a w → Below n a ((((((w.setCell ⟨k, 0, none⟩ v0).setCell ⟨k, 1, none⟩ v1).setCell ⟨k, 2, none⟩ v2).setCell ⟨k, 3, none⟩ v3).setCell ⟨k, 4, none⟩ v4).setCell ⟨k, 5, none⟩ v5)) := by
  refine ⟨?_, fun n a hn hb => ?_⟩
  · have H := (set_row (i := 5) v5 (set_row (i := 4) v4 (set_row (i := 3) v3 (set_row (i := 2) v2 (set_row (i := 1) v1 (set_row (i := 0) v0 h))))))
    simp only [List.setIfInBounds_toArray, List.set_cons_succ, List.set_cons_zero] at H
    exact H
  · exact (Below.setCell (Below.setCell (Below.setCell (Below.setCell (Below.setCell (Below.setCell hb hn _) hn _) hn _) hn _) hn _) hn _)
set_option maxHeartbeats 2000000 in
theorem rpa_no (b : ByteArray) (kd fm sp pc pl er : Int) (ix tb : ByteArray) (ib : Bool) (p : Ar) (w : World)
    (HR : Hid (∀ wx, Calls Tryz.prog 28 #[.string b] wx fun r w' => RdL kd fm sp pc pl er ix tb ib p wx r w')) (he : ¬ er = 0) :
    Calls Tryz.prog 16 #[.string b] w fun e w' => e = .returned (.tuple #[.agg #[.int .i64 0, .int .i64 0, .string ⟨#[]⟩, .int .i64 0, .slice none 0 0, .slice none 0 0], .int .i64 pl, .int .i64 er]) ∧ Below w.heap.size w w' := by
  have h0 : (w.alloc (.cells z6 43)).heap[w.heap.size]? = some (.cells z6 43 (0, 0)) := heap_alloc_new w _
  have hB0 : Below w.heap.size w (w.alloc (.cells z6 43)) := bup (Below.refl _ _) _
  unfold z6 at h0 hB0
  have b1 : (er == 0) = false := by simp [he]
  have b2 : (er != 0) = true := by simp [bne, b1]
  clear he
  go_enter Tryz.func16, Tryz.ntmps16
  go_wp2_with first
    | (go_at_call 28; refine (HR.out _).mono ?_; rintro r w1 ⟨am, lm, cm, aa, la, ca, rfl, _, hb1⟩; have j0 := hkeep hb1 h0; obtain ⟨c0, c1, c2, c3, c4, c5⟩ := cells6 j0; have f0 := froz_row j0 0; have f1 := froz_row j0 1; have f2 := froz_row j0 2; have f3 := froz_row j0 3; have f4 := froz_row j0 4; have f5 := froz_row j0 5; have hl1 : w.heap.size < w1.heap.size := (Array.getElem?_eq_some_iff.1 j0).1; have hB1 := bel3 hB0 hb1)
  go_region
  have HW := set6 (.int .i64 0) (.int .i64 0) (.string ⟨#[]⟩) (.int .i64 0) (.slice none 0 0) (.slice none 0 0) j0
  clear c0 c1 c2 c3 c4 c5 f0 f1 f2 f3 f4 f5
  generalize ((((((w1.setCell ⟨w.heap.size, 0, none⟩ (.int .i64 0)).setCell ⟨w.heap.size, 1, none⟩ (.int .i64 0)).setCell ⟨w.heap.size, 2, none⟩ (.string ⟨#[]⟩)).setCell ⟨w.heap.size, 3, none⟩ (.int .i64 0)).setCell ⟨w.heap.size, 4, none⟩ (.slice none 0 0)).setCell ⟨w.heap.size, 5, none⟩ (.slice none 0 0)) = WX at HW ⊢
  have hWz := hup HW.1 (.cells #[.int .i64 kd, .int .i64 fm, .string ix, .int .i64 sp, .slice am lm cm, .slice aa la ca, .string tb, .int .i64 pc, .bool ib, .int .i64 pl, .int .i64 er] 76)
  have hBz : Below w.heap.size w ((WX.alloc (.cells #[.int .i64 kd, .int .i64 fm, .string ix, .int .i64 sp, .slice am lm cm, .slice aa la ca, .string tb, .int .i64 pc, .bool ib, .int .i64 pl, .int .i64 er] 76)).drew) := (bup (HW.2 _ _ (Nat.le_refl _) hB1) _).drew
  go_wp2
  refine bodyPost_ret (results_ctt rfl _ _ w.heap.size _ _ _ _ _ _ rfl rfl rfl (show ((WX.alloc (.cells #[.int .i64 kd, .int .i64 fm, .string ix, .int .i64 sp, .slice am lm cm, .slice aa la ca, .string tb, .int .i64 pc, .bool ib, .int .i64 pl, .int .i64 er] 76)).drew).heap[w.heap.size]? = _ from hWz) Tryz.underlying43 rfl (by kernel_rfl)) rfl ?_
  exact ⟨rfl, hBz⟩
theorem first_ex (b : ByteArray) (h8 : 8 ≤ b.size) : ∃ n, First b n := by
  have hex : ∃ k, ¬ good b k := by
    refine Classical.byContradiction fun h => ?_
    have hall : ∀ k, good b k := fun k => Classical.byContradiction fun q => h ⟨k, q⟩
    have := st_pos b h8 b.size (fun i _ => hall i)
    omega
  have least : ∀ k, ¬ good b k → ∃ n, First b n := by
    intro k
    induction k using Nat.strongRecOn with
    | _ k ih =>
      intro hk
      by_cases h : ∃ j, j < k ∧ ¬ good b j
      · obtain ⟨j, hj, hq⟩ := h
        exact ih j hj hq
      · exact ⟨k, fun i hi => Classical.byContradiction fun q => h ⟨i, hi, q⟩, hk⟩
  obtain ⟨k, hk⟩ := hex
  exact least k hk
theorem own_nil (n : Nat) (w : World) (e : TypeId) (size : Nat) : w.ownsRow n e size (.slice none 0 0) 0 [] := ⟨by simp, .inl ⟨rfl, rfl⟩⟩
theorem rparse9_c (b : ByteArray) (w : World) (hb : b.size < 4294967281) : Calls Tryz.prog 16 #[.string b] w fun e w' => RpPost b w e w' := by
  by_cases hm : magic b
  · obtain ⟨n, hF⟩ := first_ex b (magic8 b hm)
    have HR : ∀ wx : World, Calls Tryz.prog 28 #[.string b] wx fun r w' => RdL (arK b n).kind (arK b n).form (arK b n).stamp ((st b n).cnt : Int) ((st b n).pos : Int) (if (st b n).pos < b.size then (pt b n).e else 0) (arK b n).index (st b n).tab (st b n).idx (arK b n) wx r w' := fun wx => by
      refine (read_c b wx hb hm).mono ?_
      rintro r w' ⟨n', e, am, lm, cm, aa, la, ca, hF', rfl, hR, hB, rfl⟩
      obtain rfl := hF.unique hF'
      exact ⟨am, lm, cm, aa, la, ca, rfl, hR, hB⟩
    by_cases hp : (st b n).pos < b.size
    · rw [if_pos hp] at HR
      have hne : ¬ (pt b n).e = 0 := fun h => hF.last ⟨hp, h⟩
      refine (rpa_no b _ _ _ _ _ _ _ _ _ _ w HR hne).mono ?_
      rintro e w' ⟨rfl, hB⟩
      exact ⟨.slice none 0 0, .slice none 0 0, ar0 0, _, _, rfl, ⟨own_nil _ _ _ _, own_nil _ _ _ _⟩, hB, .inr ⟨hm, n, hF, .inr ⟨hp, rfl, rfl, rfl⟩⟩⟩
    · rw [if_neg hp] at HR
      refine (rpa_ok b _ _ _ _ _ _ _ _ _ w HR).mono ?_
      rintro e w' ⟨am, lm, cm, aa, la, ca, rfl, hR, hB⟩
      exact ⟨.slice am lm cm, .slice aa la ca, arK b n, 0, 0, rfl, ⟨hR.mem, hR.ats⟩, hB, .inr ⟨hm, n, hF, .inl ⟨hp, rfl, rfl, rfl⟩⟩⟩
  · have HR : ∀ wx : World, Calls Tryz.prog 28 #[.string b] wx fun r w' => RdL 0 0 0 0 0 90 ByteArray.empty ByteArray.empty false (ar0 0) wx r w' := fun wx => by
      refine (read_no b wx hm).mono ?_
      rintro r w' ⟨rfl, hB⟩
      exact ⟨none, 0, 0, none, 0, 0, rfl, ⟨own_nil _ _ _ _, own_nil _ _ _ _⟩, hB⟩
    refine (rpa_no b _ _ _ _ _ _ _ _ _ _ w HR (by decide)).mono ?_
    rintro e w' ⟨rfl, hB⟩
    exact ⟨.slice none 0 0, .slice none 0 0, ar0 0, _, _, rfl, ⟨own_nil _ _ _ _, own_nil _ _ _ _⟩, hB, .inl ⟨hm, rfl, rfl, rfl⟩⟩
theorem Ans.unique {b : ByteArray} {p p' : Ar} {pl pl' er er' : Int} (h : Ans b p pl er) (k : Ans b p' pl' er') : p = p' ∧ pl = pl' ∧ er = er' := by
  rcases h with ⟨h1, h2, h3, h4⟩ | ⟨h1, n, h2, h3⟩
  · rcases k with ⟨k1, k2, k3, k4⟩ | ⟨k1, _⟩
    · exact ⟨h2.trans k2.symm, h3.trans k3.symm, h4.trans k4.symm⟩
    · exact absurd k1 h1
  · rcases k with ⟨k1, _⟩ | ⟨k1, m, k2, k3⟩
    · exact absurd h1 k1
    · obtain rfl := h2.unique k2
      rcases h3 with ⟨a1, a2, a3, a4⟩ | ⟨a1, a2, a3, a4⟩
      · rcases k3 with ⟨c1, c2, c3, c4⟩ | ⟨c1, _⟩
        · exact ⟨a2.trans c2.symm, a3.trans c3.symm, a4.trans c4.symm⟩
        · exact absurd c1 a1
      · rcases k3 with ⟨c1, _⟩ | ⟨c1, c2, c3, c4⟩
        · exact absurd a1 c1
        · exact ⟨a2.trans c2.symm, a3.trans c3.symm, a4.trans c4.symm⟩
end Go.Proofs.YtnfplepaejjmfaaGreatDoor
