
-- names.Encode: the memory of its loop.
import Derived.Test.YtmlnnbinbbmmhaaDoorE2
import Derived.Test.YtmlnnbinbbmmhaaDoorRow
import Derived.Laws.CopyOwn
import Derived.Laws.MakeOwn
namespace Go.Proofs.YtmlnnbinbbmmhaaDoor
open Go.ChangeShapes Go.WideShapes Go.ChangeAt Go.RowKit
set_option linter.unusedVariables false
set_option maxRecDepth 100000

theorem info9 : (Tryd.prog.info? 9).map (fun i => (i.zero, i.size, i.bytes)) = some (some (.string ⟨#[]⟩), 1, 16) := by kernel_rfl
theorem made_strs (n : Nat) : madeCells #[.string ⟨#[]⟩] n = rowAt (fun _ => []) n 0 := by
  rw [rowAt_zero]
  apply Array.ext
  · simp [madeCells]
  · intro i h1 h2; simp [madeCells, Nat.mod_one]
theorem rowAt_any (φ ψ : Nat → List UInt8) (n : Nat) : rowAt φ n 0 = rowAt ψ n 0 := by rw [rowAt_zero, rowAt_zero]
theorem mk_strs (n : Nat) (hn : n ≤ 1100000) (W : World) : (Instr.makeSlice 34 (.int .i64 n) (.int .i64 n)).run Tryd.prog W = .ok (.slice (some ⟨W.heap.size, 0, none⟩) n n) (W.alloc (.cells (rowAt (fun _ => []) n 0) 9)) := by
  obtain ⟨i0, hi, hz0, hz1, hz2⟩ := info_parts info9
  rw [run_makeSlice W 34 9 i0 (.string ⟨#[]⟩) Tryd.underlying34 hi hz0 .i64 .i64 n n (by omega) (by omega) (by rw [hz1, Int.toNat_natCast]; omega) (by rw [hz2]; omega) (by omega), hz1, Int.toNat_natCast, Nat.mul_one]
  rw [show (Value.string ⟨#[]⟩).cells = #[.string ⟨#[]⟩] from rfl, made_strs]
theorem rowAt_get (φ : Nat → List UInt8) (n j : Nat) (hj : j < n) : (rowAt φ n j)[j]? = some (.string ⟨#[]⟩) := by
  simp [rowAt, hj]
theorem hupE {w : World} {b : Nat} {x : Obj} (h : w.heap[b]? = some x) (o : Obj) : (w.alloc o).heap[b]? = some x := (Below.heap_alloc w o b (Array.getElem?_eq_some_iff.1 h).1).trans h
abbrev names0 : Array Value := #[.slice none 0 0, .slice none 0 0, .string ⟨#[]⟩]
/-- the result's cell, the table's builder, the two rows -/
structure EncSt (w : World) (f g : Nat) (φ ψ : Nat → List UInt8) (n i j : Nat) (tab : List UInt8) (wx : World) : Prop where
  below : Below w.heap.size w wx
  isB : IsB (w.heap.size + 1) (w.heap.size + 1) tab wx
  res : wx.heap[w.heap.size]? = some (.cells names0 36 (0, 0))
  rowF : wx.heap[f]? = some (.cells (rowAt φ n i) 9 (0, 0))
  rowG : wx.heap[g]? = some (.cells (rowAt ψ n j) 9 (0, 0))
  size : w.heap.size + 4 ≤ wx.heap.size
/-- where the two rows lie -/
structure FG (w : World) (f g : Nat) : Prop where
  ne : ¬ f = g
  f0 : w.heap.size + 2 ≤ f
  g0 : w.heap.size + 2 ≤ g
  f1 : f < w.heap.size + 4
  g1 : g < w.heap.size + 4
variable {w : World} {f g : Nat} {φ ψ : Nat → List UInt8} {n i j : Nat} {tab : List UInt8} {wx : World}
theorem EncSt.on (h : EncSt w f g φ ψ n i j tab wx) (q : FG w f g) {wy : World} (b : Below wx.heap.size wx wy) : EncSt w f g φ ψ n i j tab wy :=
  have hs := h.size
  have := q.f1
  have := q.g1
  ⟨h.below.trans (b.mono h.below.size), isB_below h.isB b, (b.block _ (by omega)).trans h.res, (b.block _ (by omega)).trans h.rowF, (b.block _ (by omega)).trans h.rowG, Nat.le_trans h.size b.size⟩
theorem EncSt.wrote (h : EncSt w f g φ ψ n i j tab wx) (q : FG w f g) {wy : World} {tab' : List UInt8} (hb : IsB (w.heap.size + 1) (w.heap.size + 1) tab' wy) (b : Below (w.heap.size + 1) wx wy) (k : Kept (w.heap.size + 1) wx wy) : EncSt w f g φ ψ n i j tab' wy := by
  have hf0 := q.f0
  have hg0 := q.g0
  refine ⟨h.below.trans (b.mono (Nat.le_succ _)), hb, (b.block _ (by omega)).trans h.res, k _ _ h.rowF (by simp; omega) ?_, k _ _ h.rowG (by simp; omega) ?_, Nat.le_trans h.size b.size⟩
  · intro c fz e; injection e with _ e _; revert e; decide
  · intro c fz e; injection e with _ e _; revert e; decide
theorem EncSt.setF (h : EncSt w f g φ ψ n j i tab wx) (q : FG w f g) (hj : j < n) : EncSt w f g φ ψ n (j + 1) i tab (wx.setCell ⟨f, j, none⟩ (.string (strL (φ j)))) := by
  have hf0 := q.f0
  have hr := heap_setCell_same wx f j _ _ (.string (strL (φ j))) h.rowF
  rw [rowAt_set φ n j hj] at hr
  have ho : ∀ k, ¬ k = f → (wx.setCell ⟨f, j, none⟩ (.string (strL (φ j)))).heap[k]? = wx.heap[k]? := fun k hk => heap_setCell_other _ _ _ _ hk
  refine ⟨h.below.setCell (p := ⟨f, j, none⟩) (by show w.heap.size ≤ f; omega) _, isB_kept h.isB f _ _ _ h.rowF (by omega) hr rfl rfl rfl (by simp) ho, (ho _ (by omega)).trans h.res, hr, (ho _ (fun e => q.ne e.symm)).trans h.rowG, by simpa using h.size⟩
theorem EncSt.setG (h : EncSt w f g φ ψ n i j tab wx) (q : FG w f g) (hj : j < n) : EncSt w f g φ ψ n i (j + 1) tab (wx.setCell ⟨g, j, none⟩ (.string (strL (ψ j)))) := by
  have hg0 := q.g0
  have hr := heap_setCell_same wx g j _ _ (.string (strL (ψ j))) h.rowG
  rw [rowAt_set ψ n j hj] at hr
  have ho : ∀ k, ¬ k = g → (wx.setCell ⟨g, j, none⟩ (.string (strL (ψ j)))).heap[k]? = wx.heap[k]? := fun k hk => heap_setCell_other _ _ _ _ hk
  refine ⟨h.below.setCell (p := ⟨g, j, none⟩) (by show w.heap.size ≤ g; omega) _, isB_kept h.isB g _ _ _ h.rowG (by omega) hr rfl rfl rfl (by simp) ho, (ho _ (by omega)).trans h.res, (ho _ q.ne).trans h.rowF, hr, by simpa using h.size⟩
theorem EncSt.skipG (h : EncSt w f g φ ψ n i j tab wx) (e : ψ j = []) : EncSt w f g φ ψ n i (j + 1) tab wx :=
  ⟨h.below, h.isB, h.res, h.rowF, by rw [rowAt_skip ψ n j e]; exact h.rowG, h.size⟩
theorem EncSt.cellF (h : EncSt w f g φ ψ n j i tab wx) (hj : j < n) : wx.cell? ⟨f, j, none⟩ = some (.string ⟨#[]⟩) ∧ wx.frozen? ⟨f, j, none⟩ = false :=
  ⟨by rw [Lib.cell_of_heap h.rowF]; exact rowAt_get φ n j hj, Lib.frozen_of_heap h.rowF j⟩
theorem EncSt.cellG (h : EncSt w f g φ ψ n i j tab wx) (hj : j < n) : wx.cell? ⟨g, j, none⟩ = some (.string ⟨#[]⟩) ∧ wx.frozen? ⟨g, j, none⟩ = false :=
  ⟨by rw [Lib.cell_of_heap h.rowG]; exact rowAt_get ψ n j hj, Lib.frozen_of_heap h.rowG j⟩
theorem EncSt.drew (h : EncSt w f g φ ψ n i j tab wx) : EncSt w f g φ ψ n i j tab wx.drew := ⟨h.below.drew, h.isB, h.res, h.rowF, h.rowG, h.size⟩
/-- behind the two makes -/
theorem encStart (w : World) (φ ψ : Nat → List UInt8) (n : Nat) :
    EncSt w (w.heap.size + 1 + 1) (w.heap.size + 1 + 1 + 1) φ ψ n 0 0 [] ((((w.alloc (.cells names0 36)).alloc (.cells #[.pointer none, .slice none 0 0] 67)).alloc (.cells (rowAt (fun _ => []) n 0) 9)).alloc (.cells (rowAt (fun _ => []) n 0) 9)) := by
  have hB : IsB (w.heap.size + 1) (w.heap.size + 1) [] ((w.alloc (.cells names0 36)).alloc (.cells #[.pointer none, .slice none 0 0] 67)) := by
    have := Lib.IsBuilderF.of (Lib.fresh_isBuilder 67 5 (w.alloc (.cells names0 36)))
    rw [show (w.alloc (.cells names0 36)).heap.size = w.heap.size + 1 from by simp] at this; exact this
  have b0 : Below w.heap.size w (w.alloc (.cells names0 36)) := bup (Below.refl _ _) _
  have r0 := heap_alloc_new w (.cells names0 36)
  refine ⟨bup (bup (bup b0 _) _) _, Lib.IsBuilderF.alloc (Lib.IsBuilderF.alloc (by exact hB) _) _, ?_, ?_, ?_, by simp⟩
  · exact hupE (hupE (show ((w.alloc (.cells names0 36)).alloc (.cells #[.pointer none, .slice none 0 0] 67)).heap[w.heap.size]? = _ from hupE r0 _) _) _
  · rw [rowAt_any φ (fun _ => []) n]
    refine hupE ?_ _
    have := heap_alloc_new ((w.alloc (.cells names0 36)).alloc (.cells #[.pointer none, .slice none 0 0] 67)) (.cells (rowAt (fun _ => []) n 0) 9)
    simpa using this
  · rw [rowAt_any ψ (fun _ => []) n]
    have := heap_alloc_new (((w.alloc (.cells names0 36)).alloc (.cells #[.pointer none, .slice none 0 0] 67)).alloc (.cells (rowAt (fun _ => []) n 0) 9)) (.cells (rowAt (fun _ => []) n 0) 9)
    simpa using this
theorem EncSt.swap {w : World} {f g : Nat} {φ ψ : Nat → List UInt8} {n : Nat} {wx : World} (h : EncSt w f g φ ψ n 0 0 [] wx) : EncSt w g f φ ψ n 0 0 [] wx :=
  ⟨h.below, h.isB, h.res, by rw [rowAt_any φ ψ]; exact h.rowG, by rw [rowAt_any ψ φ]; exact h.rowF, h.size⟩
theorem hidE {p : Prop} (h : p) : Hid p := h
/-- what Encode hands back -/
def EncDone (k : Int) (L : List ByteArray) (w : World) (e : Ending) (w' : World) : Prop :=
  ∃ f g, ¬ f = g ∧ w.heap.size ≤ f ∧ w.heap.size ≤ g ∧ e = .returned (.tuple #[.agg #[.slice (some ⟨f, 0, none⟩) L.length L.length, .slice (some ⟨g, 0, none⟩) L.length L.length, .string (strL (tabL k (L.map (·.data.toList))))], .int .i64 0]) ∧
    w'.heap[f]? = some (.cells (rowAt (fAt k (L.map (·.data.toList))) L.length L.length) 9 (0, 0)) ∧ w'.heap[g]? = some (.cells (rowAt (iAt k (L.map (·.data.toList))) L.length L.length) 9 (0, 0)) ∧ Below w.heap.size w w'
def EncNo (c : Int) (w : World) (e : Ending) (w' : World) : Prop := e = .returned (.tuple #[.agg names0, .int .i64 c]) ∧ Below w.heap.size w w'
end Go.Proofs.YtmlnnbinbbmmhaaDoor
