
-- catalogOf, catalogsOf.
import Derived.Test.YtnnpdomfkedhpaaPS
namespace Go.Proofs.Ytnnpdomfkedhpaa
open Go.ChangeShapes Go.WideShapes Go.ChangeAt Go.RowKit Go.MapKept
set_option linter.unusedVariables false
set_option maxRecDepth 100000
theorem there7 {w : World} {b : Nat} {c0 c1 c2 c3 c4 c5 c6 : Value} {t : TypeId} (h : w.heap[b]? = some (.cells #[c0, c1, c2, c3, c4, c5, c6] t (0, 0))) : w.cell? ⟨b, 0, none⟩ = some c0 ∧ w.cell? ⟨b, 1, none⟩ = some c1 ∧ w.cell? ⟨b, 2, none⟩ = some c2 ∧ w.cell? ⟨b, 3, none⟩ = some c3 ∧ w.cell? ⟨b, 4, none⟩ = some c4 ∧ w.cell? ⟨b, 5, none⟩ = some c5 ∧ w.cell? ⟨b, 6, none⟩ = some c6 :=
  ⟨cell_rowK h 0 _ rfl, cell_rowK h 1 _ rfl, cell_rowK h 2 _ rfl, cell_rowK h 3 _ rfl, cell_rowK h 4 _ rfl, cell_rowK h 5 _ rfl, cell_rowK h 6 _ rfl⟩
theorem lib_cells {w : World} {b : Nat} {ve va vn vf vg : Value} {t : TypeId} (h : w.heap[b]? = some (.cells #[ve, va, vn, vf, vg] t (0, 0))) : w.cell? ⟨b, 0, none⟩ = some ve ∧ w.cell? ⟨b, 1, none⟩ = some va ∧ w.cell? ⟨b, 2, none⟩ = some vn ∧ w.cell? ⟨b, 3, none⟩ = some vf ∧ w.cell? ⟨b, 4, none⟩ = some vg :=
  ⟨cell_rowK h 0 _ rfl, cell_rowK h 1 _ rfl, cell_rowK h 2 _ rfl, cell_rowK h 3 _ rfl, cell_rowK h 4 _ rfl⟩
theorem Kq.trans {k : Nat} {a b c : World} (h : Kq k a b) (q : Kq k b c) : Kq k a c := ⟨q.os.trans h.os, q.tape.trans h.tape, q.output.trans h.output, Nat.le_trans h.size q.size, fun j hj hl => (q.block j hj (Nat.lt_of_lt_of_le hl h.size)).trans (h.block j hj hl)⟩
theorem seven_set {w : World} {b : Nat} {c0 c1 c2 c3 c4 c5 c6 : Value} {t : TypeId} (h : w.heap[b]? = some (.cells #[c0, c1, c2, c3, c4, c5, c6] t (0, 0))) (v0 v1 v2 v3 v4 v5 v6 : Value) :
    (((((((w.setCell ⟨b, 0, none⟩ v0).setCell ⟨b, 1, none⟩ v1).setCell ⟨b, 2, none⟩ v2).setCell ⟨b, 3, none⟩ v3).setCell ⟨b, 4, none⟩ v4).setCell ⟨b, 5, none⟩ v5).setCell ⟨b, 6, none⟩ v6).heap[b]? = some (.cells #[v0, v1, v2, v3, v4, v5, v6] t (0, 0)) ∧ Kq b w (((((((w.setCell ⟨b, 0, none⟩ v0).setCell ⟨b, 1, none⟩ v1).setCell ⟨b, 2, none⟩ v2).setCell ⟨b, 3, none⟩ v3).setCell ⟨b, 4, none⟩ v4).setCell ⟨b, 5, none⟩ v5).setCell ⟨b, 6, none⟩ v6) :=
by
  have q0 : Kq b w w := ⟨rfl, rfl, rfl, Nat.le_refl _, fun _ _ _ => rfl⟩
  have h0 := h
  have q1 := q0.trans (kq_set w b 0 v0)
  have h1 : (w.setCell ⟨b, 0, none⟩ v0).heap[b]? = some (.cells #[v0, c1, c2, c3, c4, c5, c6] t (0, 0)) := (blk_set h0 v0).trans rfl
  generalize w.setCell ⟨b, 0, none⟩ v0 = w1 at q1 h1 ⊢
  have q2 := q1.trans (kq_set w1 b 1 v1)
  have h2 : (w1.setCell ⟨b, 1, none⟩ v1).heap[b]? = some (.cells #[v0, v1, c2, c3, c4, c5, c6] t (0, 0)) := (blk_set h1 v1).trans rfl
  generalize w1.setCell ⟨b, 1, none⟩ v1 = w2 at q2 h2 ⊢
  have q3 := q2.trans (kq_set w2 b 2 v2)
  have h3 : (w2.setCell ⟨b, 2, none⟩ v2).heap[b]? = some (.cells #[v0, v1, v2, c3, c4, c5, c6] t (0, 0)) := (blk_set h2 v2).trans rfl
  generalize w2.setCell ⟨b, 2, none⟩ v2 = w3 at q3 h3 ⊢
  have q4 := q3.trans (kq_set w3 b 3 v3)
  have h4 : (w3.setCell ⟨b, 3, none⟩ v3).heap[b]? = some (.cells #[v0, v1, v2, v3, c4, c5, c6] t (0, 0)) := (blk_set h3 v3).trans rfl
  generalize w3.setCell ⟨b, 3, none⟩ v3 = w4 at q4 h4 ⊢
  have q5 := q4.trans (kq_set w4 b 4 v4)
  have h5 : (w4.setCell ⟨b, 4, none⟩ v4).heap[b]? = some (.cells #[v0, v1, v2, v3, v4, c5, c6] t (0, 0)) := (blk_set h4 v4).trans rfl
  generalize w4.setCell ⟨b, 4, none⟩ v4 = w5 at q5 h5 ⊢
  have q6 := q5.trans (kq_set w5 b 5 v5)
  have h6 : (w5.setCell ⟨b, 5, none⟩ v5).heap[b]? = some (.cells #[v0, v1, v2, v3, v4, v5, c6] t (0, 0)) := (blk_set h5 v5).trans rfl
  generalize w5.setCell ⟨b, 5, none⟩ v5 = w6 at q6 h6 ⊢
  have q7 := q6.trans (kq_set w6 b 6 v6)
  have h7 : (w6.setCell ⟨b, 6, none⟩ v6).heap[b]? = some (.cells #[v0, v1, v2, v3, v4, v5, v6] t (0, 0)) := (blk_set h6 v6).trans rfl
  generalize w6.setCell ⟨b, 6, none⟩ v6 = w7 at q7 h7 ⊢
  exact ⟨h7, q7⟩
theorem sizeCat : (Try.prog.info? 69).map (·.size) = some 7 := by kernel_rfl
set_option maxHeartbeats 4000000 in
theorem catalogOf_c (a0 a1 a2 a3 a4 : Option Addr) (l0 l1 l2 l3 l4 c0 c1 c2 c3 c4 : Nat) (num : Int) (A : List Int) (w : World) (h : RowI w (.slice a1 l1 c1) A) (hn : A.length < 4611686018427387904) :
    Calls Try.prog 20 #[.agg #[.slice a0 l0 c0, .slice a1 l1 c1, .slice a2 l2 c2, .slice a3 l3 c3, .slice a4 l4 c4], .int .i64 num] w fun e w' => ∃ b, e = .returned (.agg #[.slice a0 l0 c0, .slice a1 l1 c1, .slice a2 l2 c2, .slice a3 l3 c3, .slice a4 l4 c4, .int .i64 num, .map (some b)]) ∧ w.heap.size ≤ b ∧ MpN w' b (plcF A 0) ∧ Below w.heap.size w w' := by
  obtain ⟨X, hX⟩ : ∃ X, X = Obj.cells #[.slice a0 l0 c0, .slice a1 l1 c1, .slice a2 l2 c2, .slice a3 l3 c3, .slice a4 l4 c4] 45 := ⟨_, rfl⟩
  obtain ⟨Z, hZ⟩ : ∃ Z, Z = Obj.cells #[.slice none 0 0, .slice none 0 0, .slice none 0 0, .slice none 0 0, .slice none 0 0, .int .i64 0, .map none] 69 := ⟨_, rfl⟩
  obtain ⟨wB, hwB⟩ : ∃ wB, wB = (w.alloc X).alloc Z := ⟨_, rfl⟩
  have hbA : Below w.heap.size w wB := by rw [hwB]; exact ((Below.refl _ w).alloc (Nat.le_refl _) X).alloc (by simp) Z
  have x0 : wB.heap[w.heap.size]? = some (.cells #[.slice a0 l0 c0, .slice a1 l1 c1, .slice a2 l2 c2, .slice a3 l3 c3, .slice a4 l4 c4] 45 (0, 0)) := by rw [hwB]; exact hupK (by rw [heap_alloc_new, hX]) Z
  have z0 : wB.heap[w.heap.size + 1]? = some (.cells #[.slice none 0 0, .slice none 0 0, .slice none 0 0, .slice none 0 0, .slice none 0 0, .int .i64 0, .map none] 69 (0, 0)) := by rw [hwB, heap_new2K, hZ]
  have hsz : wB.heap.size = w.heap.size + 2 := by rw [hwB]; simp
  have hh0 : ∀ W, Below wB.heap.size wB W → W.cell? ⟨w.heap.size, 0, none⟩ = some (.slice a0 l0 c0) := fun W hb => (lib_cells (hkeepK hb x0)).1
  have hh1 : ∀ W, Below wB.heap.size wB W → W.cell? ⟨w.heap.size, 1, none⟩ = some (.slice a1 l1 c1) := fun W hb => (lib_cells (hkeepK hb x0)).2.1
  have hh2 : ∀ W, Below wB.heap.size wB W → W.cell? ⟨w.heap.size, 2, none⟩ = some (.slice a2 l2 c2) := fun W hb => (lib_cells (hkeepK hb x0)).2.2.1
  have hh3 : ∀ W, Below wB.heap.size wB W → W.cell? ⟨w.heap.size, 3, none⟩ = some (.slice a3 l3 c3) := fun W hb => (lib_cells (hkeepK hb x0)).2.2.2.1
  have hh4 : ∀ W, Below wB.heap.size wB W → W.cell? ⟨w.heap.size, 4, none⟩ = some (.slice a4 l4 c4) := fun W hb => (lib_cells (hkeepK hb x0)).2.2.2.2
  have hhB := h.on hbA
  have H1 : Hid (∀ W, Below wB.heap.size wB W → Calls Try.prog 25 #[.slice a1 l1 c1] W fun e w' => ∃ b, e = .returned (.map (some b)) ∧ (w.heap.size ≤ b ∧ MpN w' b (plcF A 0)) ∧ Below wB.heap.size wB w') := fun W hb => (numbers_c _ A W (hhB.on hb) hn).mono (by
    rintro e w' ⟨b, rfl, q1, q2, q3⟩
    exact ⟨b, rfl, ⟨by have := hb.size; omega, q2⟩, bel3K hb q3⟩)
  have hb0 : Below wB.heap.size wB wB := Below.refl _ _
  have HBA := hidK hbA
  have HZ0 := hidK z0
  have HSZ := hidK hsz
  clear h hhB x0 z0 hbA hsz hn
  subst hX hZ
  go_enter Try.func20, Try.ntmps20
  go_wp2
  rw [← hwB]
  clear hwB
  have u0 := hh0 _ hb0
  have u1 := hh1 _ hb0
  have u2 := hh2 _ hb0
  have u3 := hh3 _ hb0
  have u4 := hh4 _ hb0
  have HH : Hid (∀ W, Below wB.heap.size wB W → (W.cell? ⟨w.heap.size, 0, none⟩ = some (.slice a0 l0 c0) ∧ W.cell? ⟨w.heap.size, 1, none⟩ = some (.slice a1 l1 c1) ∧ W.cell? ⟨w.heap.size, 2, none⟩ = some (.slice a2 l2 c2) ∧ W.cell? ⟨w.heap.size, 3, none⟩ = some (.slice a3 l3 c3) ∧ W.cell? ⟨w.heap.size, 4, none⟩ = some (.slice a4 l4 c4)) ∧ W.heap[w.heap.size + 1]? = some (.cells #[.slice none 0 0, .slice none 0 0, .slice none 0 0, .slice none 0 0, .slice none 0 0, .int .i64 0, .map none] 69 (0, 0))) := fun W hb => ⟨⟨hh0 W hb, hh1 W hb, hh2 W hb, hh3 W hb, hh4 W hb⟩, hkeepK hb HZ0.out⟩
  clear hh0 hh1 hh2 hh3 hh4
  go_region_with (go_at_call 25; refine (H1.out _ (by exact hb0.drew)).mono ?_; rintro e w3 ⟨b, rfl, hq, hS3⟩; obtain ⟨⟨g0, g1, g2, g3, g4⟩, hz⟩ := HH.out _ hS3; obtain ⟨y0, y1, y2, y3, y4, y5, y6⟩ := there7 hz; have f0 := Lib.frozen_of_heap hz 0; have f1 := Lib.frozen_of_heap hz 1; have f2 := Lib.frozen_of_heap hz 2; have f3 := Lib.frozen_of_heap hz 3; have f4 := Lib.frozen_of_heap hz 4; have f5 := Lib.frozen_of_heap hz 5; have f6 := Lib.frozen_of_heap hz 6; have HQ := hidK hq; have HS3 := hidK hS3; have HZ := hidK hz; clear hq hS3 hz)
  all_goals
    obtain ⟨g7, k7⟩ := seven_set HZ.out (.slice a0 l0 c0) (.slice a1 l1 c1) (.slice a2 l2 c2) (.slice a3 l3 c3) (.slice a4 l4 c4) (.int .i64 num) (.map (some b))
    generalize (((((((w3.setCell ⟨w.heap.size + 1, 0, none⟩ (.slice a0 l0 c0)).setCell ⟨w.heap.size + 1, 1, none⟩ (.slice a1 l1 c1)).setCell ⟨w.heap.size + 1, 2, none⟩ (.slice a2 l2 c2)).setCell ⟨w.heap.size + 1, 3, none⟩ (.slice a3 l3 c3)).setCell ⟨w.heap.size + 1, 4, none⟩ (.slice a4 l4 c4)).setCell ⟨w.heap.size + 1, 5, none⟩ (.int .i64 num)).setCell ⟨w.heap.size + 1, 6, none⟩ (.map (some b))) = W7 at g7 k7 ⊢
    have hbm : b ≠ w.heap.size + 1 := HQ.out.2.ne_cells HZ.out
    have HF : Hid (MpN W7 b (plcF A 0) ∧ Below w.heap.size w W7) := ⟨HQ.out.2.keep (k7.block b hbm HQ.out.2.lt), (HBA.out.trans (HS3.out.mono (by have := HSZ.out; omega))).trans (k7.below (by omega) (by have := HSZ.out; have := HS3.out.size; omega))⟩
    have HG7 := hidK g7
    clear g7 k7 hbm y0 y1 y2 y3 y4 y5 y6 f0 f1 f2 f3 f4 f5 f6 g0 g1 g2 g3 g4 u0 u1 u2 u3 u4
    go_wp2
    refine bodyPost_ret (results_cell_row rfl _ _ (w.heap.size + 1) _ _ _ _ rfl HG7.out Try.underlying69 rfl sizeCat) rfl ?_
    exact ⟨b, rfl, HQ.out.1, HF.out.1, HF.out.2⟩
/-- a library's five slices -/
structure Lv where
  e : Value
  a : Value
  n : Value
  f : Value
  g : Value
def lvL (v : Lv) : List Value := [v.e, v.a, v.n, v.f, v.g]
theorem lvL_len (x : Lv) : (lvL x).length = 5 := rfl
/-- a catalog's seven cells -/
def cvL (x : Lv × Int × Value) : List Value := [x.1.e, x.1.a, x.1.n, x.1.f, x.1.g, .int .i64 x.2.1, x.2.2]
theorem cvL_len (x : Lv × Int × Value) : (cvL x).length = 7 := rfl
theorem LibAt.slices {F : Nat → Prop} {w : World} {ve va vn vf vg : Value} {L : Lb} (h : LibAt F w ve va vn vf vg L) : ∃ a0 l0 c0 a1 l1 c1 a2 l2 c2 a3 l3 c3 a4 l4 c4, ve = .slice a0 l0 c0 ∧ va = .slice a1 l1 c1 ∧ vn = .slice a2 l2 c2 ∧ vf = .slice a3 l3 c3 ∧ vg = .slice a4 l4 c4 := by
  obtain ⟨a0, c0, e0, _⟩ := h.e.row.form
  obtain ⟨a1, c1, e1, _⟩ := h.a.row.form
  obtain ⟨a2, c2, e2, _⟩ := h.n.row.form
  obtain ⟨_, h3, _⟩ := h.f
  obtain ⟨a3, c3, e3, _⟩ := h3.row.form
  obtain ⟨_, h4, _⟩ := h.g
  obtain ⟨a4, c4, e4, _⟩ := h4.row.form
  exact ⟨_, _, _, _, _, _, _, _, _, _, _, _, _, _, _, e0, e1, e2, e3, e4⟩
end Go.Proofs.Ytnnpdomfkedhpaa
