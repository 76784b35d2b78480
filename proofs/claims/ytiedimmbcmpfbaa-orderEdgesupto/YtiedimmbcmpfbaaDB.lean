
-- add, of edges.
import Derived.Test.YtiedimmbcmpfbaaDA
import Derived.Test.YtiedimmbcmpfbaaRG
import Derived.Lib.FrozenHead2
import Derived.Deep.RegionHeld3
namespace Go.Proofs.Ytiedimmbcmpfbaa
open Go.ChangeShapes Go.WideShapes Go.ChangeAt Go.RowKit Go.MapKept
set_option linter.unusedVariables false
set_option maxRecDepth 100000
set_option maxHeartbeats 4000000 in
theorem addE_c (F : Nat → Prop) (g : Nat) (L : List Ed) (x y : ByteArray) (vl : Value) (bm : Nat) (w : World) (h : DsE F g L L w vl bm) (hF : ∀ b, w.heap.size ≤ b → F b) (hn : L.length ≤ 2199023255552) :
    Calls Try.prog 12 #[.pointer (some ⟨g, 0, none⟩), .agg #[.string x, .string y]] w fun e w' => e = .returned (.tuple #[]) ∧ (∃ vl', DsE F g (addD L (x, y)) (addD L (x, y)) w' vl' bm) ∧ Kp F w w' := by
  obtain ⟨X, hX⟩ : ∃ X, X = Obj.cells #[.string x, .string y] 38 := ⟨_, rfl⟩
  obtain ⟨wA, hA⟩ : ∃ wA, wA = w.alloc X := ⟨_, rfl⟩
  have hbA : Below w.heap.size w wA := by rw [hA]; exact (Below.refl _ w).alloc (Nat.le_refl _) X
  have x0 : wA.heap[w.heap.size]? = some (.cells #[.string x, .string y] 38 (0, 0)) := by rw [hA, heap_alloc_new, hX]
  have h2 := h.on hbA
  have hbB : Below wA.heap.size wA (wA.alloc (Obj.cells #[] 47)) := (Below.refl _ wA).alloc (Nat.le_refl _) _
  have h3 := h2.on hbB
  have hl := lookE (h2.on (Below.refl _ _).drew).mp (x, y)
  have hl2 := lookE (h3.on (Below.refl _ _).drew).mp (x, y)
  obtain ⟨c0, c1⟩ := h2.c0
  obtain ⟨cb0, cb1⟩ := h3.c0
  have d0 : wA.cell? ⟨w.heap.size, 0, none⟩ = some (.string x) := cell_rowK x0 0 _ rfl
  have d1 : wA.cell? ⟨w.heap.size, 1, none⟩ = some (.string y) := cell_rowK x0 1 _ rfl
  have db0 := cell_onG d0 hbB
  have db1 := cell_onG d1 hbB
  unfold edV at hl hl2
  simp only at hl hl2
  obtain ⟨a0, p0, q0, _⟩ := h2.own.form
  obtain ⟨n, hnn⟩ : ∃ n, n = L.length := ⟨_, rfl⟩
  have HN := hidK hnn
  rw [← hnn] at q0 hn
  subst q0
  obtain ⟨W1, hW1⟩ : ∃ W1, W1 = (wA.alloc (Obj.cells #[] 47)).drew := ⟨_, rfl⟩
  have hbW : Below wA.heap.size wA W1 := by rw [hW1]; exact hbB.drew
  have HX1 := hidK (h2.on hbW)
  have HK1 : Hid (Kp F w W1) := Kp.of_below (hbA.trans (hbW.mono hbA.size))
  have HY1 : Hid (W1.heap[w.heap.size]? = some (.cells #[.string x, .string y] 38 (0, 0))) := hkeepK hbW x0
  have HF := hidK hF
  have HS1 : Hid (w.heap.size < W1.heap.size) := by show _ < _; have h1 := hbW.size; have h2 : wA.heap.size = w.heap.size + 1 := by rw [hA]; simp
                                                    omega
  clear hnn hF hbA hbB h3 x0 h h2 hbW
  subst hX
  cases hi : isIn L (x, y) with
  | true =>
    rw [hi] at hl hl2
    have HA : Hid (addD L (x, y) = L) := by show _ = _; unfold addD; rw [hi]; rfl
    subst hA
    go_enter Try.func12, Try.ntmps12
    go_upto_region 1 with fail
    go_region
    all_goals
      rw [← hW1]
      go_wp2
      refine bodyPost_ret (results_none rfl _ _ _) rfl ?_
      exact ⟨rfl, ⟨_, by rw [HA.out]; exact HX1.out⟩, HK1.out⟩
  | false =>
    rw [hi] at hl hl2
    have HA : Hid (addD L (x, y) = L ++ [(x, y)]) := by show _ = _; unfold addD; rw [hi]; rfl
    have h5 := HX1.out.on (Below.refl _ _).drew
    obtain ⟨w2, hr2, h2, ht2⟩ := MpAt.store h5.mp mapE_u keyEd isEd injEd (x, y) (.agg #[])
    unfold edV at hr2
    simp only at hr2
    have h6 : DsE F g L (L ++ [(x, y)]) w2 (.slice a0 n p0) bm := h5.setM (ht2.kp rfl) (h2.congr (setF_add L (x, y)))
    have hk2 : Kp F w w2 := HK1.out.trans ((Kp.of_below (Below.refl _ _).drew).trans ((ht2.kp (F := fun k => k = bm) rfl).weak (fun k e => e ▸ h5.fm)))
    have hne : w.heap.size ≠ bm := fun e => by have := h5.mp.ne_cells HY1.out; omega
    have y2 : w2.heap[w.heap.size]? = some (.cells #[.string x, .string y] 38 (0, 0)) := ((ht2.kp (F := fun k => k = bm) rfl).block _ HS1.out hne).trans HY1.out
    obtain ⟨e0, e1⟩ := HX1.out.c0
    have f0 : W1.cell? ⟨w.heap.size, 0, none⟩ = some (.string x) := cell_rowK HY1.out 0 _ rfl
    have f1 : W1.cell? ⟨w.heap.size, 1, none⟩ = some (.string y) := cell_rowK HY1.out 1 _ rfl
    have HX2 := hidK h6
    have HK2 := hidK hk2
    have HY2 := hidK y2
    have hbC : Below w2.heap.size w2 (w2.alloc (Obj.cells #[.string x, .string y] 38)) := (Below.refl _ _).alloc (Nat.le_refl _) _
    have h7 := h6.on hbC
    have HO2 : Hid (OwnF F edL 2 38 (w2.alloc (Obj.cells #[.string x, .string y] 38)) (.slice a0 n p0) L) := h7.own
    have HR2 : Hid (RowG edL (w2.alloc (Obj.cells #[.string x, .string y] 38)) (.slice (some ⟨w2.heap.size, 0, none⟩) 1 1) [(x, y)]) := rowG_new elE w2 (x, y) _ rfl
    have HF2 : Hid (∀ b, (w2.alloc (Obj.cells #[.string x, .string y] 38)).heap.size ≤ b → F b) := fun b hb => HF.out b (by have := hk2.size; simp at hb; omega)
    have HG2 : Hid (∀ w4, Kp (fun k => (Value.slice a0 n p0).ownBlock = some k) (w2.alloc (Obj.cells #[.string x, .string y] 38)) w4 → w4.heap[g]? = some (.cells #[.slice a0 n p0, .map (some bm)] 43 (0, 0))) := fun w4 k4 => (k4.block g h7.glt (fun e => (h7.nl _ e).1 rfl)).trans h7.blk
    obtain ⟨u0, u1⟩ := h7.c0
    obtain ⟨r0, r1⟩ := h6.c0
    have v0 : w2.cell? ⟨w.heap.size, 0, none⟩ = some (.string x) := cell_rowK y2 0 _ rfl
    have v1 : w2.cell? ⟨w.heap.size, 1, none⟩ = some (.string y) := cell_rowK y2 1 _ rfl
    have v2 := cell_onG v0 hbC
    have v3 := cell_onG v1 hbC
    have HX3 := hidK h7
    have HBC := hidK hbC
    clear hi h5 h6 hk2 h2 ht2 y2 hbC h7
    subst hA
    go_enter Try.func12, Try.ntmps12
    go_upto_region 1 with fail
    go_region
    all_goals
      rw [← hW1]
      clear hW1 c0 c1 cb0 cb1 d0 d1 db0 db1 hl hl2
      go_upto_region 3 with fail
      go_region
      clear e0 e1 f0 f1 hr2
      go_upto_region 4 with fail
      go_region_law (refine stepG_all (F := F) elE rfl (.tmp 26) (.tmp 28) rfl (.slice a0 n p0) L (x, y) w2.heap.size 1 (by simp [Act.eval]) (by simp [Act.eval]) (by exact HO2.out) (by exact HR2.out) (edL_one _) (by have := HN.out; omega) (by exact HF2.out) ?_; intro v4 w4 o4 k4 l4; obtain ⟨a4, p4, e4, _⟩ := o4.form; obtain ⟨m4, hm4⟩ : ∃ m, m = (L ++ [(x, y)]).length := ⟨_, rfl⟩; rw [← hm4] at e4; clear hm4; subst e4; have hb2 := HG2.out _ (Kp.undrew k4); have d2 : w4.cell? ⟨g, 0, none⟩ = some (.slice a0 n p0) := cell_rowK hb2 0 _ rfl; have f2 := Lib.frozen_of_heap hb2 0)
      all_goals
        have HK5 : Hid (∀ W, W = w4.setCell ⟨g, 0, none⟩ (.slice a4 m4 p4) → DsE F g (L ++ [(x, y)]) (L ++ [(x, y)]) W (.slice a4 m4 p4) bm ∧ Kp F w W) := by
          rintro W rfl
          have k5 := Kp.undrew k4
          have q5 := kq_set w4 g 0 (.slice a4 m4 p4)
          exact ⟨HX3.out.putL k5 o4 (blk_set hb2 _) q5, HK2.out.trans ((Kp.of_below HBC.out).trans ((k5.weak (fun k hk => HX3.out.own.2 k hk)).trans (Kp.kq q5 HX3.out.fg)))⟩
        obtain ⟨X5, K5⟩ := HK5.out _ rfl
        generalize w4.setCell ⟨g, 0, none⟩ (.slice a4 m4 p4) = W5 at X5 K5 ⊢
        go_wp2
        go_end0
        exact ⟨rfl, ⟨_, by rw [HA.out]; exact X5⟩, K5⟩
end Go.Proofs.Ytiedimmbcmpfbaa
