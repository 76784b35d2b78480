
-- A step of the Vol by the volume itself: kind 1.
import Derived.Test.YtjbphheojfclcaaGreatZC
import Derived.Deep.QuietTactic
import Derived.BigQuiet
import Derived.Deep.RegionWith
import Derived.Deep.DrawnRows
import Derived.Deep.CutRange
namespace Go.Proofs.YtjbphheojfclcaaGreat
open Go.RowKit
set_option linter.unusedVariables false
set_option maxRecDepth 100000
variable {PS : (Nat → Prop) → Nat → St → World → Prop}
attribute [local go_sem ↓] Go.wp_at_zero Go.wp_at_succ
set_option maxRecDepth 20000 in
set_option maxHeartbeats 8000000 in
theorem call_1 (C : PC PS) (S : Nat → Prop) (vb : Nat) (x : Vl) (k : Nat) (n : Int) (a b : ByteArray) (m0 m1 m2 m3 : Int) (po : Option Addr) (pl pc : Nat) (co : Option Addr) (cl cc : Nat) (w : World) (h : VA PS S vb x w) (hk : Vlf x k) (hkk : k < 2097151) :
    Calls Tryz.prog 11 #[.pointer (some ⟨vb, 0, none⟩), .agg #[.int .i64 1, .int .i64 n, .string a, .string b, .int .i64 m0, .int .i64 m1, .int .i64 m2, .int .i64 m3, .slice po pl pc, .slice co cl cc]] w fun e w' => Stepped PS S vb (x.call ⟨1, n, a, b, m0, m1, m2, m3⟩).1 (x.call ⟨1, n, a, b, m0, m1, m2, m3⟩).2 w w' e := by
  obtain ⟨q, mv, G, hs, T⟩ := h
  obtain ⟨X, hX⟩ : ∃ X, X = Obj.cells #[.int .i64 1, .int .i64 n, .string a, .string b, .int .i64 m0, .int .i64 m1, .int .i64 m2, .int .i64 m3, .slice po pl pc, .slice co cl cc] 39 := ⟨_, rfl⟩
  obtain ⟨W0, hW0⟩ : ∃ W0, W0 = (w.alloc X).alloc (.cells ans0V 34) := ⟨_, rfl⟩
  obtain ⟨z1, z2, z3, z4⟩ := mid_two (w := w) X
  rw [← hW0] at z1 z2 z3 z4
  have T0 := T.below C z1
  obtain ⟨p0, _, pf⟩ := T0.cells
  have hcn : x.v.cnt ≤ 4194304 := by have := hk.vf.cnt; omega
  rw [hX] at z4
  have sa : W0.cell? ⟨w.heap.size, 2, none⟩ = some (.string a) := by rw [Lib.cell_of_heap z4]; rfl
  have sb : W0.cell? ⟨w.heap.size, 3, none⟩ = some (.string b) := by rw [Lib.cell_of_heap z4]; rfl
  have sk : W0.cell? ⟨w.heap.size, 0, none⟩ = some (.int .i64 1) := by rw [Lib.cell_of_heap z4]; rfl
  obtain ⟨D, hD⟩ : ∃ z, z = (x.v.read a).1.1 := ⟨_, rfl⟩
  obtain ⟨E, hE⟩ : ∃ z, z = (x.v.read a).1.2 := ⟨_, rfl⟩
  obtain ⟨V, hV⟩ : ∃ z, z = (x.v.read a).2 := ⟨_, rfl⟩
  obtain ⟨A, hA⟩ : ∃ A, A = (x.call ⟨1, n, a, b, m0, m1, m2, m3⟩).1 := ⟨_, rfl⟩
  have hA' : A = An.fail ({ an0 with s := D }) opRead a E := by rw [hA, hE, hD]; rfl
  have hx' : (x.call ⟨1, n, a, b, m0, m1, m2, m3⟩).2 = ⟨V, x.hs⟩ := by rw [hV]; rfl
  have HP : Hid (∀ W, Alike W0 W → Calls Tryz.prog 30 #[.pointer (some ⟨q, 0, none⟩), .string a] W fun e w' => ∃ ev, e = .returned (.tuple #[.string D, ev]) ∧ Mid PS S vb ⟨V, x.hs⟩ w w' (.slice none 0 0) [] ∧ ErrIs w' 0 opRead a E ev) := fun W hAl => by
    have t := T0.below C hAl.below
    refine (fRead_c C G q x.v a W t.pp hk.vf.wf hcn).mono ?_
    rintro e w' ⟨ev, rfl, he, hd⟩
    refine ⟨ev, by rw [hD], ?_, by rw [hE]; exact he.low (Nat.zero_le _)⟩
    rw [hV]
    rw [hW0] at hAl
    exact mid_did C T hAl hd
  have HW : Hid (∀ ev W, Mid PS S vb ⟨V, x.hs⟩ w W (.slice none 0 0) [] → ErrIs W 0 opRead a E ev → ∀ W', Alike W W' → Calls Tryz.prog 31 #[.agg #[.string D, .int .i64 0, .int .i64 0, .int .i64 0, .int .i64 0, .int .i64 0, .string ⟨#[]⟩, .int .i64 0, .slice none 0 0, .bool false, .bool false, .string ⟨#[]⟩, .string ⟨#[]⟩, .int .i64 0], ev] W' fun r w2 => r = .returned (.agg #[.string A.s, .int .i64 A.n, .int .i64 A.i0, .int .i64 A.i1, .int .i64 A.i2, .int .i64 A.i3, .string A.iname, .int .i64 A.isz, .slice none 0 0, .bool A.bad, .bool false, .string A.op, .string A.nm, .int .i64 A.e]) ∧ Mid PS S vb ⟨V, x.hs⟩ w w2 (.slice none 0 0) [] ∧ w2.heap[w.heap.size + 1]? = some (.cells ans0V 34 (0, 0))) := fun ev W hm he W' hAl => by
    refine (with_c ({ an0 with s := D }) none 0 0 opRead a E ev W' ⟨rfl, rfl, rfl, rfl⟩ (he.below hAl.below)).mono ?_
    rintro r w2 ⟨rfl, hb⟩
    rw [hA']
    have hm2 := (hm.below C hAl.below).below C hb
    exact ⟨rfl, hm2, hm2.res⟩
  have HD : Hid (∀ W cs, Mid PS S vb ⟨V, x.hs⟩ w W (.slice none 0 0) [] → VAD PS S vb ⟨V, x.hs⟩ w (W.setRow (w.heap.size + 1) cs) ∧ (W.setRow (w.heap.size + 1) cs).ownsRow w.heap.size 9 1 (.slice none 0 0) 0 []) := fun W cs hm => hm.done C cs
  have HD14 : Hid (∀ W, Mid PS S vb ⟨V, x.hs⟩ w W (.slice none 0 0) [] → ∀ v0 v1 v2 v3 v4 v5 v6 v7 v8 v9 v10 v11 v12 v13 : Value, (VAD PS S vb ⟨V, x.hs⟩ w (put14 W (w.heap.size + 1) v0 v1 v2 v3 v4 v5 v6 v7 v8 v9 v10 v11 v12 v13) ∧ (put14 W (w.heap.size + 1) v0 v1 v2 v3 v4 v5 v6 v7 v8 v9 v10 v11 v12 v13).ownsRow w.heap.size 9 1 (.slice none 0 0) 0 []) ∧ (put14 W (w.heap.size + 1) v0 v1 v2 v3 v4 v5 v6 v7 v8 v9 v10 v11 v12 v13).heap[w.heap.size + 1]? = some (.cells #[v0, v1, v2, v3, v4, v5, v6, v7, v8, v9, v10, v11, v12, v13] 34 (0, 0))) := fun W hm v0 v1 v2 v3 v4 v5 v6 v7 v8 v9 v10 v11 v12 v13 => hm.done14 C v0 v1 v2 v3 v4 v5 v6 v7 v8 v9 v10 v11 v12 v13
  have HAL : Hid (A.l = []) := by
    rw [hA']; unfold An.fail; split <;> rfl
  have HX' : Hid ((x.call ⟨1, n, a, b, m0, m1, m2, m3⟩).2 = ⟨V, x.hs⟩ ∧ A = (x.call ⟨1, n, a, b, m0, m1, m2, m3⟩).1) := ⟨hx', hA⟩
  have HW0 : Hid (W0 = (w.alloc (.cells #[.int .i64 1, .int .i64 n, .string a, .string b, .int .i64 m0, .int .i64 m1, .int .i64 m2, .int .i64 m3, .slice po pl pc, .slice co cl cc] 39)).alloc (.cells #[.string ⟨#[]⟩, .int .i64 0, .int .i64 0, .int .i64 0, .int .i64 0, .int .i64 0, .string ⟨#[]⟩, .int .i64 0, .slice none 0 0, .bool false, .bool false, .string ⟨#[]⟩, .string ⟨#[]⟩, .int .i64 0] 34)) := by rw [hW0, hX]; rfl
  rw [← hA, hx']
  clear hx' hA hA' hE hV hD hcn T T0 z1 z2 z3 z4 hW0 hk hkk
  subst hX
  go_enter Tryz.func11, Tryz.ntmps11
  go_wp2_with fail
  rw [← HW0.out]
  go_region_with (go_at_call 30; refine (HP.out _ (Alike.mk ?_ ?_ ?_ ?_)).mono ?_; rfl; rfl; rfl; rfl; rintro e w1 ⟨ev, rfl, hm1, he1⟩)
  all_goals
    go_wp2_with (first
      | (go_at_call 31; refine (HW.out _ _ hm1 he1 _ (Alike.mk ?_ ?_ ?_ ?_)).mono ?_; rfl; rfl; rfl; rfl; rintro r w2 ⟨rfl, hm2, hr2⟩)
      | (refine wpList_store_row rfl 34 _ _ rfl (w.heap.size + 1) #[.string A.s, .int .i64 A.n, .int .i64 A.i0, .int .i64 A.i1, .int .i64 A.i2, .int .i64 A.i3, .string A.iname, .int .i64 A.isz, .slice none 0 0, .bool A.bad, .bool false, .string A.op, .string A.nm, .int .i64 A.e] rfl rfl _ _ hr2 sizeAns rfl (all14 A none 0 0) ?_))
    refine bodyPost_ret (results_one rfl _ _ (w.heap.size + 1) _ _ _ _ rfl (setRow_heap _ _ _ _ _ _ hr2) Tryz.underlying34 rfl sizeAns) rfl ?_
    obtain ⟨g1, g2⟩ := HD.out _ #[.string A.s, .int .i64 A.n, .int .i64 A.i0, .int .i64 A.i1, .int .i64 A.i2, .int .i64 A.i3, .string A.iname, .int .i64 A.isz, .slice none 0 0, .bool A.bad, .bool false, .string A.op, .string A.nm, .int .i64 A.e] hm2
    exact ⟨none, 0, by rw [HAL.out]; rfl, g1, by rw [HAL.out]; exact g2⟩
end Go.Proofs.YtjbphheojfclcaaGreat
