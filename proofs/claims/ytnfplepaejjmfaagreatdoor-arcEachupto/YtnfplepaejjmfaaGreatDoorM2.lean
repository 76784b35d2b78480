import Derived.Test.YtnfplepaejjmfaaGreatDoorP2
import Derived.Test.YtnfplepaejjmfaaGreatDoorX3
import Derived.Deep.Cut
import Derived.Deep.CutRange
import Derived.Deep.RegionLaw
import Derived.Shelf.Abstract
import Derived.Laws.Tables

-- arc: look.
namespace Go.Proofs.YtnfplepaejjmfaaGreatDoor
open Go.ChangeShapes Go.WideShapes Go.ChangeAt Go.RowKit Go.Shelf
set_option linter.unusedVariables false
set_option maxRecDepth 100000
theorem step_call2 {P : Program} {ops : Array Oper} {o : Oper} {a : Act} {w : World} {K : Act → World → Prop} {Q : Exit → Act → World → Prop} {E : Prop}
    (hg : o.guard = none) (f : FuncId) (x y : Operand) (t1 t2 : TypeId) (hop : o.op = Op.call { callee := Callee.value (Operand.func f), args := #[x, y], argTypes := #[t1, t2] })
    (v v2 : Value) (hx : a.eval x = v) (hy : a.eval y = v2) (eg : ∀ args w, (callFunc f args).run P w = .ok (.enter f args) w) {R : Ending → World → Prop} (hc : Calls P f #[v, v2] w R) (hK : ∀ e w', R e w' → ∃ u, e = .returned u ∧ K (a.put o.dst u) w') :
    if Region.wanted o (yielded ops a.tmps) = true then Oper.wp P o a w K Q else E := by
  rw [if_pos (by simp [Region.wanted, hg])]
  unfold Oper.wp
  subst hx
  subst hy
  have hr : (execOp a.eval o).run P w = .ok (.enter f #[a.eval x, a.eval y]) w := by
    simp [execOp, hop, resolve, invoke, eg, go_sem]
  rw [hr, Oper.upon_enter]
  refine hc.mono ?_
  intro e w' h
  obtain ⟨u, rfl, hk⟩ := hK e w' h
  exact hk

theorem set14 {w : World} {k : Nat} {t : TypeId} {x0 x1 x2 x3 x4 x5 x6 x7 x8 x9 x10 x11 x12 x13 : Value} (v0 v1 v2 v3 v4 v5 v6 v7 v8 v9 v10 v11 v12 v13 : Value) (h : w.heap[k]? = some (.cells #[x0, x1, x2, x3, x4, x5, x6, x7, x8, x9, x10, x11, x12, x13] t (0, 0))) :
    (((((((((((((((w.setCell ⟨k, 0, none⟩ v0).setCell ⟨k, 1, none⟩ v1).setCell ⟨k, 2, none⟩ v2).setCell ⟨k, 3, none⟩ v3).setCell ⟨k, 4, none⟩ v4).setCell ⟨k, 5, none⟩ v5).setCell ⟨k, 6, none⟩ v6).setCell ⟨k, 7, none⟩ v7).setCell ⟨k, 8, none⟩ v8).setCell ⟨k, 9, none⟩ v9).setCell ⟨k, 10, none⟩ v10).setCell ⟨k, 11, none⟩ v11).setCell ⟨k, 12, none⟩ v12).setCell ⟨k, 13, none⟩ v13)).heap[k]? = some (.cells #[v0, v1, v2, v3, v4, v5, v6, v7, v8, v9, v10, v11, v12, v13] t (0, 0)) ∧ (∀ j, j ≠ k → (((((((((((((((w.setCell ⟨k, 0, none⟩ v0).setCell ⟨k, 1, none⟩ v1).setCell ⟨k, 2, none⟩ v2).setCell ⟨k, 3, none⟩ v3).setCell ⟨k, 4, none⟩ v4).setCell ⟨k, 5, none⟩ v5).setCell ⟨k, 6, none⟩ v6).setCell ⟨k, 7, none⟩ v7).setCell ⟨k, 8, none⟩ v8).setCell ⟨k, 9, none⟩ v9).setCell ⟨k, 10, none⟩ v10).setCell ⟨k, 11, none⟩ v11).setCell ⟨k, 12, none⟩ v12).setCell ⟨k, 13, none⟩ v13)).heap[j]? = w.heap[j]?) ∧ (∀ n a, n ≤ k → Below n a w → Below n a (((((((((((((((w.setCell ⟨k, 0, none⟩ v0).setCell ⟨k, 1, none⟩ v1).setCell ⟨k, 2, none⟩ v2).setCell ⟨k, 3, none⟩ v3).setCell ⟨k, 4, none⟩ v4).setCell ⟨k, 5, none⟩ v5).setCell ⟨k, 6, none⟩ v6).setCell ⟨k, 7, none⟩ v7).setCell ⟨k, 8, none⟩ v8).setCell ⟨k, 9, none⟩ v9).setCell ⟨k, 10, none⟩ v10).setCell ⟨k, 11, none⟩ v11).setCell ⟨k, 12, none⟩ v12).setCell ⟨k, 13, none⟩ v13))) := by
  refine ⟨?_, fun j hj => ?_, fun n a hn hb => ?_⟩
  · have H := (set_row (i := 13) v13 (set_row (i := 12) v12 (set_row (i := 11) v11 (set_row (i := 10) v10 (set_row (i := 9) v9 (set_row (i := 8) v8 (set_row (i := 7) v7 (set_row (i := 6) v6 (set_row (i := 5) v5 (set_row (i := 4) v4 (set_row (i := 3) v3 (set_row (i := 2) v2 (set_row (i := 1) v1 (set_row (i := 0) v0 h))))))))))))))
    simp only [List.setIfInBounds_toArray, List.set_cons_succ, List.set_cons_zero] at H
    exact H
  · exact ((Below.heap_setCell _ _ _ j hj).trans ((Below.heap_setCell _ _ _ j hj).trans ((Below.heap_setCell _ _ _ j hj).trans ((Below.heap_setCell _ _ _ j hj).trans ((Below.heap_setCell _ _ _ j hj).trans ((Below.heap_setCell _ _ _ j hj).trans ((Below.heap_setCell _ _ _ j hj).trans ((Below.heap_setCell _ _ _ j hj).trans ((Below.heap_setCell _ _ _ j hj).trans ((Below.heap_setCell _ _ _ j hj).trans ((Below.heap_setCell _ _ _ j hj).trans ((Below.heap_setCell _ _ _ j hj).trans ((Below.heap_setCell _ _ _ j hj).trans (Below.heap_setCell _ _ _ j hj))))))))))))))
  · exact (Below.setCell (Below.setCell (Below.setCell (Below.setCell (Below.setCell (Below.setCell (Below.setCell (Below.setCell (Below.setCell (Below.setCell (Below.setCell (Below.setCell (Below.setCell (Below.setCell hb hn _) hn _) hn _) hn _) hn _) hn _) hn _) hn _) hn _) hn _) hn _) hn _) hn _) hn _)
theorem all14L (d u g m sz a z kd so nu : Int) (nn fn nm da : ByteArray) : (#[.int .i64 d, .int .i64 u, .int .i64 g, .int .i64 m, .string nn, .int .i64 sz, .int .i64 a, .int .i64 z, .int .i64 kd, .int .i64 so, .int .i64 nu, .string fn, .string nm, .string da] : Array Value).all (·.oneCell') = true := by simp [Value.oneCell']
theorem size14L : (Tryz.prog.info? 86).map (·.size) = some 14 := by kernel_rfl
theorem bel_rowL {B : Nat} {a w : World} (h : Below B a w) (g : Nat) (cs : Array Value) (hg : B ≤ g) : Below B a (w.setRow g cs) :=
  ⟨h.os, h.tape, h.output, by rw [setRow_size]; exact h.size, fun j hj => (setRow_other w g j cs (by omega)).trans (h.block j hj)⟩
theorem keep2 {w W : World} {k : Nat} {o : Obj} (hb : Below w.heap.size w W) (h : w.heap[k]? = some o) : W.heap[k]? = some o := hkeep hb h
end Go.Proofs.YtnfplepaejjmfaaGreatDoor

-- arc: look, way 0.
namespace Go.Proofs.YtnfplepaejjmfaaGreatDoor
open Go.ChangeShapes Go.WideShapes Go.ChangeAt Go.RowKit Go.Shelf
set_option linter.unusedVariables false
set_option maxRecDepth 100000
set_option maxHeartbeats 8000000 in
theorem look_0 (B : Nat) (b wt : ByteArray) (wa wn wk : Int) (wi : Bool) (d u g m sz a z kd so nu e : Int) (nn fn nm da : ByteArray) (K : Int) (G Pl : Bool) (d1 u1 g1 m1 sz1 a1 z1 kd1 so1 nu1 e1 : Int) (nn1 fn1 nm1 da1 : ByteArray) (d2 u2 g2 m2 sz2 a2 z2 kd2 so2 nu2 e2 : Int) (nn2 fn2 nm2 da2 : ByteArray) (w : World)
    (hB : w.heap[B]? = some (.cells #[.string b, .int .i64 wa, .int .i64 wn, .int .i64 wk, .bool wi, .string wt] 111 (0, 0)))
    (HR : Hid (∀ wx, Below w.heap.size w wx → Calls Tryz.prog 72 #[.string b, .int .i64 wa] wx fun r w' => r = .returned (.tuple #[.agg #[.int .i64 d, .int .i64 u, .int .i64 g, .int .i64 m, .string nn, .int .i64 sz, .int .i64 a, .int .i64 z, .int .i64 kd, .int .i64 so, .int .i64 nu, .string fn, .string nm, .string da], .int .i64 e]) ∧ Below wx.heap.size wx w'))
    (HK : Hid (e = 0 → ∀ wx, wx.heap[B]? = some (.cells #[.string b, .int .i64 wa, .int .i64 wn, .int .i64 wk, .bool wi, .string wt] 111 (0, 0)) → Calls Tryz.prog 73 #[.pointer (some ⟨B, 0, none⟩), .agg #[.int .i64 d, .int .i64 u, .int .i64 g, .int .i64 m, .string nn, .int .i64 sz, .int .i64 a, .int .i64 z, .int .i64 kd, .int .i64 so, .int .i64 nu, .string fn, .string nm, .string da]] wx fun r w' => r = .returned (.int .i64 K) ∧ Below wx.heap.size wx w'))
    (HG : Hid (e = 0 → ∀ wx, Calls Tryz.prog 74 #[.agg #[.int .i64 d, .int .i64 u, .int .i64 g, .int .i64 m, .string nn, .int .i64 sz, .int .i64 a, .int .i64 z, .int .i64 K, .int .i64 so, .int .i64 nu, .string fn, .string nm, .string da]] wx fun r w' => r = .returned (.bool G) ∧ Below wx.heap.size wx w'))
    (HP : Hid (e = 0 → ∀ wx, wx.heap[B]? = some (.cells #[.string b, .int .i64 wa, .int .i64 wn, .int .i64 wk, .bool wi, .string wt] 111 (0, 0)) → Calls Tryz.prog 75 #[.pointer (some ⟨B, 0, none⟩), .agg #[.int .i64 d, .int .i64 u, .int .i64 g, .int .i64 m, .string nn, .int .i64 sz, .int .i64 a, .int .i64 z, .int .i64 K, .int .i64 so, .int .i64 nu, .string fn, .string nm, .string da]] wx fun r w' => r = .returned (.bool Pl) ∧ Below wx.heap.size wx w'))
    (HD : Hid (e = 0 → ∀ wx q, wx.heap[q]? = some (.cells #[.int .i64 d, .int .i64 u, .int .i64 g, .int .i64 m, .string nn, .int .i64 sz, .int .i64 a, .int .i64 z, .int .i64 K, .int .i64 so, .int .i64 nu, .string fn, .string nm, .string da] 86 (0, 0)) → Calls Tryz.prog 76 #[.pointer (some ⟨q, 0, none⟩), .string b] wx fun r w' => r = .returned (.int .i64 e1) ∧ w'.heap[q]? = some (.cells #[.int .i64 d1, .int .i64 u1, .int .i64 g1, .int .i64 m1, .string nn1, .int .i64 sz1, .int .i64 a1, .int .i64 z1, .int .i64 kd1, .int .i64 so1, .int .i64 nu1, .string fn1, .string nm1, .string da1] 86 (0, 0)) ∧ Kq q wx w'))
    (HF : Hid (e = 0 → e1 = 0 → ∀ wx q, Below w.heap.size w wx → wx.heap[q]? = some (.cells #[.int .i64 d1, .int .i64 u1, .int .i64 g1, .int .i64 m1, .string nn1, .int .i64 sz1, .int .i64 a1, .int .i64 z1, .int .i64 kd1, .int .i64 so1, .int .i64 nu1, .string fn1, .string nm1, .string da1] 86 (0, 0)) → Calls Tryz.prog 77 #[.pointer (some ⟨q, 0, none⟩), .string wt] wx fun r w' => r = .returned (.int .i64 e2) ∧ w'.heap[q]? = some (.cells #[.int .i64 d2, .int .i64 u2, .int .i64 g2, .int .i64 m2, .string nn2, .int .i64 sz2, .int .i64 a2, .int .i64 z2, .int .i64 kd2, .int .i64 so2, .int .i64 nu2, .string fn2, .string nm2, .string da2] 86 (0, 0)) ∧ Kq q wx w')) (he : ¬ e = 0) :
    Calls Tryz.prog 53 #[.pointer (some ⟨B, 0, none⟩)] w fun r w' => r = .returned (.tuple #[.agg #[.int .i64 d, .int .i64 u, .int .i64 g, .int .i64 m, .string nn, .int .i64 sz, .int .i64 a, .int .i64 z, .int .i64 kd, .int .i64 so, .int .i64 nu, .string fn, .string nm, .string da], .int .i64 e]) ∧ Below w.heap.size w w' := by
  have hlt : B < w.heap.size := (Array.getElem?_eq_some_iff.1 hB).1
  have c0 := cell_row hB 0 _ rfl
  have c1 := cell_row hB 1 _ rfl
  have hbA : Below w.heap.size w ((w.alloc (.cells #[.int .i64 0, .int .i64 0, .int .i64 0, .int .i64 0, .string ⟨#[]⟩, .int .i64 0, .int .i64 0, .int .i64 0, .int .i64 0, .int .i64 0, .int .i64 0, .string ⟨#[]⟩, .string ⟨#[]⟩, .string ⟨#[]⟩] 86)).drew) := (bup (Below.refl _ _) _).drew
  have hbB : Below w.heap.size w (((w.alloc (.cells #[.int .i64 0, .int .i64 0, .int .i64 0, .int .i64 0, .string ⟨#[]⟩, .int .i64 0, .int .i64 0, .int .i64 0, .int .i64 0, .int .i64 0, .int .i64 0, .string ⟨#[]⟩, .string ⟨#[]⟩, .string ⟨#[]⟩] 86)).alloc (.cells #[.int .i64 0, .int .i64 0, .int .i64 0, .int .i64 0, .string ⟨#[]⟩, .int .i64 0, .int .i64 0, .int .i64 0, .int .i64 0, .int .i64 0, .int .i64 0, .string ⟨#[]⟩, .string ⟨#[]⟩, .string ⟨#[]⟩] 86)).drew) := (bup (bup (Below.refl _ _) _) _).drew
  have hrA : ((w.alloc (.cells #[.int .i64 0, .int .i64 0, .int .i64 0, .int .i64 0, .string ⟨#[]⟩, .int .i64 0, .int .i64 0, .int .i64 0, .int .i64 0, .int .i64 0, .int .i64 0, .string ⟨#[]⟩, .string ⟨#[]⟩, .string ⟨#[]⟩] 86)).drew).heap[w.heap.size]? = some (.cells #[.int .i64 0, .int .i64 0, .int .i64 0, .int .i64 0, .string ⟨#[]⟩, .int .i64 0, .int .i64 0, .int .i64 0, .int .i64 0, .int .i64 0, .int .i64 0, .string ⟨#[]⟩, .string ⟨#[]⟩, .string ⟨#[]⟩] 86 (0, 0)) := heap_alloc_new w _
  have hrB : (((w.alloc (.cells #[.int .i64 0, .int .i64 0, .int .i64 0, .int .i64 0, .string ⟨#[]⟩, .int .i64 0, .int .i64 0, .int .i64 0, .int .i64 0, .int .i64 0, .int .i64 0, .string ⟨#[]⟩, .string ⟨#[]⟩, .string ⟨#[]⟩] 86)).alloc (.cells #[.int .i64 0, .int .i64 0, .int .i64 0, .int .i64 0, .string ⟨#[]⟩, .int .i64 0, .int .i64 0, .int .i64 0, .int .i64 0, .int .i64 0, .int .i64 0, .string ⟨#[]⟩, .string ⟨#[]⟩, .string ⟨#[]⟩] 86)).drew).heap[w.heap.size]? = some (.cells #[.int .i64 0, .int .i64 0, .int .i64 0, .int .i64 0, .string ⟨#[]⟩, .int .i64 0, .int .i64 0, .int .i64 0, .int .i64 0, .int .i64 0, .int .i64 0, .string ⟨#[]⟩, .string ⟨#[]⟩, .string ⟨#[]⟩] 86 (0, 0)) := hup (heap_alloc_new w _) _
  have hxB : (((w.alloc (.cells #[.int .i64 0, .int .i64 0, .int .i64 0, .int .i64 0, .string ⟨#[]⟩, .int .i64 0, .int .i64 0, .int .i64 0, .int .i64 0, .int .i64 0, .int .i64 0, .string ⟨#[]⟩, .string ⟨#[]⟩, .string ⟨#[]⟩] 86)).alloc (.cells #[.int .i64 0, .int .i64 0, .int .i64 0, .int .i64 0, .string ⟨#[]⟩, .int .i64 0, .int .i64 0, .int .i64 0, .int .i64 0, .int .i64 0, .int .i64 0, .string ⟨#[]⟩, .string ⟨#[]⟩, .string ⟨#[]⟩] 86)).drew).heap[w.heap.size + 1]? = some (.cells #[.int .i64 0, .int .i64 0, .int .i64 0, .int .i64 0, .string ⟨#[]⟩, .int .i64 0, .int .i64 0, .int .i64 0, .int .i64 0, .int .i64 0, .int .i64 0, .string ⟨#[]⟩, .string ⟨#[]⟩, .string ⟨#[]⟩] 86 (0, 0)) := heap_new2 w _ _
  go_enter Tryz.func53, Tryz.ntmps53
  go_upto_region 8 with fail
  go_cut [4, 5] from 7 to 18 (fun s4 s5 wx => ∃ q, s4 = .pointer (some ⟨q, 0, none⟩) ∧ s5 = .int .i64 e ∧ w.heap.size < q ∧ wx.heap[q]? = some (.cells #[.int .i64 d, .int .i64 u, .int .i64 g, .int .i64 m, .string nn, .int .i64 sz, .int .i64 a, .int .i64 z, .int .i64 kd, .int .i64 so, .int .i64 nu, .string fn, .string nm, .string da] 86 (0, 0)) ∧ wx.heap[w.heap.size]? = some (.cells #[.int .i64 0, .int .i64 0, .int .i64 0, .int .i64 0, .string ⟨#[]⟩, .int .i64 0, .int .i64 0, .int .i64 0, .int .i64 0, .int .i64 0, .int .i64 0, .string ⟨#[]⟩, .string ⟨#[]⟩, .string ⟨#[]⟩] 86 (0, 0)) ∧ Below w.heap.size w wx)
  case first =>
    clear HK HG HP HD HF
    go_region_law (refine step_call2 rfl 72 (.tmp 11) (.tmp 15) 9 3 rfl (.string b) (.int .i64 wa) (by simp [Act.eval]) (by simp [Act.eval]) (enters_of Tryz.func72 (by kernel_rfl) rfl) (HR.out _ (by first | exact hbA | exact hbB)) ?_; rintro r w1 ⟨rfl, hb1⟩; refine ⟨_, rfl, ?_⟩; try (have hx1 := hkeep hb1 hxB; obtain ⟨q0, q1, q2, q3, q4, q5, q6, q7, q8, q9, q10, q11, q12, q13⟩ := cells14 hx1; have f0 := froz_row hx1 0; have f1 := froz_row hx1 1; have f2 := froz_row hx1 2; have f3 := froz_row hx1 3; have f4 := froz_row hx1 4; have f5 := froz_row hx1 5; have f6 := froz_row hx1 6; have f7 := froz_row hx1 7; have f8 := froz_row hx1 8; have f9 := froz_row hx1 9; have f10 := froz_row hx1 10; have f11 := froz_row hx1 11; have f12 := froz_row hx1 12; have f13 := froz_row hx1 13))
    all_goals first
      | (have HW := set14 (.int .i64 d) (.int .i64 u) (.int .i64 g) (.int .i64 m) (.string nn) (.int .i64 sz) (.int .i64 a) (.int .i64 z) (.int .i64 kd) (.int .i64 so) (.int .i64 nu) (.string fn) (.string nm) (.string da) hx1
         clear q0 q1 q2 q3 q4 q5 q6 q7 q8 q9 q10 q11 q12 q13 f0 f1 f2 f3 f4 f5 f6 f7 f8 f9 f10 f11 f12 f13
         have hr1 := hkeep hb1 hrB
         have hbw : Below w.heap.size w w1 := hbB.trans (hb1.mono hbB.size)
         generalize ((((((((((((((w1.setCell ⟨w.heap.size + 1, 0, none⟩ (.int .i64 d)).setCell ⟨w.heap.size + 1, 1, none⟩ (.int .i64 u)).setCell ⟨w.heap.size + 1, 2, none⟩ (.int .i64 g)).setCell ⟨w.heap.size + 1, 3, none⟩ (.int .i64 m)).setCell ⟨w.heap.size + 1, 4, none⟩ (.string nn)).setCell ⟨w.heap.size + 1, 5, none⟩ (.int .i64 sz)).setCell ⟨w.heap.size + 1, 6, none⟩ (.int .i64 a)).setCell ⟨w.heap.size + 1, 7, none⟩ (.int .i64 z)).setCell ⟨w.heap.size + 1, 8, none⟩ (.int .i64 kd)).setCell ⟨w.heap.size + 1, 9, none⟩ (.int .i64 so)).setCell ⟨w.heap.size + 1, 10, none⟩ (.int .i64 nu)).setCell ⟨w.heap.size + 1, 11, none⟩ (.string fn)).setCell ⟨w.heap.size + 1, 12, none⟩ (.string nm)).setCell ⟨w.heap.size + 1, 13, none⟩ (.string da)) = WX at HW ⊢
         go_wp2_with fail
         go_meet
         case rel => exact ⟨_, rfl, rfl, Nat.lt_succ_self _, HW.1, (HW.2.1 _ (by omega)).trans hr1, HW.2.2 _ _ (by omega) hbw⟩)
      | (have hr1 := hkeep hb1 hrA
         have hbw : Below w.heap.size w w1 := hbA.trans (hb1.mono hbA.size)
         have hlw : w.heap.size < w1.heap.size := (Array.getElem?_eq_some_iff.1 hr1).1
         have hx2 := heap_alloc_new w1 (.cells #[.int .i64 d, .int .i64 u, .int .i64 g, .int .i64 m, .string nn, .int .i64 sz, .int .i64 a, .int .i64 z, .int .i64 kd, .int .i64 so, .int .i64 nu, .string fn, .string nm, .string da] 86)
         have hr2 := hup hr1 (.cells #[.int .i64 d, .int .i64 u, .int .i64 g, .int .i64 m, .string nn, .int .i64 sz, .int .i64 a, .int .i64 z, .int .i64 kd, .int .i64 so, .int .i64 nu, .string fn, .string nm, .string da] 86)
         have hb2 := bup hbw (.cells #[.int .i64 d, .int .i64 u, .int .i64 g, .int .i64 m, .string nn, .int .i64 sz, .int .i64 a, .int .i64 z, .int .i64 kd, .int .i64 so, .int .i64 nu, .string fn, .string nm, .string da] 86)
         generalize w1.alloc (.cells #[.int .i64 d, .int .i64 u, .int .i64 g, .int .i64 m, .string nn, .int .i64 sz, .int .i64 a, .int .i64 z, .int .i64 kd, .int .i64 so, .int .i64 nu, .string fn, .string nm, .string da] 86) = WX at hx2 hr2 hb2 ⊢
         go_wp2_with fail
         go_meet
         case rel => exact ⟨_, rfl, rfl, hlw, hx2, hr2, hb2⟩)
  case rest =>
    obtain ⟨q, rfl, rfl, hq, hx, hr, hbW⟩ := hcut
    clear hbA hbB hrA hrB hxB c0 c1 HR
    have hBc := hkeep hbW hB
    clear hB
    have b1 : (e == 0) = false := by simp [he]
    have b2 : (e != 0) = true := by simp [bne, b1]
    obtain ⟨q0, q1, q2, q3, q4, q5, q6, q7, q8, q9, q10, q11, q12, q13⟩ := cells14 hx
    clear HK HG HP HD HF
    go_wp2_with (refine wpList_store_row rfl 86 _ _ rfl w.heap.size #[.int .i64 d, .int .i64 u, .int .i64 g, .int .i64 m, .string nn, .int .i64 sz, .int .i64 a, .int .i64 z, .int .i64 kd, .int .i64 so, .int .i64 nu, .string fn, .string nm, .string da] rfl rfl _ _ hr size14L rfl (all14L d u g m sz a z kd so nu nn fn nm da) ?_)
    refine bodyPost_ret (results_cell_tmp_row rfl _ _ w.heap.size _ _ _ _ _ rfl rfl (setRow_heap _ _ _ #[.int .i64 d, .int .i64 u, .int .i64 g, .int .i64 m, .string nn, .int .i64 sz, .int .i64 a, .int .i64 z, .int .i64 kd, .int .i64 so, .int .i64 nu, .string fn, .string nm, .string da] _ _ hr) Tryz.underlying86 rfl size14L) rfl ?_
    exact ⟨rfl, bel_rowL hbW _ _ (Nat.le_refl _)⟩
    
end Go.Proofs.YtnfplepaejjmfaaGreatDoor

-- arc: look, way 1.
namespace Go.Proofs.YtnfplepaejjmfaaGreatDoor
open Go.ChangeShapes Go.WideShapes Go.ChangeAt Go.RowKit Go.Shelf
set_option linter.unusedVariables false
set_option maxRecDepth 100000
set_option maxHeartbeats 8000000 in
theorem look_1 (B : Nat) (b wt : ByteArray) (wa wn wk : Int) (wi : Bool) (d u g m sz a z kd so nu e : Int) (nn fn nm da : ByteArray) (K : Int) (G Pl : Bool) (d1 u1 g1 m1 sz1 a1 z1 kd1 so1 nu1 e1 : Int) (nn1 fn1 nm1 da1 : ByteArray) (d2 u2 g2 m2 sz2 a2 z2 kd2 so2 nu2 e2 : Int) (nn2 fn2 nm2 da2 : ByteArray) (w : World)
    (hB : w.heap[B]? = some (.cells #[.string b, .int .i64 wa, .int .i64 wn, .int .i64 wk, .bool wi, .string wt] 111 (0, 0)))
    (HR : Hid (∀ wx, Below w.heap.size w wx → Calls Tryz.prog 72 #[.string b, .int .i64 wa] wx fun r w' => r = .returned (.tuple #[.agg #[.int .i64 d, .int .i64 u, .int .i64 g, .int .i64 m, .string nn, .int .i64 sz, .int .i64 a, .int .i64 z, .int .i64 kd, .int .i64 so, .int .i64 nu, .string fn, .string nm, .string da], .int .i64 e]) ∧ Below wx.heap.size wx w'))
    (HK : Hid (e = 0 → ∀ wx, wx.heap[B]? = some (.cells #[.string b, .int .i64 wa, .int .i64 wn, .int .i64 wk, .bool wi, .string wt] 111 (0, 0)) → Calls Tryz.prog 73 #[.pointer (some ⟨B, 0, none⟩), .agg #[.int .i64 d, .int .i64 u, .int .i64 g, .int .i64 m, .string nn, .int .i64 sz, .int .i64 a, .int .i64 z, .int .i64 kd, .int .i64 so, .int .i64 nu, .string fn, .string nm, .string da]] wx fun r w' => r = .returned (.int .i64 K) ∧ Below wx.heap.size wx w'))
    (HG : Hid (e = 0 → ∀ wx, Calls Tryz.prog 74 #[.agg #[.int .i64 d, .int .i64 u, .int .i64 g, .int .i64 m, .string nn, .int .i64 sz, .int .i64 a, .int .i64 z, .int .i64 K, .int .i64 so, .int .i64 nu, .string fn, .string nm, .string da]] wx fun r w' => r = .returned (.bool G) ∧ Below wx.heap.size wx w'))
    (HP : Hid (e = 0 → ∀ wx, wx.heap[B]? = some (.cells #[.string b, .int .i64 wa, .int .i64 wn, .int .i64 wk, .bool wi, .string wt] 111 (0, 0)) → Calls Tryz.prog 75 #[.pointer (some ⟨B, 0, none⟩), .agg #[.int .i64 d, .int .i64 u, .int .i64 g, .int .i64 m, .string nn, .int .i64 sz, .int .i64 a, .int .i64 z, .int .i64 K, .int .i64 so, .int .i64 nu, .string fn, .string nm, .string da]] wx fun r w' => r = .returned (.bool Pl) ∧ Below wx.heap.size wx w'))
    (HD : Hid (e = 0 → ∀ wx q, wx.heap[q]? = some (.cells #[.int .i64 d, .int .i64 u, .int .i64 g, .int .i64 m, .string nn, .int .i64 sz, .int .i64 a, .int .i64 z, .int .i64 K, .int .i64 so, .int .i64 nu, .string fn, .string nm, .string da] 86 (0, 0)) → Calls Tryz.prog 76 #[.pointer (some ⟨q, 0, none⟩), .string b] wx fun r w' => r = .returned (.int .i64 e1) ∧ w'.heap[q]? = some (.cells #[.int .i64 d1, .int .i64 u1, .int .i64 g1, .int .i64 m1, .string nn1, .int .i64 sz1, .int .i64 a1, .int .i64 z1, .int .i64 kd1, .int .i64 so1, .int .i64 nu1, .string fn1, .string nm1, .string da1] 86 (0, 0)) ∧ Kq q wx w'))
    (HF : Hid (e = 0 → e1 = 0 → ∀ wx q, Below w.heap.size w wx → wx.heap[q]? = some (.cells #[.int .i64 d1, .int .i64 u1, .int .i64 g1, .int .i64 m1, .string nn1, .int .i64 sz1, .int .i64 a1, .int .i64 z1, .int .i64 kd1, .int .i64 so1, .int .i64 nu1, .string fn1, .string nm1, .string da1] 86 (0, 0)) → Calls Tryz.prog 77 #[.pointer (some ⟨q, 0, none⟩), .string wt] wx fun r w' => r = .returned (.int .i64 e2) ∧ w'.heap[q]? = some (.cells #[.int .i64 d2, .int .i64 u2, .int .i64 g2, .int .i64 m2, .string nn2, .int .i64 sz2, .int .i64 a2, .int .i64 z2, .int .i64 kd2, .int .i64 so2, .int .i64 nu2, .string fn2, .string nm2, .string da2] 86 (0, 0)) ∧ Kq q wx w')) (he : e = 0) (hG : G = false) :
    Calls Tryz.prog 53 #[.pointer (some ⟨B, 0, none⟩)] w fun r w' => r = .returned (.tuple #[.agg #[.int .i64 d, .int .i64 u, .int .i64 g, .int .i64 m, .string nn, .int .i64 sz, .int .i64 a, .int .i64 z, .int .i64 K, .int .i64 so, .int .i64 nu, .string fn, .string nm, .string da], .int .i64 94]) ∧ Below w.heap.size w w' := by
  have hlt : B < w.heap.size := (Array.getElem?_eq_some_iff.1 hB).1
  have c0 := cell_row hB 0 _ rfl
  have c1 := cell_row hB 1 _ rfl
  have hbA : Below w.heap.size w ((w.alloc (.cells #[.int .i64 0, .int .i64 0, .int .i64 0, .int .i64 0, .string ⟨#[]⟩, .int .i64 0, .int .i64 0, .int .i64 0, .int .i64 0, .int .i64 0, .int .i64 0, .string ⟨#[]⟩, .string ⟨#[]⟩, .string ⟨#[]⟩] 86)).drew) := (bup (Below.refl _ _) _).drew
  have hbB : Below w.heap.size w (((w.alloc (.cells #[.int .i64 0, .int .i64 0, .int .i64 0, .int .i64 0, .string ⟨#[]⟩, .int .i64 0, .int .i64 0, .int .i64 0, .int .i64 0, .int .i64 0, .int .i64 0, .string ⟨#[]⟩, .string ⟨#[]⟩, .string ⟨#[]⟩] 86)).alloc (.cells #[.int .i64 0, .int .i64 0, .int .i64 0, .int .i64 0, .string ⟨#[]⟩, .int .i64 0, .int .i64 0, .int .i64 0, .int .i64 0, .int .i64 0, .int .i64 0, .string ⟨#[]⟩, .string ⟨#[]⟩, .string ⟨#[]⟩] 86)).drew) := (bup (bup (Below.refl _ _) _) _).drew
  have hrA : ((w.alloc (.cells #[.int .i64 0, .int .i64 0, .int .i64 0, .int .i64 0, .string ⟨#[]⟩, .int .i64 0, .int .i64 0, .int .i64 0, .int .i64 0, .int .i64 0, .int .i64 0, .string ⟨#[]⟩, .string ⟨#[]⟩, .string ⟨#[]⟩] 86)).drew).heap[w.heap.size]? = some (.cells #[.int .i64 0, .int .i64 0, .int .i64 0, .int .i64 0, .string ⟨#[]⟩, .int .i64 0, .int .i64 0, .int .i64 0, .int .i64 0, .int .i64 0, .int .i64 0, .string ⟨#[]⟩, .string ⟨#[]⟩, .string ⟨#[]⟩] 86 (0, 0)) := heap_alloc_new w _
  have hrB : (((w.alloc (.cells #[.int .i64 0, .int .i64 0, .int .i64 0, .int .i64 0, .string ⟨#[]⟩, .int .i64 0, .int .i64 0, .int .i64 0, .int .i64 0, .int .i64 0, .int .i64 0, .string ⟨#[]⟩, .string ⟨#[]⟩, .string ⟨#[]⟩] 86)).alloc (.cells #[.int .i64 0, .int .i64 0, .int .i64 0, .int .i64 0, .string ⟨#[]⟩, .int .i64 0, .int .i64 0, .int .i64 0, .int .i64 0, .int .i64 0, .int .i64 0, .string ⟨#[]⟩, .string ⟨#[]⟩, .string ⟨#[]⟩] 86)).drew).heap[w.heap.size]? = some (.cells #[.int .i64 0, .int .i64 0, .int .i64 0, .int .i64 0, .string ⟨#[]⟩, .int .i64 0, .int .i64 0, .int .i64 0, .int .i64 0, .int .i64 0, .int .i64 0, .string ⟨#[]⟩, .string ⟨#[]⟩, .string ⟨#[]⟩] 86 (0, 0)) := hup (heap_alloc_new w _) _
  have hxB : (((w.alloc (.cells #[.int .i64 0, .int .i64 0, .int .i64 0, .int .i64 0, .string ⟨#[]⟩, .int .i64 0, .int .i64 0, .int .i64 0, .int .i64 0, .int .i64 0, .int .i64 0, .string ⟨#[]⟩, .string ⟨#[]⟩, .string ⟨#[]⟩] 86)).alloc (.cells #[.int .i64 0, .int .i64 0, .int .i64 0, .int .i64 0, .string ⟨#[]⟩, .int .i64 0, .int .i64 0, .int .i64 0, .int .i64 0, .int .i64 0, .int .i64 0, .string ⟨#[]⟩, .string ⟨#[]⟩, .string ⟨#[]⟩] 86)).drew).heap[w.heap.size + 1]? = some (.cells #[.int .i64 0, .int .i64 0, .int .i64 0, .int .i64 0, .string ⟨#[]⟩, .int .i64 0, .int .i64 0, .int .i64 0, .int .i64 0, .int .i64 0, .int .i64 0, .string ⟨#[]⟩, .string ⟨#[]⟩, .string ⟨#[]⟩] 86 (0, 0)) := heap_new2 w _ _
  go_enter Tryz.func53, Tryz.ntmps53
  go_upto_region 8 with fail
  go_cut [4, 5] from 7 to 18 (fun s4 s5 wx => ∃ q, s4 = .pointer (some ⟨q, 0, none⟩) ∧ s5 = .int .i64 e ∧ w.heap.size < q ∧ wx.heap[q]? = some (.cells #[.int .i64 d, .int .i64 u, .int .i64 g, .int .i64 m, .string nn, .int .i64 sz, .int .i64 a, .int .i64 z, .int .i64 kd, .int .i64 so, .int .i64 nu, .string fn, .string nm, .string da] 86 (0, 0)) ∧ wx.heap[w.heap.size]? = some (.cells #[.int .i64 0, .int .i64 0, .int .i64 0, .int .i64 0, .string ⟨#[]⟩, .int .i64 0, .int .i64 0, .int .i64 0, .int .i64 0, .int .i64 0, .int .i64 0, .string ⟨#[]⟩, .string ⟨#[]⟩, .string ⟨#[]⟩] 86 (0, 0)) ∧ Below w.heap.size w wx)
  case first =>
    clear HK HG HP HD HF he hG
    go_region_law (refine step_call2 rfl 72 (.tmp 11) (.tmp 15) 9 3 rfl (.string b) (.int .i64 wa) (by simp [Act.eval]) (by simp [Act.eval]) (enters_of Tryz.func72 (by kernel_rfl) rfl) (HR.out _ (by first | exact hbA | exact hbB)) ?_; rintro r w1 ⟨rfl, hb1⟩; refine ⟨_, rfl, ?_⟩; try (have hx1 := hkeep hb1 hxB; obtain ⟨q0, q1, q2, q3, q4, q5, q6, q7, q8, q9, q10, q11, q12, q13⟩ := cells14 hx1; have f0 := froz_row hx1 0; have f1 := froz_row hx1 1; have f2 := froz_row hx1 2; have f3 := froz_row hx1 3; have f4 := froz_row hx1 4; have f5 := froz_row hx1 5; have f6 := froz_row hx1 6; have f7 := froz_row hx1 7; have f8 := froz_row hx1 8; have f9 := froz_row hx1 9; have f10 := froz_row hx1 10; have f11 := froz_row hx1 11; have f12 := froz_row hx1 12; have f13 := froz_row hx1 13))
    all_goals first
      | (have HW := set14 (.int .i64 d) (.int .i64 u) (.int .i64 g) (.int .i64 m) (.string nn) (.int .i64 sz) (.int .i64 a) (.int .i64 z) (.int .i64 kd) (.int .i64 so) (.int .i64 nu) (.string fn) (.string nm) (.string da) hx1
         clear q0 q1 q2 q3 q4 q5 q6 q7 q8 q9 q10 q11 q12 q13 f0 f1 f2 f3 f4 f5 f6 f7 f8 f9 f10 f11 f12 f13
         have hr1 := hkeep hb1 hrB
         have hbw : Below w.heap.size w w1 := hbB.trans (hb1.mono hbB.size)
         generalize ((((((((((((((w1.setCell ⟨w.heap.size + 1, 0, none⟩ (.int .i64 d)).setCell ⟨w.heap.size + 1, 1, none⟩ (.int .i64 u)).setCell ⟨w.heap.size + 1, 2, none⟩ (.int .i64 g)).setCell ⟨w.heap.size + 1, 3, none⟩ (.int .i64 m)).setCell ⟨w.heap.size + 1, 4, none⟩ (.string nn)).setCell ⟨w.heap.size + 1, 5, none⟩ (.int .i64 sz)).setCell ⟨w.heap.size + 1, 6, none⟩ (.int .i64 a)).setCell ⟨w.heap.size + 1, 7, none⟩ (.int .i64 z)).setCell ⟨w.heap.size + 1, 8, none⟩ (.int .i64 kd)).setCell ⟨w.heap.size + 1, 9, none⟩ (.int .i64 so)).setCell ⟨w.heap.size + 1, 10, none⟩ (.int .i64 nu)).setCell ⟨w.heap.size + 1, 11, none⟩ (.string fn)).setCell ⟨w.heap.size + 1, 12, none⟩ (.string nm)).setCell ⟨w.heap.size + 1, 13, none⟩ (.string da)) = WX at HW ⊢
         go_wp2_with fail
         go_meet
         case rel => exact ⟨_, rfl, rfl, Nat.lt_succ_self _, HW.1, (HW.2.1 _ (by omega)).trans hr1, HW.2.2 _ _ (by omega) hbw⟩)
      | (have hr1 := hkeep hb1 hrA
         have hbw : Below w.heap.size w w1 := hbA.trans (hb1.mono hbA.size)
         have hlw : w.heap.size < w1.heap.size := (Array.getElem?_eq_some_iff.1 hr1).1
         have hx2 := heap_alloc_new w1 (.cells #[.int .i64 d, .int .i64 u, .int .i64 g, .int .i64 m, .string nn, .int .i64 sz, .int .i64 a, .int .i64 z, .int .i64 kd, .int .i64 so, .int .i64 nu, .string fn, .string nm, .string da] 86)
         have hr2 := hup hr1 (.cells #[.int .i64 d, .int .i64 u, .int .i64 g, .int .i64 m, .string nn, .int .i64 sz, .int .i64 a, .int .i64 z, .int .i64 kd, .int .i64 so, .int .i64 nu, .string fn, .string nm, .string da] 86)
         have hb2 := bup hbw (.cells #[.int .i64 d, .int .i64 u, .int .i64 g, .int .i64 m, .string nn, .int .i64 sz, .int .i64 a, .int .i64 z, .int .i64 kd, .int .i64 so, .int .i64 nu, .string fn, .string nm, .string da] 86)
         generalize w1.alloc (.cells #[.int .i64 d, .int .i64 u, .int .i64 g, .int .i64 m, .string nn, .int .i64 sz, .int .i64 a, .int .i64 z, .int .i64 kd, .int .i64 so, .int .i64 nu, .string fn, .string nm, .string da] 86) = WX at hx2 hr2 hb2 ⊢
         go_wp2_with fail
         go_meet
         case rel => exact ⟨_, rfl, rfl, hlw, hx2, hr2, hb2⟩)
  case rest =>
    obtain ⟨q, rfl, rfl, hq, hx, hr, hbW⟩ := hcut
    clear hbA hbB hrA hrB hxB c0 c1 HR
    have hBc := hkeep hbW hB
    clear hB
    subst he
    replace HK : Hid (∀ wx, wx.heap[B]? = some (.cells #[.string b, .int .i64 wa, .int .i64 wn, .int .i64 wk, .bool wi, .string wt] 111 (0, 0)) → Calls Tryz.prog 73 #[.pointer (some ⟨B, 0, none⟩), .agg #[.int .i64 d, .int .i64 u, .int .i64 g, .int .i64 m, .string nn, .int .i64 sz, .int .i64 a, .int .i64 z, .int .i64 kd, .int .i64 so, .int .i64 nu, .string fn, .string nm, .string da]] wx fun r w' => r = .returned (.int .i64 K) ∧ Below wx.heap.size wx w') := HK.out rfl
    replace HG : Hid (∀ wx, Calls Tryz.prog 74 #[.agg #[.int .i64 d, .int .i64 u, .int .i64 g, .int .i64 m, .string nn, .int .i64 sz, .int .i64 a, .int .i64 z, .int .i64 K, .int .i64 so, .int .i64 nu, .string fn, .string nm, .string da]] wx fun r w' => r = .returned (.bool G) ∧ Below wx.heap.size wx w') := HG.out rfl
    replace HP : Hid (∀ wx, wx.heap[B]? = some (.cells #[.string b, .int .i64 wa, .int .i64 wn, .int .i64 wk, .bool wi, .string wt] 111 (0, 0)) → Calls Tryz.prog 75 #[.pointer (some ⟨B, 0, none⟩), .agg #[.int .i64 d, .int .i64 u, .int .i64 g, .int .i64 m, .string nn, .int .i64 sz, .int .i64 a, .int .i64 z, .int .i64 K, .int .i64 so, .int .i64 nu, .string fn, .string nm, .string da]] wx fun r w' => r = .returned (.bool Pl) ∧ Below wx.heap.size wx w') := HP.out rfl
    replace HD : Hid (∀ wx q, wx.heap[q]? = some (.cells #[.int .i64 d, .int .i64 u, .int .i64 g, .int .i64 m, .string nn, .int .i64 sz, .int .i64 a, .int .i64 z, .int .i64 K, .int .i64 so, .int .i64 nu, .string fn, .string nm, .string da] 86 (0, 0)) → Calls Tryz.prog 76 #[.pointer (some ⟨q, 0, none⟩), .string b] wx fun r w' => r = .returned (.int .i64 e1) ∧ w'.heap[q]? = some (.cells #[.int .i64 d1, .int .i64 u1, .int .i64 g1, .int .i64 m1, .string nn1, .int .i64 sz1, .int .i64 a1, .int .i64 z1, .int .i64 kd1, .int .i64 so1, .int .i64 nu1, .string fn1, .string nm1, .string da1] 86 (0, 0)) ∧ Kq q wx w') := HD.out rfl
    obtain ⟨q0, q1, q2, q3, q4, q5, q6, q7, q8, q9, q10, q11, q12, q13⟩ := cells14 hx
    subst hG
    clear HP HD HF
    go_wp2_with first
      | (go_at_call 73; refine (HK.out _ hBc).mono ?_; rintro r w1 ⟨rfl, hb1⟩; have hx1 := hkeep hb1 hx; have hr1 := hkeep hb1 hr; have hB1 := hkeep hb1 hBc; have hbW1 := bel3 hbW hb1; obtain ⟨zzm0, zzm1, zzm2, zzm3, zzm4, zzm5, zzm6, zzm7, zzm8, zzm9, zzm10, zzm11, zzm12, zzm13⟩ := cells14 hx1; have g8 := froz_row hx1 8; have hx2 : (w1.setCell ⟨q, 8, none⟩ (.int .i64 K)).heap[q]? = some (.cells #[.int .i64 d, .int .i64 u, .int .i64 g, .int .i64 m, .string nn, .int .i64 sz, .int .i64 a, .int .i64 z, .int .i64 K, .int .i64 so, .int .i64 nu, .string fn, .string nm, .string da] 86 (0, 0)) := set_row (i := 8) _ hx1; have hr2 := (Below.heap_setCell w1 ⟨q, 8, none⟩ (.int .i64 K) w.heap.size (by show w.heap.size ≠ q; omega)).trans hr1; have hB2 := (Below.heap_setCell w1 ⟨q, 8, none⟩ (.int .i64 K) B (by show B ≠ q; omega)).trans hB1; have hbW2 : Below w.heap.size w (w1.setCell ⟨q, 8, none⟩ (.int .i64 K)) := Below.setCell hbW1 (show w.heap.size ≤ q by omega) _)
      | (go_at_call 74; refine (HG.out _).mono ?_; rintro r w2 ⟨rfl, hb2⟩; have hx3 := hkeep hb2 hx2; have hr3 := hkeep hb2 hr2; have hB3 := hkeep hb2 hB2; have hbW3 := bel3 hbW2 hb2; obtain ⟨zzn0, zzn1, zzn2, zzn3, zzn4, zzn5, zzn6, zzn7, zzn8, zzn9, zzn10, zzn11, zzn12, zzn13⟩ := cells14 hx3)
      | (refine wpList_store_row rfl 86 _ _ rfl w.heap.size #[.int .i64 d, .int .i64 u, .int .i64 g, .int .i64 m, .string nn, .int .i64 sz, .int .i64 a, .int .i64 z, .int .i64 K, .int .i64 so, .int .i64 nu, .string fn, .string nm, .string da] rfl rfl _ _ hr3 size14L rfl (all14L d u g m sz a z K so nu nn fn nm da) ?_)
    refine bodyPost_ret (results_cell_tmp_row rfl _ _ w.heap.size _ _ _ _ _ rfl rfl (setRow_heap _ _ _ #[.int .i64 d, .int .i64 u, .int .i64 g, .int .i64 m, .string nn, .int .i64 sz, .int .i64 a, .int .i64 z, .int .i64 K, .int .i64 so, .int .i64 nu, .string fn, .string nm, .string da] _ _ hr3) Tryz.underlying86 rfl size14L) rfl ?_
    exact ⟨rfl, bel_rowL hbW3 _ _ (Nat.le_refl _)⟩
    
end Go.Proofs.YtnfplepaejjmfaaGreatDoor
