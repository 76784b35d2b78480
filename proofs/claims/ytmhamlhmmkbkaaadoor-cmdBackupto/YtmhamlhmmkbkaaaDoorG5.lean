
-- CmdBack's walk, over any Decode, Line and meant that answer so.
import Derived.Test.YtmhamlhmmkbkaaaDoorG0
import Derived.Great.BuildSlice
namespace Go.Proofs.YtmhamlhmmkbkaaaDoor
open Go.ChangeShapes Go.WideShapes Go.ChangeAt Go.RowKit
set_option linter.unusedVariables false
set_option maxRecDepth 100000
set_option linter.unusedSimpArgs false
def MeantOk (f : Nat) : Prop := ∀ (c : Cm) (v : Value) (w : World), RowT w v c.nms → c.nms.length ≤ 16777216 → c.anc.size ≤ 16777216 → c.arc.size ≤ 16777216 → Calls Tryd.prog f #[.agg (cmL c v).toArray] w fun e w' => ∃ u, e = .returned (.agg (cmL (meantC c) u).toArray) ∧ OwnT w.heap.size w' u c.nms ∧ Below w.heap.size w w'
set_option maxHeartbeats 8000000 in
theorem cmdBack_w (HD : DecodeOkT 8) (HL : LineOk 12) (HM : MeantOk 13) (c0 : Cm) (v0 : Value) (w : World) (hTab : TabU w) (h0 : RowT w v0 c0.nms) (hl : c0.nms.length ≤ 1048576) (ht : totT c0.nms ≤ 1048576) (ha : c0.anc.size ≤ 1048576) (hb : c0.arc.size ≤ 1048576) :
    Calls Tryd.prog 7 #[.agg (cmL c0 v0).toArray] w fun e w' => e = .returned (.bool true) ∧ Below w.heap.size w w' := by
  have hg := good_meant c0
  have hbk := back hg
  have hnm := meant_nms c0
  obtain ⟨z1, z2⟩ := meant_size c0
  obtain ⟨z3, z4⟩ := lineW_size (meantC c0)
  obtain ⟨c, hc⟩ : ∃ c, c = meantC c0 := ⟨_, rfl⟩
  have HMM : Hid (∀ W, Below w.heap.size w W → Calls Tryd.prog 13 #[.agg #[.int .i64 c0.prog, .int .u8 (c0.op.toNat : Int), .bool c0.vb, .bool c0.up, .bool c0.qu, .bool c0.det, .bool c0.dat, .bool c0.bare, .bool c0.thin, .int .i64 c0.kind, .int .i64 c0.wh, .string c0.anc, .string c0.arc, v0]] W fun e w' => ∃ u, e = .returned (.agg #[.int .i64 c.prog, .int .u8 (c.op.toNat : Int), .bool c.vb, .bool c.up, .bool c.qu, .bool c.det, .bool c.dat, .bool c.bare, .bool c.thin, .int .i64 c.kind, .int .i64 c.wh, .string c.anc, .string c.arc, u]) ∧ OwnT W.heap.size w' u c.nms ∧ Below W.heap.size W w') := fun W hw => by
    rw [hc, hnm]
    exact HM c0 v0 W (h0.on hw) (by omega) (by omega) (by omega)
  rw [← hc] at hg hbk hnm z1 z2 z3 z4
  rw [hnm] at z3 z4
  have HLn : Hid (∀ W u, RowT W u c.nms → Calls Tryd.prog 12 #[.agg #[.int .i64 c.prog, .int .u8 (c.op.toNat : Int), .bool c.vb, .bool c.up, .bool c.qu, .bool c.det, .bool c.dat, .bool c.bare, .bool c.thin, .int .i64 c.kind, .int .i64 c.wh, .string c.anc, .string c.arc, u]] W fun e w' => ∃ v, e = .returned (.tuple #[v, .int .i64 0]) ∧ OwnT W.heap.size w' v (lineW c) ∧ Below W.heap.size W w') := fun W u hu => LineOk.yes HL hg hu (by rw [hnm]; omega) (by rw [hnm]; omega) (by omega) (by omega)
  have HB : Hid (∀ W v, Below w.heap.size w W → RowT W v (lineW c) → Calls Tryd.prog 8 #[v] W fun e w' => ∃ u, e = .returned (.tuple #[.agg #[.int .i64 c.prog, .int .u8 (c.op.toNat : Int), .bool c.vb, .bool c.up, .bool c.qu, .bool c.det, .bool c.dat, .bool c.bare, .bool c.thin, .int .i64 c.kind, .int .i64 c.wh, .string c.anc, .string c.arc, u], .string ⟨#[]⟩, .int .i64 0]) ∧ OwnT W.heap.size w' u c.nms ∧ Below W.heap.size W w') := fun W v hbT hv => DecodeOkT.yes HD (hTab.on hbT) hv (by omega) (by omega) hbk
  have HS : Hid (∀ W u v, RowT W u c.nms → RowT W v c.nms → Calls Tryd.prog 11 #[.agg #[.int .i64 c.prog, .int .u8 (c.op.toNat : Int), .bool c.vb, .bool c.up, .bool c.qu, .bool c.det, .bool c.dat, .bool c.bare, .bool c.thin, .int .i64 c.kind, .int .i64 c.wh, .string c.anc, .string c.arc, u], .agg #[.int .i64 c.prog, .int .u8 (c.op.toNat : Int), .bool c.vb, .bool c.up, .bool c.qu, .bool c.det, .bool c.dat, .bool c.bare, .bool c.thin, .int .i64 c.kind, .int .i64 c.wh, .string c.anc, .string c.arc, v]] W fun e w' => e = .returned (.bool true) ∧ Below W.heap.size W w') := fun W u v hu hv => same15_c c u v W hu hv (by rw [hnm]; omega)
  obtain ⟨av, cv, qv, _, _⟩ := h0.form
  subst qv
  simp only [cmL]
  obtain ⟨W, hW⟩ : ∃ W, w.alloc (.cells #[.int .i64 c0.prog, .int .u8 (c0.op.toNat : Int), .bool c0.vb, .bool c0.up, .bool c0.qu, .bool c0.det, .bool c0.dat, .bool c0.bare, .bool c0.thin, .int .i64 c0.kind, .int .i64 c0.wh, .string c0.anc, .string c0.arc, .slice av c0.nms.length cv] 27) = W := ⟨_, rfl⟩
  have hP := heap_alloc_new w (.cells #[.int .i64 c0.prog, .int .u8 (c0.op.toNat : Int), .bool c0.vb, .bool c0.up, .bool c0.qu, .bool c0.det, .bool c0.dat, .bool c0.bare, .bool c0.thin, .int .i64 c0.kind, .int .i64 c0.wh, .string c0.anc, .string c0.arc, .slice av c0.nms.length cv] 27)
  have hB0 : Below w.heap.size w W := by rw [← hW]; exact bupK (Below.refl _ _) _
  rw [hW] at hP
  have x0 := cell_rowK hP 0 _ rfl
  have x1 := cell_rowK hP 1 _ rfl
  have x2 := cell_rowK hP 2 _ rfl
  have x3 := cell_rowK hP 3 _ rfl
  have x4 := cell_rowK hP 4 _ rfl
  have x5 := cell_rowK hP 5 _ rfl
  have x6 := cell_rowK hP 6 _ rfl
  have x7 := cell_rowK hP 7 _ rfl
  have x8 := cell_rowK hP 8 _ rfl
  have x9 := cell_rowK hP 9 _ rfl
  have x10 := cell_rowK hP 10 _ rfl
  have x11 := cell_rowK hP 11 _ rfl
  have x12 := cell_rowK hP 12 _ rfl
  have x13 := cell_rowK hP 13 _ rfl
  clear HD HL HM h0 hg hbk hc hnm z1 z2 z3 z4 hP
  go_enter Tryd.func7, Tryd.ntmps7
  go_upto_region 1 with fail
  try rw [hW]
  clear hW
  go_upto_region 2 with (first
    | (go_at_call 13; refine (HMM.out _ hB0).mono ?_; rintro e w3 ⟨u3, rfl, o3, b3⟩; obtain ⟨a3, k3, rfl⟩ := OwnT.form o3)
    | (refine wpList_store_kz rfl rfl _ _ _ rfl w3.heap.size 0 (.agg #[.int .i64 c.prog, .int .u8 (c.op.toNat : Int), .bool c.vb, .bool c.up, .bool c.qu, .bool c.det, .bool c.dat, .bool c.bare, .bool c.thin, .int .i64 c.kind, .int .i64 c.wh, .string c.anc, .string c.arc, .slice a3 c.nms.length k3]) rfl rfl _ _ #[.int .i64 c.prog, .int .u8 (c.op.toNat : Int), .bool c.vb, .bool c.up, .bool c.qu, .bool c.det, .bool c.dat, .bool c.bare, .bool c.thin, .int .i64 c.kind, .int .i64 c.wh, .string c.anc, .string c.arc, .slice a3 c.nms.length k3] (heap_alloc_new _ _) (by kernel_rfl) rfl rfl rfl ?_; intro W4 S4 q4; have b4 := q4.belowN (bupK (Below.refl _ w3) _) (Nat.le_refl _) (Nat.le_refl _); clear q4))
  have hB4 := bel3K (bel3K hB0 b3) b4
  have r4 := (OwnT.row o3).on b4
  clear x0 x1 x2 x3 x4 x5 x6 x7 x8 x9 x10 x11 x12 x13
  have y0 := cell_rowK S4 0 _ rfl
  have y1 := cell_rowK S4 1 _ rfl
  have y2 := cell_rowK S4 2 _ rfl
  have y3 := cell_rowK S4 3 _ rfl
  have y4 := cell_rowK S4 4 _ rfl
  have y5 := cell_rowK S4 5 _ rfl
  have y6 := cell_rowK S4 6 _ rfl
  have y7 := cell_rowK S4 7 _ rfl
  have y8 := cell_rowK S4 8 _ rfl
  have y9 := cell_rowK S4 9 _ rfl
  have y10 := cell_rowK S4 10 _ rfl
  have y11 := cell_rowK S4 11 _ rfl
  have y12 := cell_rowK S4 12 _ rfl
  have y13 := cell_rowK S4 13 _ rfl
  clear b4 b3 HMM o3 hB0
  go_upto_region 3 with (go_at_call 12; refine (HLn.out _ _ r4).mono ?_; rintro e w5 ⟨v5, rfl, o5, b5⟩)
  have hB5 := bel3K hB4 b5
  have r5 := r4.on b5
  have S5 := hkeepK b5 S4
  clear y0 y1 y2 y3 y4 y5 y6 y7 y8 y9 y10 y11 y12 y13 S4 b5 HLn hB4 r4
  go_upto_region 4 with (first
    | (go_at_call 8; refine (HB.out _ _ hB5 (OwnT.row o5)).mono ?_; rintro e w6 ⟨u6, rfl, o6, b6⟩; obtain ⟨a6, k6, rfl⟩ := OwnT.form o6)
    | (refine wpList_store_kz rfl rfl _ _ _ rfl w6.heap.size 0 (.agg #[.int .i64 c.prog, .int .u8 (c.op.toNat : Int), .bool c.vb, .bool c.up, .bool c.qu, .bool c.det, .bool c.dat, .bool c.bare, .bool c.thin, .int .i64 c.kind, .int .i64 c.wh, .string c.anc, .string c.arc, .slice a6 c.nms.length k6]) rfl rfl _ _ #[.int .i64 c.prog, .int .u8 (c.op.toNat : Int), .bool c.vb, .bool c.up, .bool c.qu, .bool c.det, .bool c.dat, .bool c.bare, .bool c.thin, .int .i64 c.kind, .int .i64 c.wh, .string c.anc, .string c.arc, .slice a6 c.nms.length k6] (heap_alloc_new _ _) (by kernel_rfl) rfl rfl rfl ?_; intro W7 S7 q7; have b7 := q7.belowN (bupK (Below.refl _ w6) _) (Nat.le_refl _) (Nat.le_refl _); clear q7))
  have hB7 := bel3K (bel3K hB5 b6) b7
  have r7 := (r5.on b6).on b7
  have t7 := (OwnT.row o6).on b7
  have T7 := hkeepK b7 (hkeepK b6 S5)
  have x0 := cell_rowK S7 0 _ rfl
  have x1 := cell_rowK S7 1 _ rfl
  have x2 := cell_rowK S7 2 _ rfl
  have x3 := cell_rowK S7 3 _ rfl
  have x4 := cell_rowK S7 4 _ rfl
  have x5 := cell_rowK S7 5 _ rfl
  have x6 := cell_rowK S7 6 _ rfl
  have x7 := cell_rowK S7 7 _ rfl
  have x8 := cell_rowK S7 8 _ rfl
  have x9 := cell_rowK S7 9 _ rfl
  have x10 := cell_rowK S7 10 _ rfl
  have x11 := cell_rowK S7 11 _ rfl
  have x12 := cell_rowK S7 12 _ rfl
  have x13 := cell_rowK S7 13 _ rfl
  have y0 := cell_rowK T7 0 _ rfl
  have y1 := cell_rowK T7 1 _ rfl
  have y2 := cell_rowK T7 2 _ rfl
  have y3 := cell_rowK T7 3 _ rfl
  have y4 := cell_rowK T7 4 _ rfl
  have y5 := cell_rowK T7 5 _ rfl
  have y6 := cell_rowK T7 6 _ rfl
  have y7 := cell_rowK T7 7 _ rfl
  have y8 := cell_rowK T7 8 _ rfl
  have y9 := cell_rowK T7 9 _ rfl
  have y10 := cell_rowK T7 10 _ rfl
  have y11 := cell_rowK T7 11 _ rfl
  have y12 := cell_rowK T7 12 _ rfl
  have y13 := cell_rowK T7 13 _ rfl
  clear S7 T7 b7 b6 S5 r5 o5 o6 hB5 HB
  go_wp2_with (first
    | (go_at_call 9; refine (num_c _ _).mono ?_; rintro e wn ⟨rfl, hwn⟩; rw [hwn]; clear hwn)
    | (go_at_call 11; refine (HS.out _ _ _ t7 r7).mono ?_; rintro e w8 ⟨rfl, b8⟩))
  go_ret
  exact ⟨by simp, bel3K hB7 b8⟩
end Go.Proofs.YtmhamlhmmkbkaaaDoor
