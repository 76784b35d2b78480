
-- CmdForth's walk, over any Decode and Line that answer so.
import Derived.Test.YtmhamlhmmkbkaaaDoorG0
import Derived.Great.BuildSlice
namespace Go.Proofs.YtmhamlhmmkbkaaaDoor
open Go.ChangeShapes Go.WideShapes Go.ChangeAt Go.RowKit
set_option linter.unusedVariables false
set_option maxRecDepth 100000
set_option linter.unusedSimpArgs false
set_option maxHeartbeats 8000000 in
theorem forth_no (HD : DecodeOkT 8) (v0 : Value) (L : List ByteArray) (w : World) (hTab : TabU w) (h0 : RowT w v0 L) (hl : L.length ≤ 1048576) (ht : totT L ≤ 1048576) (x : ByteArray) (n : Int) (hd : decC L = .inl (x, n)) :
    Calls Tryd.prog 6 #[v0] w fun e w' => e = .returned (.bool true) ∧ Below w.heap.size w w' := by
  have hn0 : n ≠ 0 := dec_e hd
  have hz : (n == 0) = false := by simp [hn0]
  have H1 : Hid (Calls Tryd.prog 8 #[.slice (some ⟨w.heap.size, 0, none⟩) 3 3] (w.alloc (.cells #[.string ⟨#[97, 114]⟩, .string ⟨#[116]⟩, .string ⟨#[97]⟩] 9)) fun e w' => ∃ u, e = .returned (.tuple #[.agg #[.int .i64 0, .int .u8 116, .bool false, .bool false, .bool false, .bool false, .bool false, .bool false, .bool false, .int .i64 0, .int .i64 0, .string ⟨#[]⟩, .string ⟨#[97]⟩, u], .string ⟨#[]⟩, .int .i64 0]) ∧ OwnT (w.alloc (.cells #[.string ⟨#[97, 114]⟩, .string ⟨#[116]⟩, .string ⟨#[97]⟩] 9)).heap.size w' u [] ∧ Below (w.alloc (.cells #[.string ⟨#[97, 114]⟩, .string ⟨#[116]⟩, .string ⟨#[97]⟩] 9)).heap.size (w.alloc (.cells #[.string ⟨#[97, 114]⟩, .string ⟨#[116]⟩, .string ⟨#[97]⟩] 9)) w') :=
    DecodeOkT.yes HD (hTab.on (bupK (Below.refl _ _) _)) (rowT_new [⟨#[97, 114]⟩, ⟨#[116]⟩, ⟨#[97]⟩] _ _ (heap_alloc_new w _) (by simp)) (by simp) (by decide) probe1
  have HA : Hid (∀ W, Below w.heap.size w W → Calls Tryd.prog 8 #[v0] W fun e w' => ∃ u, e = .returned (.tuple #[.agg #[.int .i64 0, .int .u8 0, .bool false, .bool false, .bool false, .bool false, .bool false, .bool false, .bool false, .int .i64 0, .int .i64 0, .string ⟨#[]⟩, .string ⟨#[]⟩, u], .string x, .int .i64 n]) ∧ OwnT W.heap.size w' u [] ∧ Below W.heap.size W w') := fun W hb => DecodeOkT.no HD (hTab.on hb) (h0.on hb) (by omega) (by omega) hd
  have HS : Hid (∀ W u, RowT W u [] → Calls Tryd.prog 11 #[.agg #[.int .i64 0, .int .u8 0, .bool false, .bool false, .bool false, .bool false, .bool false, .bool false, .bool false, .int .i64 0, .int .i64 0, .string ⟨#[]⟩, .string ⟨#[]⟩, u], .agg #[.int .i64 0, .int .u8 0, .bool false, .bool false, .bool false, .bool false, .bool false, .bool false, .bool false, .int .i64 0, .int .i64 0, .string ⟨#[]⟩, .string ⟨#[]⟩, .slice none 0 0]] W fun e w' => e = .returned (.bool true) ∧ Below W.heap.size W w') := fun W u hu => same15_c cm0 u (.slice none 0 0) W hu (OwnT.row (ownT_nil 0 W)) (by decide)
  have hB0 : Below w.heap.size w (w.alloc (.cells #[.string ⟨#[97, 114]⟩, .string ⟨#[116]⟩, .string ⟨#[97]⟩] 9)) := bupK (Below.refl _ _) _
  clear HD h0 hd hn0
  go_enter Tryd.func6, Tryd.ntmps6
  go_upto_region 2 with (first
    | (go_at_call 8; refine H1.out.mono ?_; rintro e w1 ⟨u1, rfl, o1, b1⟩; obtain ⟨a1, k1, rfl⟩ := OwnT.form o1)
    | (refine wpList_store_kz rfl rfl _ _ _ rfl w1.heap.size 0 (.agg #[.int .i64 0, .int .u8 116, .bool false, .bool false, .bool false, .bool false, .bool false, .bool false, .bool false, .int .i64 0, .int .i64 0, .string ⟨#[]⟩, .string ⟨#[97]⟩, .slice a1 0 k1]) rfl rfl _ _ #[.int .i64 0, .int .u8 116, .bool false, .bool false, .bool false, .bool false, .bool false, .bool false, .bool false, .int .i64 0, .int .i64 0, .string ⟨#[]⟩, .string ⟨#[97]⟩, .slice a1 0 k1] (heap_alloc_new _ _) (by kernel_rfl) rfl rfl rfl ?_; intro W2 S2 q2; have b2 := q2.belowN (bupK (Below.refl _ w1) _) (Nat.le_refl _) (Nat.le_refl _); clear q2))
  have hB2 := bel3K (bel3K hB0 b1) b2
  have x0 := cell_rowK S2 0 _ rfl
  have x1 := cell_rowK S2 1 _ rfl
  have x2 := cell_rowK S2 2 _ rfl
  have x3 := cell_rowK S2 3 _ rfl
  have x4 := cell_rowK S2 4 _ rfl
  have x5 := cell_rowK S2 5 _ rfl
  have x6 := cell_rowK S2 6 _ rfl
  have x7 := cell_rowK S2 7 _ rfl
  have x8 := cell_rowK S2 8 _ rfl
  have x9 := cell_rowK S2 9 _ rfl
  have x10 := cell_rowK S2 10 _ rfl
  have x11 := cell_rowK S2 11 _ rfl
  have x12 := cell_rowK S2 12 _ rfl
  have x13 := cell_rowK S2 13 _ rfl
  clear S2 b2 b1 hB0 H1
  go_upto_region 4 with (go_at_call 9; refine (num_c _ _).mono ?_; rintro e wn ⟨rfl, hwn⟩; rw [hwn]; clear hwn)
  clear x0 x1 x2 x3 x4 x5 x6 x7 x8 x9 x10 x11 x12 x13
  go_upto_region 5 with (first
    | (go_at_call 8; refine (HA.out _ hB2).mono ?_; rintro e w3 ⟨u3, rfl, o3, b3⟩; obtain ⟨a3, k3, rfl⟩ := OwnT.form o3)
    | (refine wpList_store_kz rfl rfl _ _ _ rfl w3.heap.size 0 (.agg #[.int .i64 0, .int .u8 0, .bool false, .bool false, .bool false, .bool false, .bool false, .bool false, .bool false, .int .i64 0, .int .i64 0, .string ⟨#[]⟩, .string ⟨#[]⟩, .slice a3 0 k3]) rfl rfl _ _ #[.int .i64 0, .int .u8 0, .bool false, .bool false, .bool false, .bool false, .bool false, .bool false, .bool false, .int .i64 0, .int .i64 0, .string ⟨#[]⟩, .string ⟨#[]⟩, .slice a3 0 k3] (heap_alloc_new _ _) (by kernel_rfl) rfl rfl rfl ?_; intro W4 S4 q4; have b4 := q4.belowN (bupK (Below.refl _ w3) _) (Nat.le_refl _) (Nat.le_refl _); clear q4))
  have hB4 := bel3K (bel3K hB2 b3) b4
  have r4 := (OwnT.row o3).on b4
  have y0 := cell_rowK S4 0 _ rfl
  have y1 := cell_rowK S4 1 _ rfl
  have y2 := cell_rowK S4 2 _ rfl
  have y3 := cell_rowK S4 3 _ rfl
  have y4 := cell_rowK S4 4 _ rfl
  have y5 := cell_rowK S4 5 _ rfl
  have y6 := cell_rowK S4 6 _ rfl
  have y7 := cell_rowK S4 7 _ rfl
  have y8 := cell_rowK S4 8 _ rfl
  have y9 := cell_rowK S4 9 _ rfl
  have y10 := cell_rowK S4 10 _ rfl
  have y11 := cell_rowK S4 11 _ rfl
  have y12 := cell_rowK S4 12 _ rfl
  have y13 := cell_rowK S4 13 _ rfl
  clear S4 b4 b3 HA o3 hB2
  go_wp2_with (first
    | (go_at_call 9; refine (num_c _ _).mono ?_; rintro e wn ⟨rfl, hwn⟩; rw [hwn]; clear hwn)
    | (go_at_call 11; refine (HS.out _ _ r4).mono ?_; rintro e w5 ⟨rfl, b5⟩))
  go_ret
  exact ⟨rfl, bel3K hB4 b5⟩
set_option maxHeartbeats 8000000 in
theorem forth_yes (HD : DecodeOkT 8) (HL : LineOk 12) (v0 : Value) (L : List ByteArray) (w : World) (hTab : TabU w) (h0 : RowT w v0 L) (hl : L.length ≤ 1048576) (ht : totT L ≤ 1048576) (c : Cm) (hd : decC L = .inr c) :
    Calls Tryd.prog 6 #[v0] w fun e w' => e = .returned (.bool true) ∧ Below w.heap.size w w' := by
  have hg := forth hd
  have hbk := back hg
  obtain ⟨z1, z2⟩ := dec_size hd
  obtain ⟨z3, z4⟩ := lineW_size c
  have H1 : Hid (Calls Tryd.prog 8 #[.slice (some ⟨w.heap.size, 0, none⟩) 3 3] (w.alloc (.cells #[.string ⟨#[97, 114]⟩, .string ⟨#[116]⟩, .string ⟨#[97]⟩] 9)) fun e w' => ∃ u, e = .returned (.tuple #[.agg #[.int .i64 0, .int .u8 116, .bool false, .bool false, .bool false, .bool false, .bool false, .bool false, .bool false, .int .i64 0, .int .i64 0, .string ⟨#[]⟩, .string ⟨#[97]⟩, u], .string ⟨#[]⟩, .int .i64 0]) ∧ OwnT (w.alloc (.cells #[.string ⟨#[97, 114]⟩, .string ⟨#[116]⟩, .string ⟨#[97]⟩] 9)).heap.size w' u [] ∧ Below (w.alloc (.cells #[.string ⟨#[97, 114]⟩, .string ⟨#[116]⟩, .string ⟨#[97]⟩] 9)).heap.size (w.alloc (.cells #[.string ⟨#[97, 114]⟩, .string ⟨#[116]⟩, .string ⟨#[97]⟩] 9)) w') :=
    DecodeOkT.yes HD (hTab.on (bupK (Below.refl _ _) _)) (rowT_new [⟨#[97, 114]⟩, ⟨#[116]⟩, ⟨#[97]⟩] _ _ (heap_alloc_new w _) (by simp)) (by simp) (by decide) probe1
  have HA : Hid (∀ W, Below w.heap.size w W → Calls Tryd.prog 8 #[v0] W fun e w' => ∃ u, e = .returned (.tuple #[.agg #[.int .i64 c.prog, .int .u8 (c.op.toNat : Int), .bool c.vb, .bool c.up, .bool c.qu, .bool c.det, .bool c.dat, .bool c.bare, .bool c.thin, .int .i64 c.kind, .int .i64 c.wh, .string c.anc, .string c.arc, u], .string ⟨#[]⟩, .int .i64 0]) ∧ OwnT W.heap.size w' u c.nms ∧ Below W.heap.size W w') := fun W hb => DecodeOkT.yes HD (hTab.on hb) (h0.on hb) (by omega) (by omega) hd
  have HLn : Hid (∀ W u, RowT W u c.nms → Calls Tryd.prog 12 #[.agg #[.int .i64 c.prog, .int .u8 (c.op.toNat : Int), .bool c.vb, .bool c.up, .bool c.qu, .bool c.det, .bool c.dat, .bool c.bare, .bool c.thin, .int .i64 c.kind, .int .i64 c.wh, .string c.anc, .string c.arc, u]] W fun e w' => ∃ v, e = .returned (.tuple #[v, .int .i64 0]) ∧ OwnT W.heap.size w' v (lineW c) ∧ Below W.heap.size W w') := fun W u hu => LineOk.yes HL hg hu (by omega) (by omega) (by omega) (by omega)
  have HB : Hid (∀ W v, Below w.heap.size w W → RowT W v (lineW c) → Calls Tryd.prog 8 #[v] W fun e w' => ∃ u, e = .returned (.tuple #[.agg #[.int .i64 c.prog, .int .u8 (c.op.toNat : Int), .bool c.vb, .bool c.up, .bool c.qu, .bool c.det, .bool c.dat, .bool c.bare, .bool c.thin, .int .i64 c.kind, .int .i64 c.wh, .string c.anc, .string c.arc, u], .string ⟨#[]⟩, .int .i64 0]) ∧ OwnT W.heap.size w' u c.nms ∧ Below W.heap.size W w') := fun W v hbT hv => DecodeOkT.yes HD (hTab.on hbT) hv (by omega) (by omega) hbk
  have HS : Hid (∀ W u v, RowT W u c.nms → RowT W v c.nms → Calls Tryd.prog 11 #[.agg #[.int .i64 c.prog, .int .u8 (c.op.toNat : Int), .bool c.vb, .bool c.up, .bool c.qu, .bool c.det, .bool c.dat, .bool c.bare, .bool c.thin, .int .i64 c.kind, .int .i64 c.wh, .string c.anc, .string c.arc, u], .agg #[.int .i64 c.prog, .int .u8 (c.op.toNat : Int), .bool c.vb, .bool c.up, .bool c.qu, .bool c.det, .bool c.dat, .bool c.bare, .bool c.thin, .int .i64 c.kind, .int .i64 c.wh, .string c.anc, .string c.arc, v]] W fun e w' => e = .returned (.bool true) ∧ Below W.heap.size W w') := fun W u v hu hv => same15_c c u v W hu hv (by omega)
  have hB0 : Below w.heap.size w (w.alloc (.cells #[.string ⟨#[97, 114]⟩, .string ⟨#[116]⟩, .string ⟨#[97]⟩] 9)) := bupK (Below.refl _ _) _
  clear HD HL h0 hd hg hbk z1 z2 z3 z4
  go_enter Tryd.func6, Tryd.ntmps6
  go_upto_region 2 with (first
    | (go_at_call 8; refine H1.out.mono ?_; rintro e w1 ⟨u1, rfl, o1, b1⟩; obtain ⟨a1, k1, rfl⟩ := OwnT.form o1)
    | (refine wpList_store_kz rfl rfl _ _ _ rfl w1.heap.size 0 (.agg #[.int .i64 0, .int .u8 116, .bool false, .bool false, .bool false, .bool false, .bool false, .bool false, .bool false, .int .i64 0, .int .i64 0, .string ⟨#[]⟩, .string ⟨#[97]⟩, .slice a1 0 k1]) rfl rfl _ _ #[.int .i64 0, .int .u8 116, .bool false, .bool false, .bool false, .bool false, .bool false, .bool false, .bool false, .int .i64 0, .int .i64 0, .string ⟨#[]⟩, .string ⟨#[97]⟩, .slice a1 0 k1] (heap_alloc_new _ _) (by kernel_rfl) rfl rfl rfl ?_; intro W2 S2 q2; have b2 := q2.belowN (bupK (Below.refl _ w1) _) (Nat.le_refl _) (Nat.le_refl _); clear q2))
  have hB2 := bel3K (bel3K hB0 b1) b2
  have x0 := cell_rowK S2 0 _ rfl
  have x1 := cell_rowK S2 1 _ rfl
  have x2 := cell_rowK S2 2 _ rfl
  have x3 := cell_rowK S2 3 _ rfl
  have x4 := cell_rowK S2 4 _ rfl
  have x5 := cell_rowK S2 5 _ rfl
  have x6 := cell_rowK S2 6 _ rfl
  have x7 := cell_rowK S2 7 _ rfl
  have x8 := cell_rowK S2 8 _ rfl
  have x9 := cell_rowK S2 9 _ rfl
  have x10 := cell_rowK S2 10 _ rfl
  have x11 := cell_rowK S2 11 _ rfl
  have x12 := cell_rowK S2 12 _ rfl
  have x13 := cell_rowK S2 13 _ rfl
  clear S2 b2 b1 hB0 H1 o1
  go_upto_region 4 with (go_at_call 9; refine (num_c _ _).mono ?_; rintro e wn ⟨rfl, hwn⟩; rw [hwn]; clear hwn)
  clear x0 x1 x2 x3 x4 x5 x6 x7 x8 x9 x10 x11 x12 x13
  go_upto_region 5 with (first
    | (go_at_call 8; refine (HA.out _ hB2).mono ?_; rintro e w3 ⟨u3, rfl, o3, b3⟩; obtain ⟨a3, k3, rfl⟩ := OwnT.form o3)
    | (refine wpList_store_kz rfl rfl _ _ _ rfl w3.heap.size 0 (.agg #[.int .i64 c.prog, .int .u8 (c.op.toNat : Int), .bool c.vb, .bool c.up, .bool c.qu, .bool c.det, .bool c.dat, .bool c.bare, .bool c.thin, .int .i64 c.kind, .int .i64 c.wh, .string c.anc, .string c.arc, .slice a3 c.nms.length k3]) rfl rfl _ _ #[.int .i64 c.prog, .int .u8 (c.op.toNat : Int), .bool c.vb, .bool c.up, .bool c.qu, .bool c.det, .bool c.dat, .bool c.bare, .bool c.thin, .int .i64 c.kind, .int .i64 c.wh, .string c.anc, .string c.arc, .slice a3 c.nms.length k3] (heap_alloc_new _ _) (by kernel_rfl) rfl rfl rfl ?_; intro W4 S4 q4; have b4 := q4.belowN (bupK (Below.refl _ w3) _) (Nat.le_refl _) (Nat.le_refl _); clear q4))
  have hB4 := bel3K (bel3K hB2 b3) b4
  have r4 := (OwnT.row o3).on b4
  have y0 := cell_rowK S4 0 _ rfl
  have y1 := cell_rowK S4 1 _ rfl
  have y2 := cell_rowK S4 2 _ rfl
  have y3 := cell_rowK S4 3 _ rfl
  have y4 := cell_rowK S4 4 _ rfl
  have y5 := cell_rowK S4 5 _ rfl
  have y6 := cell_rowK S4 6 _ rfl
  have y7 := cell_rowK S4 7 _ rfl
  have y8 := cell_rowK S4 8 _ rfl
  have y9 := cell_rowK S4 9 _ rfl
  have y10 := cell_rowK S4 10 _ rfl
  have y11 := cell_rowK S4 11 _ rfl
  have y12 := cell_rowK S4 12 _ rfl
  have y13 := cell_rowK S4 13 _ rfl
  clear b4 b3 HA o3 hB2
  go_upto_region 7 with (go_at_call 9; refine (num_c _ _).mono ?_; rintro e wn ⟨rfl, hwn⟩; rw [hwn]; clear hwn)
  go_upto_region 8 with (go_at_call 12; refine (HLn.out _ _ r4).mono ?_; rintro e w5 ⟨v5, rfl, o5, b5⟩)
  have hB5 := bel3K hB4 b5
  have r5 := r4.on b5
  have S5 := hkeepK b5 S4
  clear y0 y1 y2 y3 y4 y5 y6 y7 y8 y9 y10 y11 y12 y13 S4 b5 HLn hB4 r4
  go_upto_region 9 with (first
    | (go_at_call 8; refine (HB.out _ _ hB5 (OwnT.row o5)).mono ?_; rintro e w6 ⟨u6, rfl, o6, b6⟩; obtain ⟨a6, k6, rfl⟩ := OwnT.form o6)
    | (refine wpList_store_kz rfl rfl _ _ _ rfl w6.heap.size 0 (.agg #[.int .i64 c.prog, .int .u8 (c.op.toNat : Int), .bool c.vb, .bool c.up, .bool c.qu, .bool c.det, .bool c.dat, .bool c.bare, .bool c.thin, .int .i64 c.kind, .int .i64 c.wh, .string c.anc, .string c.arc, .slice a6 c.nms.length k6]) rfl rfl _ _ #[.int .i64 c.prog, .int .u8 (c.op.toNat : Int), .bool c.vb, .bool c.up, .bool c.qu, .bool c.det, .bool c.dat, .bool c.bare, .bool c.thin, .int .i64 c.kind, .int .i64 c.wh, .string c.anc, .string c.arc, .slice a6 c.nms.length k6] (heap_alloc_new _ _) (by kernel_rfl) rfl rfl rfl ?_; intro W7 S7 q7; have b7 := q7.belowN (bupK (Below.refl _ w6) _) (Nat.le_refl _) (Nat.le_refl _); clear q7))
  have hB7 := bel3K (bel3K hB5 b6) b7
  have r7 := (r5.on b6).on b7
  have t7 := (OwnT.row o6).on b7
  have T7 := hkeepK b7 (hkeepK b6 S5)
  have x0 := cell_rowK S7 0 _ rfl
  have x1 := cell_rowK S7 1 _ rfl
  have x2 := cell_rowK S7 2 _ rfl
  have x3 := cell_rowK S7 3 _ rfl
  have x4 := cell_rowK S7 4 _ rfl
  have x5 := cell_rowK S7 5 _ rfl
  have x6 := cell_rowK S7 6 _ rfl
  have x7 := cell_rowK S7 7 _ rfl
  have x8 := cell_rowK S7 8 _ rfl
  have x9 := cell_rowK S7 9 _ rfl
  have x10 := cell_rowK S7 10 _ rfl
  have x11 := cell_rowK S7 11 _ rfl
  have x12 := cell_rowK S7 12 _ rfl
  have x13 := cell_rowK S7 13 _ rfl
  have y0 := cell_rowK T7 0 _ rfl
  have y1 := cell_rowK T7 1 _ rfl
  have y2 := cell_rowK T7 2 _ rfl
  have y3 := cell_rowK T7 3 _ rfl
  have y4 := cell_rowK T7 4 _ rfl
  have y5 := cell_rowK T7 5 _ rfl
  have y6 := cell_rowK T7 6 _ rfl
  have y7 := cell_rowK T7 7 _ rfl
  have y8 := cell_rowK T7 8 _ rfl
  have y9 := cell_rowK T7 9 _ rfl
  have y10 := cell_rowK T7 10 _ rfl
  have y11 := cell_rowK T7 11 _ rfl
  have y12 := cell_rowK T7 12 _ rfl
  have y13 := cell_rowK T7 13 _ rfl
  clear S7 T7 b7 b6 S5 r5 o5 o6 hB5 HB
  go_wp2_with (first
    | (go_at_call 9; refine (num_c _ _).mono ?_; rintro e wn ⟨rfl, hwn⟩; rw [hwn]; clear hwn)
    | (go_at_call 11; refine (HS.out _ _ _ t7 r7).mono ?_; rintro e w8 ⟨rfl, b8⟩))
  go_ret
  exact ⟨by simp, bel3K hB7 b8⟩
theorem cmdForth_w (HD : DecodeOkT 8) (HL : LineOk 12) (v0 : Value) (L : List ByteArray) (w : World) (hTab : TabU w) (h0 : RowT w v0 L) (hl : L.length ≤ 1048576) (ht : totT L ≤ 1048576) :
    Calls Tryd.prog 6 #[v0] w fun e w' => e = .returned (.bool true) ∧ Below w.heap.size w w' := by
  cases hd : decC L with
  | inl x => obtain ⟨x, n⟩ := x; exact forth_no HD v0 L w hTab h0 hl ht x n hd
  | inr c => exact forth_yes HD HL v0 L w hTab h0 hl ht c hd
end Go.Proofs.YtmhamlhmmkbkaaaDoor
