
-- CmdProgram's walk, over any Decode that answers so.
import Derived.Test.YtmhamlhmmkbkaaaDoorG0
import Derived.Great.BuildSlice
import Derived.Deep.Cut
namespace Go.Proofs.YtmhamlhmmkbkaaaDoor
open Go.ChangeShapes Go.WideShapes Go.ChangeAt Go.RowKit
set_option linter.unusedVariables false
set_option maxRecDepth 100000
set_option linter.unusedSimpArgs false
theorem prog_no {p : ByteArray} (t : List ByteArray) (h1 : p ≠ wAr) (h2 : p ≠ wRan) : decC (p :: t) = .inl (p, 150) := by
  unfold decC
  simp only []
  rw [if_neg h2, if_neg h1]
theorem prog_ran (d : Bool) (t : List ByteArray) : decC (wRan :: ((if d then [wD] else []) ++ ⟨#[97]⟩ :: t)) = .inr { cmRan d with arc := ⟨#[97]⟩, nms := t } := by
  have ha : dsh ⟨#[97]⟩ = false := rfl
  rw [decC_ran]
  unfold ranC
  cases d with
  | false =>
    simp only [Bool.false_eq_true, if_false, List.nil_append]
    rw [dashD _ ha, dropD _ ha]
    rfl
  | true =>
    simp only [if_true, List.cons_append, List.nil_append]
    have e1 : dashL (wD :: ⟨#[97]⟩ :: t) = [[68]] := by
      unfold dashL
      rw [List.takeWhile_cons, if_pos (show dsh wD = true from rfl), takeD _ ha]
      show letL [68] ++ [] = _
      rw [letL_small [68] (by simp), List.append_nil]
      rfl
    have e2 : (wD :: ⟨#[97]⟩ :: t).dropWhile dsh = ⟨#[97]⟩ :: t := by
      rw [List.dropWhile_cons, if_pos (show dsh wD = true from rfl), dropD _ ha]
    rw [e1, e2]
    rfl
theorem beqT {x y : ByteArray} (h : x ≠ y) : (x.toList == y.toList) = false := strNe h
set_option maxHeartbeats 8000000 in
theorem program_at (HD : DecodeOkT 8) (v0 : Value) (L : List ByteArray) (w : World) (hTab : TabU w) (h0 : RowT w v0 L) (hl : L.length ≤ 1048576) (ht : totT L ≤ 1048576) :
    Calls Tryd.prog 3 #[.string ⟨#[97, 114]⟩, v0, .bool true] w fun e w' => e = .returned (.bool true) ∧ Below w.heap.size w w' := by
  have zt1 : totT [⟨#[97, 114]⟩, ⟨#[115]⟩] ≤ 2097152 := by decide
  have zt2 : totT [⟨#[114, 97, 110, 108, 105, 98]⟩, ⟨#[45, 68]⟩, ⟨#[97]⟩] ≤ 64 := by decide
  obtain ⟨A1, hA1⟩ : ∃ A1, A1 = decC (⟨#[97, 114]⟩ :: ⟨#[115]⟩ :: L) := ⟨_, rfl⟩
  have HA : Hid (∀ W v, Below w.heap.size w W → RowT W v ([⟨#[97, 114]⟩, ⟨#[115]⟩] ++ L) → Calls Tryd.prog 8 #[v] W fun e w' => ∃ u, e = .returned (.tuple #[.agg #[.int .i64 (ansC A1).prog, .int .u8 ((ansC A1).op.toNat : Int), .bool (ansC A1).vb, .bool (ansC A1).up, .bool (ansC A1).qu, .bool (ansC A1).det, .bool (ansC A1).dat, .bool (ansC A1).bare, .bool (ansC A1).thin, .int .i64 (ansC A1).kind, .int .i64 (ansC A1).wh, .string (ansC A1).anc, .string (ansC A1).arc, u], .string (ansW A1), .int .i64 (ansE A1)]) ∧ OwnT W.heap.size w' u (ansC A1).nms ∧ Below W.heap.size W w') := fun W v hbT hv => by
    rw [hA1]
    exact HD v ([⟨#[97, 114]⟩, ⟨#[115]⟩] ++ L) W (hTab.on hbT) hv (by simp; omega) (by rw [totT_app]; omega)
  have HB : Hid (∀ W v, Below w.heap.size w W → RowT W v ([⟨#[114, 97, 110, 108, 105, 98]⟩, ⟨#[45, 68]⟩, ⟨#[97]⟩] ++ L) → Calls Tryd.prog 8 #[v] W fun e w' => ∃ u, e = .returned (.tuple #[.agg #[.int .i64 1, .int .u8 115, .bool false, .bool false, .bool false, .bool true, .bool false, .bool false, .bool false, .int .i64 0, .int .i64 0, .string ⟨#[]⟩, .string ⟨#[97]⟩, u], .string ⟨#[]⟩, .int .i64 0]) ∧ OwnT W.heap.size w' u L ∧ Below W.heap.size W w') := fun W v hbT hv =>
    DecodeOkT.yes HD (hTab.on hbT) hv (by simp; omega) (by rw [totT_app]; omega) (prog_ran true L)
  have HS : Hid (∀ W u, RowT W u L → RowT W v0 L → Calls Tryd.prog 10 #[u, v0] W fun e w' => e = .returned (.bool true) ∧ Below W.heap.size W w') := fun W u hu hv => sameW_c u v0 L W hu hv (by omega)
  obtain ⟨c, hc⟩ : ∃ c, c = ansC A1 := ⟨_, rfl⟩
  rw [← hc] at HA
  obtain ⟨xw, hxw⟩ : ∃ x, x = ansW A1 := ⟨_, rfl⟩
  obtain ⟨xe, hxe⟩ : ∃ x, x = ansE A1 := ⟨_, rfl⟩
  rw [← hxw, ← hxe] at HA
  clear hxw hxe
  have HV := hidK h0
  have hB0 : Below w.heap.size w (w.alloc (.cells #[.string ⟨#[97, 114]⟩, .string ⟨#[115]⟩] 9)) := bupK (Below.refl _ _) _
  have o0 : OwnT w.heap.size (w.alloc (.cells #[.string ⟨#[97, 114]⟩, .string ⟨#[115]⟩] 9)) (.slice (some ⟨w.heap.size, 0, none⟩) 2 2) [⟨#[97, 114]⟩, ⟨#[115]⟩] := ownT_new [⟨#[97, 114]⟩, ⟨#[115]⟩] _ _ _ (Nat.le_refl _) (heap_alloc_new w _) (by simp)
  clear HD hA1 hc h0
  go_enter Tryd.func3, Tryd.ntmps3
  go_upto_region 3 with (refine wpT_all rfl (.tmp 17) (.tmp 18) rfl w w.heap.size _ v0 [⟨#[97, 114]⟩, ⟨#[115]⟩] L rfl rfl o0 (HV.out.on hB0) (by simp) (by omega) (Nat.le_refl _) hB0 ?_; intro v2 w2 o2 b2)
  clear o0 hB0
  go_upto_region 4 with (first
    | (go_at_call 8; refine (HA.out _ _ b2 (OwnT.row o2)).mono ?_; rintro e w3 ⟨u3, rfl, o3, b3⟩; obtain ⟨a3, k3, rfl⟩ := OwnT.form o3)
    | (refine wpList_store_kz rfl rfl _ _ _ rfl w3.heap.size 0 (.agg #[.int .i64 c.prog, .int .u8 (c.op.toNat : Int), .bool c.vb, .bool c.up, .bool c.qu, .bool c.det, .bool c.dat, .bool c.bare, .bool c.thin, .int .i64 c.kind, .int .i64 c.wh, .string c.anc, .string c.arc, .slice a3 c.nms.length k3]) rfl rfl _ _ #[.int .i64 c.prog, .int .u8 (c.op.toNat : Int), .bool c.vb, .bool c.up, .bool c.qu, .bool c.det, .bool c.dat, .bool c.bare, .bool c.thin, .int .i64 c.kind, .int .i64 c.wh, .string c.anc, .string c.arc, .slice a3 c.nms.length k3] (heap_alloc_new _ _) (by kernel_rfl) rfl rfl rfl ?_; intro W4 S4 q4; have b4 := q4.belowN (bupK (Below.refl _ w3) _) (Nat.le_refl _) (Nat.le_refl _); clear q4))
  have hB4 := bel3K (bel3K b2 b3) b4
  clear S4 b4 b3 b2 o2 o3 HA
  go_upto_region 6 with (go_at_call 9; refine (num_c _ _).mono ?_; rintro e wn ⟨rfl, hwn⟩; rw [hwn]; clear hwn)
  go_upto_region 7 with fail
  obtain ⟨W6, hW6⟩ : ∃ W6, W4.alloc (.cells #[.string ⟨#[114, 97, 110, 108, 105, 98]⟩] 9) = W6 := ⟨_, rfl⟩
  have hB6 : Below w.heap.size w W6 := by rw [← hW6]; exact bupK hB4 _
  have o6 : OwnT w.heap.size W6 (.slice (some ⟨W4.heap.size, 0, none⟩) 1 1) [⟨#[114, 97, 110, 108, 105, 98]⟩] := by rw [← hW6]; exact ownT_new [⟨#[114, 97, 110, 108, 105, 98]⟩] _ _ _ hB4.size (heap_alloc_new W4 _) (by simp)
  try rw [hW6]
  clear hW6 hB4
  go_upto_region 9 with (refine wpT_one rfl (.tmp 44) (.tmp 45) rfl w w.heap.size _ [⟨#[114, 97, 110, 108, 105, 98]⟩] ⟨#[45, 68]⟩ rfl rfl o6 (by simp) (Nat.le_refl _) hB6 ?_; intro v7 w7 o7 b7)
  go_upto_region 10 with (refine wpT_one rfl (.tmp 47) (.tmp 48) rfl w w.heap.size _ ([wRan] ++ [wD]) ⟨#[97]⟩ rfl rfl o7 (by simp) (Nat.le_refl _) b7 ?_; intro v8 w8 o8 b8)
  clear o6 hB6 o7 b7
  go_upto_region 11 with (refine wpT_all rfl (.tmp 50) (.tmp 51) rfl w w.heap.size _ v0 ([wRan] ++ [wD] ++ [(⟨#[97]⟩ : ByteArray)]) L rfl rfl o8 (HV.out.on b8) (by simp) (by omega) (Nat.le_refl _) b8 ?_; intro v9 w9 o9 b9)
  clear o8 b8
  go_upto_region 12 with (first
    | (go_at_call 8; refine (HB.out _ _ b9 (OwnT.row o9)).mono ?_; rintro e w10 ⟨u10, rfl, o10, b10⟩; obtain ⟨a10, k10, rfl⟩ := OwnT.form o10)
    | (refine wpList_store_kz rfl rfl _ _ _ rfl w10.heap.size 0 (.agg #[.int .i64 1, .int .u8 115, .bool false, .bool false, .bool false, .bool true, .bool false, .bool false, .bool false, .int .i64 0, .int .i64 0, .string ⟨#[]⟩, .string ⟨#[97]⟩, .slice a10 L.length k10]) rfl rfl _ _ #[.int .i64 1, .int .u8 115, .bool false, .bool false, .bool false, .bool true, .bool false, .bool false, .bool false, .int .i64 0, .int .i64 0, .string ⟨#[]⟩, .string ⟨#[97]⟩, .slice a10 L.length k10] (heap_alloc_new _ _) (by kernel_rfl) rfl rfl rfl ?_; intro W11 S11 q11; have b11 := q11.belowN (bupK (Below.refl _ w10) _) (Nat.le_refl _) (Nat.le_refl _); clear q11))
  have hB11 := bel3K (bel3K b9 b10) b11
  have r11 := (OwnT.row o10).on b11
  have s11 := HV.out.on hB11
  have x0 := cell_rowK S11 0 _ rfl
  have x1 := cell_rowK S11 1 _ rfl
  have x2 := cell_rowK S11 2 _ rfl
  have x3 := cell_rowK S11 3 _ rfl
  have x4 := cell_rowK S11 4 _ rfl
  have x5 := cell_rowK S11 5 _ rfl
  have x6 := cell_rowK S11 6 _ rfl
  have x7 := cell_rowK S11 7 _ rfl
  have x8 := cell_rowK S11 8 _ rfl
  have x9 := cell_rowK S11 9 _ rfl
  have x10 := cell_rowK S11 10 _ rfl
  have x11 := cell_rowK S11 11 _ rfl
  have x12 := cell_rowK S11 12 _ rfl
  have x13 := cell_rowK S11 13 _ rfl
  clear S11 b11 b10 b9 o9 o10 HB
  go_wp2_with (first
    | (go_at_call 9; refine (num_c _ _).mono ?_; rintro e wn ⟨rfl, hwn⟩; rw [hwn]; clear hwn)
    | (go_at_call 10; refine (HS.out _ _ r11 s11).mono ?_; rintro e w12 ⟨rfl, b12⟩))
  go_ret
  exact ⟨by simp, bel3K hB11 b12⟩
set_option maxHeartbeats 8000000 in
theorem program_af (HD : DecodeOkT 8) (v0 : Value) (L : List ByteArray) (w : World) (hTab : TabU w) (h0 : RowT w v0 L) (hl : L.length ≤ 1048576) (ht : totT L ≤ 1048576) :
    Calls Tryd.prog 3 #[.string ⟨#[97, 114]⟩, v0, .bool false] w fun e w' => e = .returned (.bool true) ∧ Below w.heap.size w w' := by
  have zt1 : totT [⟨#[97, 114]⟩, ⟨#[115]⟩] ≤ 2097152 := by decide
  have zt2 : totT [⟨#[114, 97, 110, 108, 105, 98]⟩, ⟨#[97]⟩] ≤ 64 := by decide
  obtain ⟨A1, hA1⟩ : ∃ A1, A1 = decC (⟨#[97, 114]⟩ :: ⟨#[115]⟩ :: L) := ⟨_, rfl⟩
  have HA : Hid (∀ W v, Below w.heap.size w W → RowT W v ([⟨#[97, 114]⟩, ⟨#[115]⟩] ++ L) → Calls Tryd.prog 8 #[v] W fun e w' => ∃ u, e = .returned (.tuple #[.agg #[.int .i64 (ansC A1).prog, .int .u8 ((ansC A1).op.toNat : Int), .bool (ansC A1).vb, .bool (ansC A1).up, .bool (ansC A1).qu, .bool (ansC A1).det, .bool (ansC A1).dat, .bool (ansC A1).bare, .bool (ansC A1).thin, .int .i64 (ansC A1).kind, .int .i64 (ansC A1).wh, .string (ansC A1).anc, .string (ansC A1).arc, u], .string (ansW A1), .int .i64 (ansE A1)]) ∧ OwnT W.heap.size w' u (ansC A1).nms ∧ Below W.heap.size W w') := fun W v hbT hv => by
    rw [hA1]
    exact HD v ([⟨#[97, 114]⟩, ⟨#[115]⟩] ++ L) W (hTab.on hbT) hv (by simp; omega) (by rw [totT_app]; omega)
  have HB : Hid (∀ W v, Below w.heap.size w W → RowT W v ([⟨#[114, 97, 110, 108, 105, 98]⟩, ⟨#[97]⟩] ++ L) → Calls Tryd.prog 8 #[v] W fun e w' => ∃ u, e = .returned (.tuple #[.agg #[.int .i64 1, .int .u8 115, .bool false, .bool false, .bool false, .bool false, .bool false, .bool false, .bool false, .int .i64 0, .int .i64 0, .string ⟨#[]⟩, .string ⟨#[97]⟩, u], .string ⟨#[]⟩, .int .i64 0]) ∧ OwnT W.heap.size w' u L ∧ Below W.heap.size W w') := fun W v hbT hv =>
    DecodeOkT.yes HD (hTab.on hbT) hv (by simp; omega) (by rw [totT_app]; omega) (prog_ran false L)
  have HS : Hid (∀ W u, RowT W u L → RowT W v0 L → Calls Tryd.prog 10 #[u, v0] W fun e w' => e = .returned (.bool true) ∧ Below W.heap.size W w') := fun W u hu hv => sameW_c u v0 L W hu hv (by omega)
  obtain ⟨c, hc⟩ : ∃ c, c = ansC A1 := ⟨_, rfl⟩
  rw [← hc] at HA
  obtain ⟨xw, hxw⟩ : ∃ x, x = ansW A1 := ⟨_, rfl⟩
  obtain ⟨xe, hxe⟩ : ∃ x, x = ansE A1 := ⟨_, rfl⟩
  rw [← hxw, ← hxe] at HA
  clear hxw hxe
  have HV := hidK h0
  have hB0 : Below w.heap.size w (w.alloc (.cells #[.string ⟨#[97, 114]⟩, .string ⟨#[115]⟩] 9)) := bupK (Below.refl _ _) _
  have o0 : OwnT w.heap.size (w.alloc (.cells #[.string ⟨#[97, 114]⟩, .string ⟨#[115]⟩] 9)) (.slice (some ⟨w.heap.size, 0, none⟩) 2 2) [⟨#[97, 114]⟩, ⟨#[115]⟩] := ownT_new [⟨#[97, 114]⟩, ⟨#[115]⟩] _ _ _ (Nat.le_refl _) (heap_alloc_new w _) (by simp)
  clear HD hA1 hc h0
  go_enter Tryd.func3, Tryd.ntmps3
  go_upto_region 3 with (refine wpT_all rfl (.tmp 17) (.tmp 18) rfl w w.heap.size _ v0 [⟨#[97, 114]⟩, ⟨#[115]⟩] L rfl rfl o0 (HV.out.on hB0) (by simp) (by omega) (Nat.le_refl _) hB0 ?_; intro v2 w2 o2 b2)
  clear o0 hB0
  go_upto_region 4 with (first
    | (go_at_call 8; refine (HA.out _ _ b2 (OwnT.row o2)).mono ?_; rintro e w3 ⟨u3, rfl, o3, b3⟩; obtain ⟨a3, k3, rfl⟩ := OwnT.form o3)
    | (refine wpList_store_kz rfl rfl _ _ _ rfl w3.heap.size 0 (.agg #[.int .i64 c.prog, .int .u8 (c.op.toNat : Int), .bool c.vb, .bool c.up, .bool c.qu, .bool c.det, .bool c.dat, .bool c.bare, .bool c.thin, .int .i64 c.kind, .int .i64 c.wh, .string c.anc, .string c.arc, .slice a3 c.nms.length k3]) rfl rfl _ _ #[.int .i64 c.prog, .int .u8 (c.op.toNat : Int), .bool c.vb, .bool c.up, .bool c.qu, .bool c.det, .bool c.dat, .bool c.bare, .bool c.thin, .int .i64 c.kind, .int .i64 c.wh, .string c.anc, .string c.arc, .slice a3 c.nms.length k3] (heap_alloc_new _ _) (by kernel_rfl) rfl rfl rfl ?_; intro W4 S4 q4; have b4 := q4.belowN (bupK (Below.refl _ w3) _) (Nat.le_refl _) (Nat.le_refl _); clear q4))
  have hB4 := bel3K (bel3K b2 b3) b4
  clear S4 b4 b3 b2 o2 o3 HA
  go_upto_region 6 with (go_at_call 9; refine (num_c _ _).mono ?_; rintro e wn ⟨rfl, hwn⟩; rw [hwn]; clear hwn)
  go_upto_region 7 with fail
  obtain ⟨W6, hW6⟩ : ∃ W6, W4.alloc (.cells #[.string ⟨#[114, 97, 110, 108, 105, 98]⟩] 9) = W6 := ⟨_, rfl⟩
  have hB6 : Below w.heap.size w W6 := by rw [← hW6]; exact bupK hB4 _
  have o6 : OwnT w.heap.size W6 (.slice (some ⟨W4.heap.size, 0, none⟩) 1 1) [⟨#[114, 97, 110, 108, 105, 98]⟩] := by rw [← hW6]; exact ownT_new [⟨#[114, 97, 110, 108, 105, 98]⟩] _ _ _ hB4.size (heap_alloc_new W4 _) (by simp)
  try rw [hW6]
  clear hW6 hB4
  go_upto_region 10 with (refine wpT_one rfl (.tmp 47) (.tmp 48) rfl w w.heap.size _ [⟨#[114, 97, 110, 108, 105, 98]⟩] ⟨#[97]⟩ rfl rfl o6 (by simp) (Nat.le_refl _) hB6 ?_; intro v8 w8 o8 b8)
  clear o6 hB6
  go_upto_region 11 with (refine wpT_all rfl (.tmp 50) (.tmp 51) rfl w w.heap.size _ v0 ([wRan] ++ [(⟨#[97]⟩ : ByteArray)]) L rfl rfl o8 (HV.out.on b8) (by simp) (by omega) (Nat.le_refl _) b8 ?_; intro v9 w9 o9 b9)
  clear o8 b8
  go_upto_region 12 with (first
    | (go_at_call 8; refine (HB.out _ _ b9 (OwnT.row o9)).mono ?_; rintro e w10 ⟨u10, rfl, o10, b10⟩; obtain ⟨a10, k10, rfl⟩ := OwnT.form o10)
    | (refine wpList_store_kz rfl rfl _ _ _ rfl w10.heap.size 0 (.agg #[.int .i64 1, .int .u8 115, .bool false, .bool false, .bool false, .bool false, .bool false, .bool false, .bool false, .int .i64 0, .int .i64 0, .string ⟨#[]⟩, .string ⟨#[97]⟩, .slice a10 L.length k10]) rfl rfl _ _ #[.int .i64 1, .int .u8 115, .bool false, .bool false, .bool false, .bool false, .bool false, .bool false, .bool false, .int .i64 0, .int .i64 0, .string ⟨#[]⟩, .string ⟨#[97]⟩, .slice a10 L.length k10] (heap_alloc_new _ _) (by kernel_rfl) rfl rfl rfl ?_; intro W11 S11 q11; have b11 := q11.belowN (bupK (Below.refl _ w10) _) (Nat.le_refl _) (Nat.le_refl _); clear q11))
  have hB11 := bel3K (bel3K b9 b10) b11
  have r11 := (OwnT.row o10).on b11
  have s11 := HV.out.on hB11
  have x0 := cell_rowK S11 0 _ rfl
  have x1 := cell_rowK S11 1 _ rfl
  have x2 := cell_rowK S11 2 _ rfl
  have x3 := cell_rowK S11 3 _ rfl
  have x4 := cell_rowK S11 4 _ rfl
  have x5 := cell_rowK S11 5 _ rfl
  have x6 := cell_rowK S11 6 _ rfl
  have x7 := cell_rowK S11 7 _ rfl
  have x8 := cell_rowK S11 8 _ rfl
  have x9 := cell_rowK S11 9 _ rfl
  have x10 := cell_rowK S11 10 _ rfl
  have x11 := cell_rowK S11 11 _ rfl
  have x12 := cell_rowK S11 12 _ rfl
  have x13 := cell_rowK S11 13 _ rfl
  clear S11 b11 b10 b9 o9 o10 HB
  go_wp2_with (first
    | (go_at_call 9; refine (num_c _ _).mono ?_; rintro e wn ⟨rfl, hwn⟩; rw [hwn]; clear hwn)
    | (go_at_call 10; refine (HS.out _ _ r11 s11).mono ?_; rintro e w12 ⟨rfl, b12⟩))
  go_ret
  exact ⟨by simp, bel3K hB11 b12⟩
set_option maxHeartbeats 8000000 in
theorem program_rt (HD : DecodeOkT 8) (v0 : Value) (L : List ByteArray) (w : World) (hTab : TabU w) (h0 : RowT w v0 L) (hl : L.length ≤ 1048576) (ht : totT L ≤ 1048576) :
    Calls Tryd.prog 3 #[.string ⟨#[114, 97, 110, 108, 105, 98]⟩, v0, .bool true] w fun e w' => e = .returned (.bool true) ∧ Below w.heap.size w w' := by
  have zt1 : totT [⟨#[114, 97, 110, 108, 105, 98]⟩, ⟨#[115]⟩] ≤ 2097152 := by decide
  have zt2 : totT [⟨#[114, 97, 110, 108, 105, 98]⟩, ⟨#[45, 68]⟩, ⟨#[97]⟩] ≤ 64 := by decide
  obtain ⟨A1, hA1⟩ : ∃ A1, A1 = decC (⟨#[114, 97, 110, 108, 105, 98]⟩ :: ⟨#[115]⟩ :: L) := ⟨_, rfl⟩
  have HA : Hid (∀ W v, Below w.heap.size w W → RowT W v ([⟨#[114, 97, 110, 108, 105, 98]⟩, ⟨#[115]⟩] ++ L) → Calls Tryd.prog 8 #[v] W fun e w' => ∃ u, e = .returned (.tuple #[.agg #[.int .i64 (ansC A1).prog, .int .u8 ((ansC A1).op.toNat : Int), .bool (ansC A1).vb, .bool (ansC A1).up, .bool (ansC A1).qu, .bool (ansC A1).det, .bool (ansC A1).dat, .bool (ansC A1).bare, .bool (ansC A1).thin, .int .i64 (ansC A1).kind, .int .i64 (ansC A1).wh, .string (ansC A1).anc, .string (ansC A1).arc, u], .string (ansW A1), .int .i64 (ansE A1)]) ∧ OwnT W.heap.size w' u (ansC A1).nms ∧ Below W.heap.size W w') := fun W v hbT hv => by
    rw [hA1]
    exact HD v ([⟨#[114, 97, 110, 108, 105, 98]⟩, ⟨#[115]⟩] ++ L) W (hTab.on hbT) hv (by simp; omega) (by rw [totT_app]; omega)
  have HB : Hid (∀ W v, Below w.heap.size w W → RowT W v ([⟨#[114, 97, 110, 108, 105, 98]⟩, ⟨#[45, 68]⟩, ⟨#[97]⟩] ++ L) → Calls Tryd.prog 8 #[v] W fun e w' => ∃ u, e = .returned (.tuple #[.agg #[.int .i64 1, .int .u8 115, .bool false, .bool false, .bool false, .bool true, .bool false, .bool false, .bool false, .int .i64 0, .int .i64 0, .string ⟨#[]⟩, .string ⟨#[97]⟩, u], .string ⟨#[]⟩, .int .i64 0]) ∧ OwnT W.heap.size w' u L ∧ Below W.heap.size W w') := fun W v hbT hv =>
    DecodeOkT.yes HD (hTab.on hbT) hv (by simp; omega) (by rw [totT_app]; omega) (prog_ran true L)
  have HS : Hid (∀ W u, RowT W u L → RowT W v0 L → Calls Tryd.prog 10 #[u, v0] W fun e w' => e = .returned (.bool true) ∧ Below W.heap.size W w') := fun W u hu hv => sameW_c u v0 L W hu hv (by omega)
  obtain ⟨c, hc⟩ : ∃ c, c = ansC A1 := ⟨_, rfl⟩
  rw [← hc] at HA
  obtain ⟨xw, hxw⟩ : ∃ x, x = ansW A1 := ⟨_, rfl⟩
  obtain ⟨xe, hxe⟩ : ∃ x, x = ansE A1 := ⟨_, rfl⟩
  rw [← hxw, ← hxe] at HA
  clear hxw hxe
  have HV := hidK h0
  have hB0 : Below w.heap.size w (w.alloc (.cells #[.string ⟨#[114, 97, 110, 108, 105, 98]⟩, .string ⟨#[115]⟩] 9)) := bupK (Below.refl _ _) _
  have o0 : OwnT w.heap.size (w.alloc (.cells #[.string ⟨#[114, 97, 110, 108, 105, 98]⟩, .string ⟨#[115]⟩] 9)) (.slice (some ⟨w.heap.size, 0, none⟩) 2 2) [⟨#[114, 97, 110, 108, 105, 98]⟩, ⟨#[115]⟩] := ownT_new [⟨#[114, 97, 110, 108, 105, 98]⟩, ⟨#[115]⟩] _ _ _ (Nat.le_refl _) (heap_alloc_new w _) (by simp)
  clear HD hA1 hc h0
  go_enter Tryd.func3, Tryd.ntmps3
  go_upto_region 3 with (refine wpT_all rfl (.tmp 17) (.tmp 18) rfl w w.heap.size _ v0 [⟨#[114, 97, 110, 108, 105, 98]⟩, ⟨#[115]⟩] L rfl rfl o0 (HV.out.on hB0) (by simp) (by omega) (Nat.le_refl _) hB0 ?_; intro v2 w2 o2 b2)
  clear o0 hB0
  go_upto_region 4 with (first
    | (go_at_call 8; refine (HA.out _ _ b2 (OwnT.row o2)).mono ?_; rintro e w3 ⟨u3, rfl, o3, b3⟩; obtain ⟨a3, k3, rfl⟩ := OwnT.form o3)
    | (refine wpList_store_kz rfl rfl _ _ _ rfl w3.heap.size 0 (.agg #[.int .i64 c.prog, .int .u8 (c.op.toNat : Int), .bool c.vb, .bool c.up, .bool c.qu, .bool c.det, .bool c.dat, .bool c.bare, .bool c.thin, .int .i64 c.kind, .int .i64 c.wh, .string c.anc, .string c.arc, .slice a3 c.nms.length k3]) rfl rfl _ _ #[.int .i64 c.prog, .int .u8 (c.op.toNat : Int), .bool c.vb, .bool c.up, .bool c.qu, .bool c.det, .bool c.dat, .bool c.bare, .bool c.thin, .int .i64 c.kind, .int .i64 c.wh, .string c.anc, .string c.arc, .slice a3 c.nms.length k3] (heap_alloc_new _ _) (by kernel_rfl) rfl rfl rfl ?_; intro W4 S4 q4; have b4 := q4.belowN (bupK (Below.refl _ w3) _) (Nat.le_refl _) (Nat.le_refl _); clear q4))
  have hB4 := bel3K (bel3K b2 b3) b4
  clear S4 b4 b3 b2 o2 o3 HA
  go_upto_region 6 with (go_at_call 9; refine (num_c _ _).mono ?_; rintro e wn ⟨rfl, hwn⟩; rw [hwn]; clear hwn)
  go_upto_region 7 with fail
  obtain ⟨W6, hW6⟩ : ∃ W6, W4.alloc (.cells #[.string ⟨#[114, 97, 110, 108, 105, 98]⟩] 9) = W6 := ⟨_, rfl⟩
  have hB6 : Below w.heap.size w W6 := by rw [← hW6]; exact bupK hB4 _
  have o6 : OwnT w.heap.size W6 (.slice (some ⟨W4.heap.size, 0, none⟩) 1 1) [⟨#[114, 97, 110, 108, 105, 98]⟩] := by rw [← hW6]; exact ownT_new [⟨#[114, 97, 110, 108, 105, 98]⟩] _ _ _ hB4.size (heap_alloc_new W4 _) (by simp)
  try rw [hW6]
  clear hW6 hB4
  go_upto_region 9 with (refine wpT_one rfl (.tmp 44) (.tmp 45) rfl w w.heap.size _ [⟨#[114, 97, 110, 108, 105, 98]⟩] ⟨#[45, 68]⟩ rfl rfl o6 (by simp) (Nat.le_refl _) hB6 ?_; intro v7 w7 o7 b7)
  go_upto_region 10 with (refine wpT_one rfl (.tmp 47) (.tmp 48) rfl w w.heap.size _ ([wRan] ++ [wD]) ⟨#[97]⟩ rfl rfl o7 (by simp) (Nat.le_refl _) b7 ?_; intro v8 w8 o8 b8)
  clear o6 hB6 o7 b7
  go_upto_region 11 with (refine wpT_all rfl (.tmp 50) (.tmp 51) rfl w w.heap.size _ v0 ([wRan] ++ [wD] ++ [(⟨#[97]⟩ : ByteArray)]) L rfl rfl o8 (HV.out.on b8) (by simp) (by omega) (Nat.le_refl _) b8 ?_; intro v9 w9 o9 b9)
  clear o8 b8
  go_upto_region 12 with (first
    | (go_at_call 8; refine (HB.out _ _ b9 (OwnT.row o9)).mono ?_; rintro e w10 ⟨u10, rfl, o10, b10⟩; obtain ⟨a10, k10, rfl⟩ := OwnT.form o10)
    | (refine wpList_store_kz rfl rfl _ _ _ rfl w10.heap.size 0 (.agg #[.int .i64 1, .int .u8 115, .bool false, .bool false, .bool false, .bool true, .bool false, .bool false, .bool false, .int .i64 0, .int .i64 0, .string ⟨#[]⟩, .string ⟨#[97]⟩, .slice a10 L.length k10]) rfl rfl _ _ #[.int .i64 1, .int .u8 115, .bool false, .bool false, .bool false, .bool true, .bool false, .bool false, .bool false, .int .i64 0, .int .i64 0, .string ⟨#[]⟩, .string ⟨#[97]⟩, .slice a10 L.length k10] (heap_alloc_new _ _) (by kernel_rfl) rfl rfl rfl ?_; intro W11 S11 q11; have b11 := q11.belowN (bupK (Below.refl _ w10) _) (Nat.le_refl _) (Nat.le_refl _); clear q11))
  have hB11 := bel3K (bel3K b9 b10) b11
  have r11 := (OwnT.row o10).on b11
  have s11 := HV.out.on hB11
  have x0 := cell_rowK S11 0 _ rfl
  have x1 := cell_rowK S11 1 _ rfl
  have x2 := cell_rowK S11 2 _ rfl
  have x3 := cell_rowK S11 3 _ rfl
  have x4 := cell_rowK S11 4 _ rfl
  have x5 := cell_rowK S11 5 _ rfl
  have x6 := cell_rowK S11 6 _ rfl
  have x7 := cell_rowK S11 7 _ rfl
  have x8 := cell_rowK S11 8 _ rfl
  have x9 := cell_rowK S11 9 _ rfl
  have x10 := cell_rowK S11 10 _ rfl
  have x11 := cell_rowK S11 11 _ rfl
  have x12 := cell_rowK S11 12 _ rfl
  have x13 := cell_rowK S11 13 _ rfl
  clear S11 b11 b10 b9 o9 o10 HB
  go_wp2_with (first
    | (go_at_call 9; refine (num_c _ _).mono ?_; rintro e wn ⟨rfl, hwn⟩; rw [hwn]; clear hwn)
    | (go_at_call 10; refine (HS.out _ _ r11 s11).mono ?_; rintro e w12 ⟨rfl, b12⟩))
  go_ret
  exact ⟨by simp, bel3K hB11 b12⟩
set_option maxHeartbeats 8000000 in
theorem program_rf (HD : DecodeOkT 8) (v0 : Value) (L : List ByteArray) (w : World) (hTab : TabU w) (h0 : RowT w v0 L) (hl : L.length ≤ 1048576) (ht : totT L ≤ 1048576) :
    Calls Tryd.prog 3 #[.string ⟨#[114, 97, 110, 108, 105, 98]⟩, v0, .bool false] w fun e w' => e = .returned (.bool true) ∧ Below w.heap.size w w' := by
  have zt1 : totT [⟨#[114, 97, 110, 108, 105, 98]⟩, ⟨#[115]⟩] ≤ 2097152 := by decide
  have zt2 : totT [⟨#[114, 97, 110, 108, 105, 98]⟩, ⟨#[97]⟩] ≤ 64 := by decide
  obtain ⟨A1, hA1⟩ : ∃ A1, A1 = decC (⟨#[114, 97, 110, 108, 105, 98]⟩ :: ⟨#[115]⟩ :: L) := ⟨_, rfl⟩
  have HA : Hid (∀ W v, Below w.heap.size w W → RowT W v ([⟨#[114, 97, 110, 108, 105, 98]⟩, ⟨#[115]⟩] ++ L) → Calls Tryd.prog 8 #[v] W fun e w' => ∃ u, e = .returned (.tuple #[.agg #[.int .i64 (ansC A1).prog, .int .u8 ((ansC A1).op.toNat : Int), .bool (ansC A1).vb, .bool (ansC A1).up, .bool (ansC A1).qu, .bool (ansC A1).det, .bool (ansC A1).dat, .bool (ansC A1).bare, .bool (ansC A1).thin, .int .i64 (ansC A1).kind, .int .i64 (ansC A1).wh, .string (ansC A1).anc, .string (ansC A1).arc, u], .string (ansW A1), .int .i64 (ansE A1)]) ∧ OwnT W.heap.size w' u (ansC A1).nms ∧ Below W.heap.size W w') := fun W v hbT hv => by
    rw [hA1]
    exact HD v ([⟨#[114, 97, 110, 108, 105, 98]⟩, ⟨#[115]⟩] ++ L) W (hTab.on hbT) hv (by simp; omega) (by rw [totT_app]; omega)
  have HB : Hid (∀ W v, Below w.heap.size w W → RowT W v ([⟨#[114, 97, 110, 108, 105, 98]⟩, ⟨#[97]⟩] ++ L) → Calls Tryd.prog 8 #[v] W fun e w' => ∃ u, e = .returned (.tuple #[.agg #[.int .i64 1, .int .u8 115, .bool false, .bool false, .bool false, .bool false, .bool false, .bool false, .bool false, .int .i64 0, .int .i64 0, .string ⟨#[]⟩, .string ⟨#[97]⟩, u], .string ⟨#[]⟩, .int .i64 0]) ∧ OwnT W.heap.size w' u L ∧ Below W.heap.size W w') := fun W v hbT hv =>
    DecodeOkT.yes HD (hTab.on hbT) hv (by simp; omega) (by rw [totT_app]; omega) (prog_ran false L)
  have HS : Hid (∀ W u, RowT W u L → RowT W v0 L → Calls Tryd.prog 10 #[u, v0] W fun e w' => e = .returned (.bool true) ∧ Below W.heap.size W w') := fun W u hu hv => sameW_c u v0 L W hu hv (by omega)
  obtain ⟨c, hc⟩ : ∃ c, c = ansC A1 := ⟨_, rfl⟩
  rw [← hc] at HA
  obtain ⟨xw, hxw⟩ : ∃ x, x = ansW A1 := ⟨_, rfl⟩
  obtain ⟨xe, hxe⟩ : ∃ x, x = ansE A1 := ⟨_, rfl⟩
  rw [← hxw, ← hxe] at HA
  clear hxw hxe
  have HV := hidK h0
  have hB0 : Below w.heap.size w (w.alloc (.cells #[.string ⟨#[114, 97, 110, 108, 105, 98]⟩, .string ⟨#[115]⟩] 9)) := bupK (Below.refl _ _) _
  have o0 : OwnT w.heap.size (w.alloc (.cells #[.string ⟨#[114, 97, 110, 108, 105, 98]⟩, .string ⟨#[115]⟩] 9)) (.slice (some ⟨w.heap.size, 0, none⟩) 2 2) [⟨#[114, 97, 110, 108, 105, 98]⟩, ⟨#[115]⟩] := ownT_new [⟨#[114, 97, 110, 108, 105, 98]⟩, ⟨#[115]⟩] _ _ _ (Nat.le_refl _) (heap_alloc_new w _) (by simp)
  clear HD hA1 hc h0
  go_enter Tryd.func3, Tryd.ntmps3
  go_upto_region 3 with (refine wpT_all rfl (.tmp 17) (.tmp 18) rfl w w.heap.size _ v0 [⟨#[114, 97, 110, 108, 105, 98]⟩, ⟨#[115]⟩] L rfl rfl o0 (HV.out.on hB0) (by simp) (by omega) (Nat.le_refl _) hB0 ?_; intro v2 w2 o2 b2)
  clear o0 hB0
  go_upto_region 4 with (first
    | (go_at_call 8; refine (HA.out _ _ b2 (OwnT.row o2)).mono ?_; rintro e w3 ⟨u3, rfl, o3, b3⟩; obtain ⟨a3, k3, rfl⟩ := OwnT.form o3)
    | (refine wpList_store_kz rfl rfl _ _ _ rfl w3.heap.size 0 (.agg #[.int .i64 c.prog, .int .u8 (c.op.toNat : Int), .bool c.vb, .bool c.up, .bool c.qu, .bool c.det, .bool c.dat, .bool c.bare, .bool c.thin, .int .i64 c.kind, .int .i64 c.wh, .string c.anc, .string c.arc, .slice a3 c.nms.length k3]) rfl rfl _ _ #[.int .i64 c.prog, .int .u8 (c.op.toNat : Int), .bool c.vb, .bool c.up, .bool c.qu, .bool c.det, .bool c.dat, .bool c.bare, .bool c.thin, .int .i64 c.kind, .int .i64 c.wh, .string c.anc, .string c.arc, .slice a3 c.nms.length k3] (heap_alloc_new _ _) (by kernel_rfl) rfl rfl rfl ?_; intro W4 S4 q4; have b4 := q4.belowN (bupK (Below.refl _ w3) _) (Nat.le_refl _) (Nat.le_refl _); clear q4))
  have hB4 := bel3K (bel3K b2 b3) b4
  clear S4 b4 b3 b2 o2 o3 HA
  go_upto_region 6 with (go_at_call 9; refine (num_c _ _).mono ?_; rintro e wn ⟨rfl, hwn⟩; rw [hwn]; clear hwn)
  go_upto_region 7 with fail
  obtain ⟨W6, hW6⟩ : ∃ W6, W4.alloc (.cells #[.string ⟨#[114, 97, 110, 108, 105, 98]⟩] 9) = W6 := ⟨_, rfl⟩
  have hB6 : Below w.heap.size w W6 := by rw [← hW6]; exact bupK hB4 _
  have o6 : OwnT w.heap.size W6 (.slice (some ⟨W4.heap.size, 0, none⟩) 1 1) [⟨#[114, 97, 110, 108, 105, 98]⟩] := by rw [← hW6]; exact ownT_new [⟨#[114, 97, 110, 108, 105, 98]⟩] _ _ _ hB4.size (heap_alloc_new W4 _) (by simp)
  try rw [hW6]
  clear hW6 hB4
  go_upto_region 10 with (refine wpT_one rfl (.tmp 47) (.tmp 48) rfl w w.heap.size _ [⟨#[114, 97, 110, 108, 105, 98]⟩] ⟨#[97]⟩ rfl rfl o6 (by simp) (Nat.le_refl _) hB6 ?_; intro v8 w8 o8 b8)
  clear o6 hB6
  go_upto_region 11 with (refine wpT_all rfl (.tmp 50) (.tmp 51) rfl w w.heap.size _ v0 ([wRan] ++ [(⟨#[97]⟩ : ByteArray)]) L rfl rfl o8 (HV.out.on b8) (by simp) (by omega) (Nat.le_refl _) b8 ?_; intro v9 w9 o9 b9)
  clear o8 b8
  go_upto_region 12 with (first
    | (go_at_call 8; refine (HB.out _ _ b9 (OwnT.row o9)).mono ?_; rintro e w10 ⟨u10, rfl, o10, b10⟩; obtain ⟨a10, k10, rfl⟩ := OwnT.form o10)
    | (refine wpList_store_kz rfl rfl _ _ _ rfl w10.heap.size 0 (.agg #[.int .i64 1, .int .u8 115, .bool false, .bool false, .bool false, .bool false, .bool false, .bool false, .bool false, .int .i64 0, .int .i64 0, .string ⟨#[]⟩, .string ⟨#[97]⟩, .slice a10 L.length k10]) rfl rfl _ _ #[.int .i64 1, .int .u8 115, .bool false, .bool false, .bool false, .bool false, .bool false, .bool false, .bool false, .int .i64 0, .int .i64 0, .string ⟨#[]⟩, .string ⟨#[97]⟩, .slice a10 L.length k10] (heap_alloc_new _ _) (by kernel_rfl) rfl rfl rfl ?_; intro W11 S11 q11; have b11 := q11.belowN (bupK (Below.refl _ w10) _) (Nat.le_refl _) (Nat.le_refl _); clear q11))
  have hB11 := bel3K (bel3K b9 b10) b11
  have r11 := (OwnT.row o10).on b11
  have s11 := HV.out.on hB11
  have x0 := cell_rowK S11 0 _ rfl
  have x1 := cell_rowK S11 1 _ rfl
  have x2 := cell_rowK S11 2 _ rfl
  have x3 := cell_rowK S11 3 _ rfl
  have x4 := cell_rowK S11 4 _ rfl
  have x5 := cell_rowK S11 5 _ rfl
  have x6 := cell_rowK S11 6 _ rfl
  have x7 := cell_rowK S11 7 _ rfl
  have x8 := cell_rowK S11 8 _ rfl
  have x9 := cell_rowK S11 9 _ rfl
  have x10 := cell_rowK S11 10 _ rfl
  have x11 := cell_rowK S11 11 _ rfl
  have x12 := cell_rowK S11 12 _ rfl
  have x13 := cell_rowK S11 13 _ rfl
  clear S11 b11 b10 b9 o9 o10 HB
  go_wp2_with (first
    | (go_at_call 9; refine (num_c _ _).mono ?_; rintro e wn ⟨rfl, hwn⟩; rw [hwn]; clear hwn)
    | (go_at_call 10; refine (HS.out _ _ r11 s11).mono ?_; rintro e w12 ⟨rfl, b12⟩))
  go_ret
  exact ⟨by simp, bel3K hB11 b12⟩
set_option maxHeartbeats 8000000 in
theorem program_ot (HD : DecodeOkT 8) (p : ByteArray) (hp1 : p ≠ wAr) (hp2 : p ≠ wRan) (hps : p.size ≤ 1048576) (v0 : Value) (L : List ByteArray) (w : World) (hTab : TabU w) (h0 : RowT w v0 L) (hl : L.length ≤ 1048576) (ht : totT L ≤ 1048576) :
    Calls Tryd.prog 3 #[.string p, v0, .bool true] w fun e w' => e = .returned (.bool true) ∧ Below w.heap.size w w' := by
  have hdp := prog_no (⟨#[115]⟩ :: L) hp1 hp2
  have zt1 : totT [p, ⟨#[115]⟩] ≤ 2097152 := by rw [totT_cons]; have e1 : totT [(⟨#[115]⟩ : ByteArray)] = 1 := rfl; omega
  have zt2 : totT [⟨#[114, 97, 110, 108, 105, 98]⟩, ⟨#[45, 68]⟩, ⟨#[97]⟩] ≤ 64 := by decide
  obtain ⟨A1, hA1⟩ : ∃ A1, A1 = decC (p :: ⟨#[115]⟩ :: L) := ⟨_, rfl⟩
  have HA : Hid (∀ W v, Below w.heap.size w W → RowT W v ([p, ⟨#[115]⟩] ++ L) → Calls Tryd.prog 8 #[v] W fun e w' => ∃ u, e = .returned (.tuple #[.agg #[.int .i64 (ansC A1).prog, .int .u8 ((ansC A1).op.toNat : Int), .bool (ansC A1).vb, .bool (ansC A1).up, .bool (ansC A1).qu, .bool (ansC A1).det, .bool (ansC A1).dat, .bool (ansC A1).bare, .bool (ansC A1).thin, .int .i64 (ansC A1).kind, .int .i64 (ansC A1).wh, .string (ansC A1).anc, .string (ansC A1).arc, u], .string (ansW A1), .int .i64 (ansE A1)]) ∧ OwnT W.heap.size w' u (ansC A1).nms ∧ Below W.heap.size W w') := fun W v hbT hv => by
    rw [hA1]
    exact HD v ([p, ⟨#[115]⟩] ++ L) W (hTab.on hbT) hv (by simp; omega) (by rw [totT_app]; omega)
  have HB : Hid (∀ W v, Below w.heap.size w W → RowT W v ([⟨#[114, 97, 110, 108, 105, 98]⟩, ⟨#[45, 68]⟩, ⟨#[97]⟩] ++ L) → Calls Tryd.prog 8 #[v] W fun e w' => ∃ u, e = .returned (.tuple #[.agg #[.int .i64 1, .int .u8 115, .bool false, .bool false, .bool false, .bool true, .bool false, .bool false, .bool false, .int .i64 0, .int .i64 0, .string ⟨#[]⟩, .string ⟨#[97]⟩, u], .string ⟨#[]⟩, .int .i64 0]) ∧ OwnT W.heap.size w' u L ∧ Below W.heap.size W w') := fun W v hbT hv =>
    DecodeOkT.yes HD (hTab.on hbT) hv (by simp; omega) (by rw [totT_app]; omega) (prog_ran true L)
  have HS : Hid (∀ W u, RowT W u L → RowT W v0 L → Calls Tryd.prog 10 #[u, v0] W fun e w' => e = .returned (.bool true) ∧ Below W.heap.size W w') := fun W u hu hv => sameW_c u v0 L W hu hv (by omega)
  rw [hdp] at hA1
  have eW : ansW A1 = p := by rw [hA1]; rfl
  have eE : ansE A1 = 150 := by rw [hA1]; rfl
  rw [eW, eE] at HA
  have n1 := beqT hp1
  have n2 := beqT hp2
  have t1 : wAr.toList = [97, 114] := by rw [ByteArray.toList_eq]; rfl
  have t2 : wRan.toList = [114, 97, 110, 108, 105, 98] := by rw [ByteArray.toList_eq]; rfl
  have n3 : (p.toList == [97, 114]) = false := by rw [← t1]; exact n1
  have n4 : (p.toList == [114, 97, 110, 108, 105, 98]) = false := by rw [← t2]; exact n2
  clear t1 t2
  have HN1 := hidK n1
  have HN2 := hidK n2
  clear eW eE hdp n1 n2 hp1 hp2
  obtain ⟨c, hc⟩ : ∃ c, c = ansC A1 := ⟨_, rfl⟩
  rw [← hc] at HA
  have HV := hidK h0
  have hB0 : Below w.heap.size w (w.alloc (.cells #[.string p, .string ⟨#[115]⟩] 9)) := bupK (Below.refl _ _) _
  have o0 : OwnT w.heap.size (w.alloc (.cells #[.string p, .string ⟨#[115]⟩] 9)) (.slice (some ⟨w.heap.size, 0, none⟩) 2 2) [p, ⟨#[115]⟩] := ownT_new [p, ⟨#[115]⟩] _ _ _ (Nat.le_refl _) (heap_alloc_new w _) (by simp)
  clear HD hA1 hc h0
  go_enter Tryd.func3, Tryd.ntmps3
  go_upto_region 3 with (refine wpT_all rfl (.tmp 17) (.tmp 18) rfl w w.heap.size _ v0 [p, ⟨#[115]⟩] L rfl rfl o0 (HV.out.on hB0) (by simp) (by omega) (Nat.le_refl _) hB0 ?_; intro v2 w2 o2 b2)
  clear o0 hB0
  go_upto_region 4 with (first
    | (go_at_call 8; refine (HA.out _ _ b2 (OwnT.row o2)).mono ?_; rintro e w3 ⟨u3, rfl, o3, b3⟩; obtain ⟨a3, k3, rfl⟩ := OwnT.form o3)
    | (refine wpList_store_kz rfl rfl _ _ _ rfl w3.heap.size 0 (.agg #[.int .i64 c.prog, .int .u8 (c.op.toNat : Int), .bool c.vb, .bool c.up, .bool c.qu, .bool c.det, .bool c.dat, .bool c.bare, .bool c.thin, .int .i64 c.kind, .int .i64 c.wh, .string c.anc, .string c.arc, .slice a3 c.nms.length k3]) rfl rfl _ _ #[.int .i64 c.prog, .int .u8 (c.op.toNat : Int), .bool c.vb, .bool c.up, .bool c.qu, .bool c.det, .bool c.dat, .bool c.bare, .bool c.thin, .int .i64 c.kind, .int .i64 c.wh, .string c.anc, .string c.arc, .slice a3 c.nms.length k3] (heap_alloc_new _ _) (by kernel_rfl) rfl rfl rfl ?_; intro W4 S4 q4; have b4 := q4.belowN (bupK (Below.refl _ w3) _) (Nat.le_refl _) (Nat.le_refl _); clear q4))
  have hB4 := bel3K (bel3K b2 b3) b4
  clear S4 b4 b3 b2 o2 o3 HA
  go_upto_region 6 with (go_at_call 9; refine (num_c _ _).mono ?_; rintro e wn ⟨rfl, hwn⟩; rw [hwn]; clear hwn)
  go_upto_region 7 with fail
  obtain ⟨W6, hW6⟩ : ∃ W6, W4.alloc (.cells #[.string ⟨#[114, 97, 110, 108, 105, 98]⟩] 9) = W6 := ⟨_, rfl⟩
  have hB6 : Below w.heap.size w W6 := by rw [← hW6]; exact bupK hB4 _
  have o6 : OwnT w.heap.size W6 (.slice (some ⟨W4.heap.size, 0, none⟩) 1 1) [⟨#[114, 97, 110, 108, 105, 98]⟩] := by rw [← hW6]; exact ownT_new [⟨#[114, 97, 110, 108, 105, 98]⟩] _ _ _ hB4.size (heap_alloc_new W4 _) (by simp)
  try rw [hW6]
  clear hW6 hB4
  go_upto_region 9 with (refine wpT_one rfl (.tmp 44) (.tmp 45) rfl w w.heap.size _ [⟨#[114, 97, 110, 108, 105, 98]⟩] ⟨#[45, 68]⟩ rfl rfl o6 (by simp) (Nat.le_refl _) hB6 ?_; intro v7 w7 o7 b7)
  go_upto_region 10 with (refine wpT_one rfl (.tmp 47) (.tmp 48) rfl w w.heap.size _ ([wRan] ++ [wD]) ⟨#[97]⟩ rfl rfl o7 (by simp) (Nat.le_refl _) b7 ?_; intro v8 w8 o8 b8)
  clear o6 hB6 o7 b7
  go_upto_region 11 with (refine wpT_all rfl (.tmp 50) (.tmp 51) rfl w w.heap.size _ v0 ([wRan] ++ [wD] ++ [(⟨#[97]⟩ : ByteArray)]) L rfl rfl o8 (HV.out.on b8) (by simp) (by omega) (Nat.le_refl _) b8 ?_; intro v9 w9 o9 b9)
  clear o8 b8
  go_upto_region 12 with (first
    | (go_at_call 8; refine (HB.out _ _ b9 (OwnT.row o9)).mono ?_; rintro e w10 ⟨u10, rfl, o10, b10⟩; obtain ⟨a10, k10, rfl⟩ := OwnT.form o10)
    | (refine wpList_store_kz rfl rfl _ _ _ rfl w10.heap.size 0 (.agg #[.int .i64 1, .int .u8 115, .bool false, .bool false, .bool false, .bool true, .bool false, .bool false, .bool false, .int .i64 0, .int .i64 0, .string ⟨#[]⟩, .string ⟨#[97]⟩, .slice a10 L.length k10]) rfl rfl _ _ #[.int .i64 1, .int .u8 115, .bool false, .bool false, .bool false, .bool true, .bool false, .bool false, .bool false, .int .i64 0, .int .i64 0, .string ⟨#[]⟩, .string ⟨#[97]⟩, .slice a10 L.length k10] (heap_alloc_new _ _) (by kernel_rfl) rfl rfl rfl ?_; intro W11 S11 q11; have b11 := q11.belowN (bupK (Below.refl _ w10) _) (Nat.le_refl _) (Nat.le_refl _); clear q11))
  have hB11 := bel3K (bel3K b9 b10) b11
  have r11 := (OwnT.row o10).on b11
  have s11 := HV.out.on hB11
  have x0 := cell_rowK S11 0 _ rfl
  have x1 := cell_rowK S11 1 _ rfl
  have x2 := cell_rowK S11 2 _ rfl
  have x3 := cell_rowK S11 3 _ rfl
  have x4 := cell_rowK S11 4 _ rfl
  have x5 := cell_rowK S11 5 _ rfl
  have x6 := cell_rowK S11 6 _ rfl
  have x7 := cell_rowK S11 7 _ rfl
  have x8 := cell_rowK S11 8 _ rfl
  have x9 := cell_rowK S11 9 _ rfl
  have x10 := cell_rowK S11 10 _ rfl
  have x11 := cell_rowK S11 11 _ rfl
  have x12 := cell_rowK S11 12 _ rfl
  have x13 := cell_rowK S11 13 _ rfl
  clear S11 b11 b10 b9 o9 o10 HB
  go_wp2_with (first
    | (go_at_call 9; refine (num_c _ _).mono ?_; rintro e wn ⟨rfl, hwn⟩; rw [hwn]; clear hwn)
    | (go_at_call 10; refine (HS.out _ _ r11 s11).mono ?_; rintro e w12 ⟨rfl, b12⟩))
  go_ret
  exact ⟨by simp, bel3K hB11 b12⟩
set_option maxHeartbeats 8000000 in
theorem program_of (HD : DecodeOkT 8) (p : ByteArray) (hp1 : p ≠ wAr) (hp2 : p ≠ wRan) (hps : p.size ≤ 1048576) (v0 : Value) (L : List ByteArray) (w : World) (hTab : TabU w) (h0 : RowT w v0 L) (hl : L.length ≤ 1048576) (ht : totT L ≤ 1048576) :
    Calls Tryd.prog 3 #[.string p, v0, .bool false] w fun e w' => e = .returned (.bool true) ∧ Below w.heap.size w w' := by
  have hdp := prog_no (⟨#[115]⟩ :: L) hp1 hp2
  have zt1 : totT [p, ⟨#[115]⟩] ≤ 2097152 := by rw [totT_cons]; have e1 : totT [(⟨#[115]⟩ : ByteArray)] = 1 := rfl; omega
  have zt2 : totT [⟨#[114, 97, 110, 108, 105, 98]⟩, ⟨#[97]⟩] ≤ 64 := by decide
  obtain ⟨A1, hA1⟩ : ∃ A1, A1 = decC (p :: ⟨#[115]⟩ :: L) := ⟨_, rfl⟩
  have HA : Hid (∀ W v, Below w.heap.size w W → RowT W v ([p, ⟨#[115]⟩] ++ L) → Calls Tryd.prog 8 #[v] W fun e w' => ∃ u, e = .returned (.tuple #[.agg #[.int .i64 (ansC A1).prog, .int .u8 ((ansC A1).op.toNat : Int), .bool (ansC A1).vb, .bool (ansC A1).up, .bool (ansC A1).qu, .bool (ansC A1).det, .bool (ansC A1).dat, .bool (ansC A1).bare, .bool (ansC A1).thin, .int .i64 (ansC A1).kind, .int .i64 (ansC A1).wh, .string (ansC A1).anc, .string (ansC A1).arc, u], .string (ansW A1), .int .i64 (ansE A1)]) ∧ OwnT W.heap.size w' u (ansC A1).nms ∧ Below W.heap.size W w') := fun W v hbT hv => by
    rw [hA1]
    exact HD v ([p, ⟨#[115]⟩] ++ L) W (hTab.on hbT) hv (by simp; omega) (by rw [totT_app]; omega)
  have HB : Hid (∀ W v, Below w.heap.size w W → RowT W v ([⟨#[114, 97, 110, 108, 105, 98]⟩, ⟨#[97]⟩] ++ L) → Calls Tryd.prog 8 #[v] W fun e w' => ∃ u, e = .returned (.tuple #[.agg #[.int .i64 1, .int .u8 115, .bool false, .bool false, .bool false, .bool false, .bool false, .bool false, .bool false, .int .i64 0, .int .i64 0, .string ⟨#[]⟩, .string ⟨#[97]⟩, u], .string ⟨#[]⟩, .int .i64 0]) ∧ OwnT W.heap.size w' u L ∧ Below W.heap.size W w') := fun W v hbT hv =>
    DecodeOkT.yes HD (hTab.on hbT) hv (by simp; omega) (by rw [totT_app]; omega) (prog_ran false L)
  have HS : Hid (∀ W u, RowT W u L → RowT W v0 L → Calls Tryd.prog 10 #[u, v0] W fun e w' => e = .returned (.bool true) ∧ Below W.heap.size W w') := fun W u hu hv => sameW_c u v0 L W hu hv (by omega)
  rw [hdp] at hA1
  have eW : ansW A1 = p := by rw [hA1]; rfl
  have eE : ansE A1 = 150 := by rw [hA1]; rfl
  rw [eW, eE] at HA
  have n1 := beqT hp1
  have n2 := beqT hp2
  have t1 : wAr.toList = [97, 114] := by rw [ByteArray.toList_eq]; rfl
  have t2 : wRan.toList = [114, 97, 110, 108, 105, 98] := by rw [ByteArray.toList_eq]; rfl
  have n3 : (p.toList == [97, 114]) = false := by rw [← t1]; exact n1
  have n4 : (p.toList == [114, 97, 110, 108, 105, 98]) = false := by rw [← t2]; exact n2
  clear t1 t2
  have HN1 := hidK n1
  have HN2 := hidK n2
  clear eW eE hdp n1 n2 hp1 hp2
  obtain ⟨c, hc⟩ : ∃ c, c = ansC A1 := ⟨_, rfl⟩
  rw [← hc] at HA
  have HV := hidK h0
  have hB0 : Below w.heap.size w (w.alloc (.cells #[.string p, .string ⟨#[115]⟩] 9)) := bupK (Below.refl _ _) _
  have o0 : OwnT w.heap.size (w.alloc (.cells #[.string p, .string ⟨#[115]⟩] 9)) (.slice (some ⟨w.heap.size, 0, none⟩) 2 2) [p, ⟨#[115]⟩] := ownT_new [p, ⟨#[115]⟩] _ _ _ (Nat.le_refl _) (heap_alloc_new w _) (by simp)
  clear HD hA1 hc h0
  go_enter Tryd.func3, Tryd.ntmps3
  go_upto_region 3 with (refine wpT_all rfl (.tmp 17) (.tmp 18) rfl w w.heap.size _ v0 [p, ⟨#[115]⟩] L rfl rfl o0 (HV.out.on hB0) (by simp) (by omega) (Nat.le_refl _) hB0 ?_; intro v2 w2 o2 b2)
  clear o0 hB0
  go_upto_region 4 with (first
    | (go_at_call 8; refine (HA.out _ _ b2 (OwnT.row o2)).mono ?_; rintro e w3 ⟨u3, rfl, o3, b3⟩; obtain ⟨a3, k3, rfl⟩ := OwnT.form o3)
    | (refine wpList_store_kz rfl rfl _ _ _ rfl w3.heap.size 0 (.agg #[.int .i64 c.prog, .int .u8 (c.op.toNat : Int), .bool c.vb, .bool c.up, .bool c.qu, .bool c.det, .bool c.dat, .bool c.bare, .bool c.thin, .int .i64 c.kind, .int .i64 c.wh, .string c.anc, .string c.arc, .slice a3 c.nms.length k3]) rfl rfl _ _ #[.int .i64 c.prog, .int .u8 (c.op.toNat : Int), .bool c.vb, .bool c.up, .bool c.qu, .bool c.det, .bool c.dat, .bool c.bare, .bool c.thin, .int .i64 c.kind, .int .i64 c.wh, .string c.anc, .string c.arc, .slice a3 c.nms.length k3] (heap_alloc_new _ _) (by kernel_rfl) rfl rfl rfl ?_; intro W4 S4 q4; have b4 := q4.belowN (bupK (Below.refl _ w3) _) (Nat.le_refl _) (Nat.le_refl _); clear q4))
  have hB4 := bel3K (bel3K b2 b3) b4
  clear S4 b4 b3 b2 o2 o3 HA
  go_upto_region 6 with (go_at_call 9; refine (num_c _ _).mono ?_; rintro e wn ⟨rfl, hwn⟩; rw [hwn]; clear hwn)
  go_upto_region 7 with fail
  obtain ⟨W6, hW6⟩ : ∃ W6, W4.alloc (.cells #[.string ⟨#[114, 97, 110, 108, 105, 98]⟩] 9) = W6 := ⟨_, rfl⟩
  have hB6 : Below w.heap.size w W6 := by rw [← hW6]; exact bupK hB4 _
  have o6 : OwnT w.heap.size W6 (.slice (some ⟨W4.heap.size, 0, none⟩) 1 1) [⟨#[114, 97, 110, 108, 105, 98]⟩] := by rw [← hW6]; exact ownT_new [⟨#[114, 97, 110, 108, 105, 98]⟩] _ _ _ hB4.size (heap_alloc_new W4 _) (by simp)
  try rw [hW6]
  clear hW6 hB4
  go_upto_region 10 with (refine wpT_one rfl (.tmp 47) (.tmp 48) rfl w w.heap.size _ [⟨#[114, 97, 110, 108, 105, 98]⟩] ⟨#[97]⟩ rfl rfl o6 (by simp) (Nat.le_refl _) hB6 ?_; intro v8 w8 o8 b8)
  clear o6 hB6
  go_upto_region 11 with (refine wpT_all rfl (.tmp 50) (.tmp 51) rfl w w.heap.size _ v0 ([wRan] ++ [(⟨#[97]⟩ : ByteArray)]) L rfl rfl o8 (HV.out.on b8) (by simp) (by omega) (Nat.le_refl _) b8 ?_; intro v9 w9 o9 b9)
  clear o8 b8
  go_upto_region 12 with (first
    | (go_at_call 8; refine (HB.out _ _ b9 (OwnT.row o9)).mono ?_; rintro e w10 ⟨u10, rfl, o10, b10⟩; obtain ⟨a10, k10, rfl⟩ := OwnT.form o10)
    | (refine wpList_store_kz rfl rfl _ _ _ rfl w10.heap.size 0 (.agg #[.int .i64 1, .int .u8 115, .bool false, .bool false, .bool false, .bool false, .bool false, .bool false, .bool false, .int .i64 0, .int .i64 0, .string ⟨#[]⟩, .string ⟨#[97]⟩, .slice a10 L.length k10]) rfl rfl _ _ #[.int .i64 1, .int .u8 115, .bool false, .bool false, .bool false, .bool false, .bool false, .bool false, .bool false, .int .i64 0, .int .i64 0, .string ⟨#[]⟩, .string ⟨#[97]⟩, .slice a10 L.length k10] (heap_alloc_new _ _) (by kernel_rfl) rfl rfl rfl ?_; intro W11 S11 q11; have b11 := q11.belowN (bupK (Below.refl _ w10) _) (Nat.le_refl _) (Nat.le_refl _); clear q11))
  have hB11 := bel3K (bel3K b9 b10) b11
  have r11 := (OwnT.row o10).on b11
  have s11 := HV.out.on hB11
  have x0 := cell_rowK S11 0 _ rfl
  have x1 := cell_rowK S11 1 _ rfl
  have x2 := cell_rowK S11 2 _ rfl
  have x3 := cell_rowK S11 3 _ rfl
  have x4 := cell_rowK S11 4 _ rfl
  have x5 := cell_rowK S11 5 _ rfl
  have x6 := cell_rowK S11 6 _ rfl
  have x7 := cell_rowK S11 7 _ rfl
  have x8 := cell_rowK S11 8 _ rfl
  have x9 := cell_rowK S11 9 _ rfl
  have x10 := cell_rowK S11 10 _ rfl
  have x11 := cell_rowK S11 11 _ rfl
  have x12 := cell_rowK S11 12 _ rfl
  have x13 := cell_rowK S11 13 _ rfl
  clear S11 b11 b10 b9 o9 o10 HB
  go_wp2_with (first
    | (go_at_call 9; refine (num_c _ _).mono ?_; rintro e wn ⟨rfl, hwn⟩; rw [hwn]; clear hwn)
    | (go_at_call 10; refine (HS.out _ _ r11 s11).mono ?_; rintro e w12 ⟨rfl, b12⟩))
  go_ret
  exact ⟨by simp, bel3K hB11 b12⟩
theorem cmdProgram_w (HD : DecodeOkT 8) (p : ByteArray) (v0 : Value) (L : List ByteArray) (d : Bool) (w : World) (hTab : TabU w) (hps : p.size ≤ 1048576) (h0 : RowT w v0 L) (hl : L.length ≤ 1048576) (ht : totT L ≤ 1048576) :
    Calls Tryd.prog 3 #[.string p, v0, .bool d] w fun e w' => e = .returned (.bool true) ∧ Below w.heap.size w w' := by
  by_cases h1 : p = wAr
  · subst h1
    cases d with
    | true => exact program_at HD v0 L w hTab h0 hl ht
    | false => exact program_af HD v0 L w hTab h0 hl ht
  · by_cases h2 : p = wRan
    · subst h2
      cases d with
      | true => exact program_rt HD v0 L w hTab h0 hl ht
      | false => exact program_rf HD v0 L w hTab h0 hl ht
    · cases d with
      | true => exact program_ot HD p h1 h2 hps v0 L w hTab h0 hl ht
      | false => exact program_of HD p h1 h2 hps v0 L w hTab h0 hl ht
end Go.Proofs.YtmhamlhmmkbkaaaDoor
