
-- meant: the command that a line can mean.
import Derived.Test.YtmhamlhmmkbkaaaDoorLM
import Derived.Deep.RegionHeld3
import Derived.Deep.CutRange
import Derived.Laws.Rows
import Derived.Shelf.Abstract
namespace Go.Proofs.YtmhamlhmmkbkaaaDoor
open Go.ChangeShapes Go.WideShapes Go.ChangeAt Go.RowKit
set_option linter.unusedVariables false
set_option maxRecDepth 100000
set_option linter.unusedSimpArgs false
set_option maxHeartbeats 32000000 in
theorem meant_art2 (prog on wh : Int) (vb up qu det dat bare thin : Bool) (anc arc : ByteArray) (an : Option Addr) (nl nc : Nat) (nms : List ByteArray) (w : World) (hR : RowT w (.slice an nl nc) nms) (hl : nms.length ≤ 16777216) (hp : (prog == 1) = false) (H1 : Hid (∀ W, Calls Tryd.prog 19 #[.int .u8 on, .string ⟨#[100, 109, 112, 113, 114, 115, 116, 120]⟩] W fun e w' => e = .returned (.bool true) ∧ w' = W)) (putB e114 e120 chB mrB upB thB quB daB baB : Bool) (h114 : (on == 114) = e114) (h120 : (on == 120) = e120) (H2 : Hid (∀ W, Calls Tryd.prog 19 #[.int .u8 on, .string ⟨#[114, 113]⟩] W fun e w' => e = .returned (.bool putB) ∧ w' = W)) (H3 : Hid (∀ W, Calls Tryd.prog 19 #[.int .u8 on, .string ⟨#[100, 109, 113, 114]⟩] W fun e w' => e = .returned (.bool chB) ∧ w' = W)) (H4 : Hid (∀ W, Calls Tryd.prog 19 #[.int .u8 on, .string ⟨#[109, 114]⟩] W fun e w' => e = .returned (.bool mrB) ∧ w' = W)) (HUPB : Hid (upB = (up && e114 && !det))) (HTHB : Hid (thB = (thin && putB && false))) (HQUB : Hid (quB = (qu && putB))) (HDAB : Hid (daB = (dat && e120))) (HBAB : Hid (baB = (bare && chB))) (ua ub ancF arcF : ByteArray) (whF : Int) (HUA : Hid (∀ W, Calls Tryd.prog 20 #[.string anc] W fun e w' => e = .returned (.string ua) ∧ w' = W)) (HUB : Hid (∀ W, Calls Tryd.prog 20 #[.string arc] W fun e w' => e = .returned (.string ub) ∧ w' = W)) (HPO : Hid ((mrB = true ∧ (wh = 1 ∨ wh = 2)) → whF = wh ∧ ancF = ua ∧ arcF = arc)) (HNO : Hid (¬ (mrB = true ∧ (wh = 1 ∨ wh = 2)) → whF = 0 ∧ ancF = ⟨#[]⟩ ∧ arcF = ub)) :
    Calls Tryd.prog 13 #[.agg #[.int .i64 prog, .int .u8 on, .bool vb, .bool up, .bool qu, .bool det, .bool dat, .bool bare, .bool thin, .int .i64 2, .int .i64 wh, .string anc, .string arc, .slice an nl nc]] w fun e w' => ∃ u, e = .returned (.agg #[.int .i64 0, .int .u8 on, .bool vb, .bool upB, .bool quB, .bool det, .bool daB, .bool baB, .bool thB, .int .i64 2, .int .i64 whF, .string ancF, .string arcF, u]) ∧ OwnT w.heap.size w' u nms ∧ Below w.heap.size w w' := by
  obtain ⟨w1, hw1⟩ : ∃ w1, (w.alloc (.cells #[.int .i64 prog, .int .u8 on, .bool vb, .bool up, .bool qu, .bool det, .bool dat, .bool bare, .bool thin, .int .i64 2, .int .i64 wh, .string anc, .string arc, .slice an nl nc] 27)).alloc (.cells #[.int .i64 0, .int .u8 0, .bool false, .bool false, .bool false, .bool false, .bool false, .bool false, .bool false, .int .i64 0, .int .i64 0, .string ⟨#[]⟩, .string ⟨#[]⟩, .slice none 0 0] 27) = w1 := ⟨_, rfl⟩
  have hPc : w1.heap[w.heap.size]? = some (.cells #[.int .i64 prog, .int .u8 on, .bool vb, .bool up, .bool qu, .bool det, .bool dat, .bool bare, .bool thin, .int .i64 2, .int .i64 wh, .string anc, .string arc, .slice an nl nc] 27 (0, 0)) := by rw [← hw1]; exact hupK (heap_alloc_new w _) _
  have hPr : w1.heap[w.heap.size + 1]? = some (.cells #[.int .i64 0, .int .u8 0, .bool false, .bool false, .bool false, .bool false, .bool false, .bool false, .bool false, .int .i64 0, .int .i64 0, .string ⟨#[]⟩, .string ⟨#[]⟩, .slice none 0 0] 27 (0, 0)) := by rw [← hw1]; exact heap_new2K w _ _
  have hB1 : Below w.heap.size w w1 := by rw [← hw1]; exact (bupK (Below.refl _ _) _).alloc (by rw [World.size_alloc]; omega) _
  have hsz : w1.heap.size = w.heap.size + 2 := by rw [← hw1, World.size_alloc, World.size_alloc]
  have HPC := hidK hPc
  have HPR := hidK hPr
  have HSZ := hidK hsz
  have HV := hidK hR
  have x1 := cell_rowK hPc 1 _ rfl
  have x2 := cell_rowK hPc 2 _ rfl
  have x5 := cell_rowK hPc 5 _ rfl
  have x12 := cell_rowK hPc 12 _ rfl
  have hPd := heap_alloc_new w1 (.cells #[.int .i64 0, .int .u8 0, .bool false, .bool false, .bool false, .bool false, .bool false, .bool false, .bool false, .int .i64 0, .int .i64 0, .string ⟨#[]⟩, .string ⟨#[]⟩, .slice none 0 0] 27)
  have HB2 : Hid (∀ W, Kq w1.heap.size (w1.alloc (.cells #[.int .i64 0, .int .u8 0, .bool false, .bool false, .bool false, .bool false, .bool false, .bool false, .bool false, .int .i64 0, .int .i64 0, .string ⟨#[]⟩, .string ⟨#[]⟩, .slice none 0 0] 27)) W → Below w1.heap.size w1 W) := fun W q => q.belowN (bupK (Below.refl _ _) _) (Nat.le_refl _) (Nat.le_refl _)
  clear hPc hPr hsz hR
  go_enter Tryd.func13, Tryd.ntmps13
  go_upto_region 1 with fail
  try rw [hw1]
  clear hw1
  go_upto_region 2 with (refine wpList_store_kz rfl rfl _ _ _ rfl w1.heap.size 0 (.agg #[.int .i64 0, .int .u8 on, .bool vb, .bool false, .bool false, .bool det, .bool false, .bool false, .bool false, .int .i64 0, .int .i64 0, .string ⟨#[]⟩, .string arc, .slice none 0 0]) rfl rfl _ _ #[.int .i64 0, .int .u8 on, .bool vb, .bool false, .bool false, .bool det, .bool false, .bool false, .bool false, .int .i64 0, .int .i64 0, .string ⟨#[]⟩, .string arc, .slice none 0 0] hPd (by kernel_rfl) rfl rfl rfl ?_; intro W2 S2 q2)
  have b2 := HB2.out W2 q2
  clear hPd HB2 q2 x1 x2 x5 x12
  have y13 := cell_rowK S2 13 _ rfl
  have x13 := cell_rowK (hkeepK b2 HPC.out) 13 _ rfl
  have hg2 : w1.heap.size < W2.heap.size := (Array.getElem?_eq_some_iff.1 S2).1
  have r2 := (HV.out.on hB1).on b2
  have HS2 := hidK S2
  go_upto_region 3 with (first
    | (refine wpT_all rfl (.tmp 16) (.tmp 18) rfl W2 W2.heap.size (.slice none 0 0) (.slice an nl nc) [] nms rfl rfl (ownT_nil _ _) r2 (by simp) (by omega) (Nat.le_refl _) (Below.refl _ _) ?_; intro v3 w3 o3 b3; obtain ⟨a3, k3, hv3⟩ := OwnT.form o3; rw [hv3] at o3 ⊢; have S3 := hkeepK b3 HS2.out; clear hv3)
    | (refine wpList_store_kz rfl rfl _ _ _ rfl w1.heap.size 13 (.slice a3 ([] ++ nms).length k3) rfl rfl _ _ #[.int .i64 0, .int .u8 on, .bool vb, .bool false, .bool false, .bool det, .bool false, .bool false, .bool false, .int .i64 0, .int .i64 0, .string ⟨#[]⟩, .string arc, .slice a3 ([] ++ nms).length k3] S3 (by kernel_rfl) rfl rfl rfl ?_; intro W4 S4 q4))
  obtain ⟨n3, hn3⟩ : ∃ n3, n3 = nms.length := ⟨_, rfl⟩
  have o4 : OwnT W2.heap.size W4 (.slice a3 n3 k3) nms := by
    rw [hn3]
    exact own_kqK (t := 27) o3 q4 (hkeepK b3 HS2.out) (by decide)
  have S4 : W4.heap[w1.heap.size]? = some (.cells #[.int .i64 0, .int .u8 on, .bool vb, .bool false, .bool false, .bool det, .bool false, .bool false, .bool false, .int .i64 0, .int .i64 0, .string ⟨#[]⟩, .string arc, .slice a3 n3 k3] 27 (0, 0)) := by rw [hn3]; exact S4
  have b4 : Below w1.heap.size w1 W4 := q4.belowN (bel3K b2 b3) (Nat.le_refl _) (Nat.le_refl _)
  have HO4 := hidK o4
  have HS40 := hidK S4
  have HB4 := hidK b4
  have HPC4 := hidK (hkeepK b4 HPC.out)
  have HPR4 := hidK (hkeepK b4 HPR.out)
  have hg4 : W2.heap.size ≤ W4.heap.size := Nat.le_trans b3.size q4.size
  have z1 := cell_rowK HPC4.out 1 _ rfl
  clear o3 b3 S3 q4 r2 x13 y13 b2 HS2 o4 b4 hn3
  go_upto_region 4 with (go_at_call 19; refine (H1.out _).mono ?_; rintro e w9 ⟨rfl, hw9⟩; rw [hw9]; clear hw9)
  go_upto_region 6 with fail
  have HS5 := hidK S4
  have HQ5 := hidK (Kq.id w1.heap.size W4)
  have hWc : W4 = W4 := rfl
  clear z1 S4 H1
  have c0 := cell_rowK (HQ5.out.keeps (by have := HSZ.out; omega) HPC4.out) 0 _ rfl
  have c9 := cell_rowK (HQ5.out.keeps (by have := HSZ.out; omega) HPC4.out) 9 _ rfl
  have S5 := HS5.out
  go_upto_region 10 with (refine wpList_store_kz rfl rfl _ _ _ rfl w1.heap.size 9 (.int .i64 2) rfl rfl _ _ #[.int .i64 0, .int .u8 on, .bool vb, .bool false, .bool false, .bool det, .bool false, .bool false, .bool false, .int .i64 2, .int .i64 0, .string ⟨#[]⟩, .string arc, .slice a3 n3 k3] S5 (by kernel_rfl) rfl rfl rfl ?_; intro W7 S7 q7)
  have HSa := hidK S7
  have HQa : Hid (Kq w1.heap.size W4 W7) := HQ5.out.two q7
  clear S5 S7 q7 c0 c9
  have d1 := cell_rowK HSa.out 1 _ rfl
  go_upto_region 11 with (go_at_call 19; refine (H2.out _).mono ?_; rintro e w9 ⟨rfl, hw9⟩; rw [hw9]; clear hw9)
  clear d1 HS5 HQ5 H2
  go_cut [] from 45 to 57 (fun wx => Hid (wx.heap[w1.heap.size]? = some (.cells #[.int .i64 0, .int .u8 on, .bool vb, .bool upB, .bool false, .bool det, .bool false, .bool false, .bool false, .int .i64 2, .int .i64 0, .string ⟨#[]⟩, .string arc, .slice a3 n3 k3] 27 (0, 0))) ∧ Hid (Kq w1.heap.size W4 wx))
  case first =>
    have c3 := cell_rowK (HQa.out.keeps (by have := HSZ.out; omega) HPC4.out) 3 _ rfl
    have d1 := cell_rowK HSa.out 1 _ rfl
    have d5 := cell_rowK HSa.out 5 _ rfl
    cases up with
    | false =>
      have eB : upB = false := by rw [HUPB.out]; rfl
      go_wp2_with (refine wpList_store_kz rfl rfl _ _ _ rfl w1.heap.size 3 (.bool false) rfl rfl _ _ #[.int .i64 0, .int .u8 on, .bool vb, .bool false, .bool false, .bool det, .bool false, .bool false, .bool false, .int .i64 2, .int .i64 0, .string ⟨#[]⟩, .string arc, .slice a3 n3 k3] HSa.out (by kernel_rfl) rfl rfl rfl ?_; intro W9 S9 q9)
      go_meet
      case rel => exact ⟨by rw [eB]; exact S9, HQa.out.two q9⟩
    | true =>
      cases e114 with
      | false =>
        have eB : upB = false := by rw [HUPB.out]; rfl
        go_wp2_with (refine wpList_store_kz rfl rfl _ _ _ rfl w1.heap.size 3 (.bool false) rfl rfl _ _ #[.int .i64 0, .int .u8 on, .bool vb, .bool false, .bool false, .bool det, .bool false, .bool false, .bool false, .int .i64 2, .int .i64 0, .string ⟨#[]⟩, .string arc, .slice a3 n3 k3] HSa.out (by kernel_rfl) rfl rfl rfl ?_; intro W9 S9 q9)
        go_meet
        case rel => exact ⟨by rw [eB]; exact S9, HQa.out.two q9⟩
      | true =>
        have eB : upB = (!det) := by rw [HUPB.out]; rfl
        go_wp2_with (refine wpList_store_kz rfl rfl _ _ _ rfl w1.heap.size 3 (.bool (!det)) rfl rfl _ _ #[.int .i64 0, .int .u8 on, .bool vb, .bool (!det), .bool false, .bool det, .bool false, .bool false, .bool false, .int .i64 2, .int .i64 0, .string ⟨#[]⟩, .string arc, .slice a3 n3 k3] HSa.out (by kernel_rfl) rfl rfl rfl ?_; intro W9 S9 q9)
        go_meet
        case rel => exact ⟨by rw [eB]; exact S9, HQa.out.two q9⟩
  case rest =>
  obtain ⟨HS11, HQ11⟩ := hcut
  clear HSa HQa
  go_upto_region 12 with fail
  go_cut [] from 58 to 68 (fun wx => Hid (wx.heap[w1.heap.size]? = some (.cells #[.int .i64 0, .int .u8 on, .bool vb, .bool upB, .bool false, .bool det, .bool false, .bool false, .bool thB, .int .i64 2, .int .i64 0, .string ⟨#[]⟩, .string arc, .slice a3 n3 k3] 27 (0, 0))) ∧ Hid (Kq w1.heap.size W4 wx))
  case first =>
    have c8 := cell_rowK (HQ11.out.keeps (by have := HSZ.out; omega) HPC4.out) 8 _ rfl
    have d9 := cell_rowK HS11.out 9 _ rfl
    cases thin with
    | false =>
      have eB : thB = false := by rw [HTHB.out]; rfl
      go_wp2_with (refine wpList_store_kz rfl rfl _ _ _ rfl w1.heap.size 8 (.bool false) rfl rfl _ _ #[.int .i64 0, .int .u8 on, .bool vb, .bool upB, .bool false, .bool det, .bool false, .bool false, .bool false, .int .i64 2, .int .i64 0, .string ⟨#[]⟩, .string arc, .slice a3 n3 k3] HS11.out (by kernel_rfl) rfl rfl rfl ?_; intro W9 S9 q9)
      go_meet
      case rel => exact ⟨by rw [eB]; exact S9, HQ11.out.two q9⟩
    | true =>
      cases putB with
      | false =>
        have eB : thB = false := by rw [HTHB.out]; rfl
        go_wp2_with (refine wpList_store_kz rfl rfl _ _ _ rfl w1.heap.size 8 (.bool false) rfl rfl _ _ #[.int .i64 0, .int .u8 on, .bool vb, .bool upB, .bool false, .bool det, .bool false, .bool false, .bool false, .int .i64 2, .int .i64 0, .string ⟨#[]⟩, .string arc, .slice a3 n3 k3] HS11.out (by kernel_rfl) rfl rfl rfl ?_; intro W9 S9 q9)
        go_meet
        case rel => exact ⟨by rw [eB]; exact S9, HQ11.out.two q9⟩
      | true =>
        have eB : thB = false := by rw [HTHB.out]; rfl
        go_wp2_with (refine wpList_store_kz rfl rfl _ _ _ rfl w1.heap.size 8 (.bool false) rfl rfl _ _ #[.int .i64 0, .int .u8 on, .bool vb, .bool upB, .bool false, .bool det, .bool false, .bool false, .bool false, .int .i64 2, .int .i64 0, .string ⟨#[]⟩, .string arc, .slice a3 n3 k3] HS11.out (by kernel_rfl) rfl rfl rfl ?_; intro W9 S9 q9)
        go_meet
        case rel => exact ⟨by rw [eB]; exact S9, HQ11.out.two q9⟩
  case rest =>
  obtain ⟨HS12, HQ12⟩ := hcut
  clear HS11 HQ11
  go_upto_region 13 with fail
  go_cut [] from 69 to 74 (fun wx => Hid (wx.heap[w1.heap.size]? = some (.cells #[.int .i64 0, .int .u8 on, .bool vb, .bool upB, .bool quB, .bool det, .bool false, .bool false, .bool thB, .int .i64 2, .int .i64 0, .string ⟨#[]⟩, .string arc, .slice a3 n3 k3] 27 (0, 0))) ∧ Hid (Kq w1.heap.size W4 wx))
  case first =>
    have c4 := cell_rowK (HQ12.out.keeps (by have := HSZ.out; omega) HPC4.out) 4 _ rfl
    cases qu with
    | false =>
      have eB : quB = false := by rw [HQUB.out]; rfl
      go_wp2_with (refine wpList_store_kz rfl rfl _ _ _ rfl w1.heap.size 4 (.bool false) rfl rfl _ _ #[.int .i64 0, .int .u8 on, .bool vb, .bool upB, .bool false, .bool det, .bool false, .bool false, .bool thB, .int .i64 2, .int .i64 0, .string ⟨#[]⟩, .string arc, .slice a3 n3 k3] HS12.out (by kernel_rfl) rfl rfl rfl ?_; intro W9 S9 q9)
      go_meet
      case rel => exact ⟨by rw [eB]; exact S9, HQ12.out.two q9⟩
    | true =>
      have eB : quB = putB := by rw [HQUB.out]; rfl
      go_wp2_with (refine wpList_store_kz rfl rfl _ _ _ rfl w1.heap.size 4 (.bool putB) rfl rfl _ _ #[.int .i64 0, .int .u8 on, .bool vb, .bool upB, .bool putB, .bool det, .bool false, .bool false, .bool thB, .int .i64 2, .int .i64 0, .string ⟨#[]⟩, .string arc, .slice a3 n3 k3] HS12.out (by kernel_rfl) rfl rfl rfl ?_; intro W9 S9 q9)
      go_meet
      case rel => exact ⟨by rw [eB]; exact S9, HQ12.out.two q9⟩
  case rest =>
  obtain ⟨HS13, HQ13⟩ := hcut
  clear HS12 HQ12
  go_upto_region 14 with fail
  go_cut [] from 75 to 82 (fun wx => Hid (wx.heap[w1.heap.size]? = some (.cells #[.int .i64 0, .int .u8 on, .bool vb, .bool upB, .bool quB, .bool det, .bool daB, .bool false, .bool thB, .int .i64 2, .int .i64 0, .string ⟨#[]⟩, .string arc, .slice a3 n3 k3] 27 (0, 0))) ∧ Hid (Kq w1.heap.size W4 wx))
  case first =>
    have c6 := cell_rowK (HQ13.out.keeps (by have := HSZ.out; omega) HPC4.out) 6 _ rfl
    have d1 := cell_rowK HS13.out 1 _ rfl
    cases dat with
    | false =>
      have eB : daB = false := by rw [HDAB.out]; rfl
      go_wp2_with (refine wpList_store_kz rfl rfl _ _ _ rfl w1.heap.size 6 (.bool false) rfl rfl _ _ #[.int .i64 0, .int .u8 on, .bool vb, .bool upB, .bool quB, .bool det, .bool false, .bool false, .bool thB, .int .i64 2, .int .i64 0, .string ⟨#[]⟩, .string arc, .slice a3 n3 k3] HS13.out (by kernel_rfl) rfl rfl rfl ?_; intro W9 S9 q9)
      go_meet
      case rel => exact ⟨by rw [eB]; exact S9, HQ13.out.two q9⟩
    | true =>
      have eB : daB = e120 := by rw [HDAB.out]; rfl
      go_wp2_with (refine wpList_store_kz rfl rfl _ _ _ rfl w1.heap.size 6 (.bool e120) rfl rfl _ _ #[.int .i64 0, .int .u8 on, .bool vb, .bool upB, .bool quB, .bool det, .bool e120, .bool false, .bool thB, .int .i64 2, .int .i64 0, .string ⟨#[]⟩, .string arc, .slice a3 n3 k3] HS13.out (by kernel_rfl) rfl rfl rfl ?_; intro W9 S9 q9)
      go_meet
      case rel => exact ⟨by rw [eB]; exact S9, HQ13.out.two q9⟩
  case rest =>
  obtain ⟨HS14, HQ14⟩ := hcut
  clear HS13 HQ13
  go_upto_region 15 with fail
  go_cut [] from 83 to 90 (fun wx => Hid (wx.heap[w1.heap.size]? = some (.cells #[.int .i64 0, .int .u8 on, .bool vb, .bool upB, .bool quB, .bool det, .bool daB, .bool baB, .bool thB, .int .i64 2, .int .i64 0, .string ⟨#[]⟩, .string arc, .slice a3 n3 k3] 27 (0, 0))) ∧ Hid (Kq w1.heap.size W4 wx))
  case first =>
    have c7 := cell_rowK (HQ14.out.keeps (by have := HSZ.out; omega) HPC4.out) 7 _ rfl
    have d1 := cell_rowK HS14.out 1 _ rfl
    cases bare with
    | false =>
      have eB : baB = false := by rw [HBAB.out]; rfl
      go_wp2_with (refine wpList_store_kz rfl rfl _ _ _ rfl w1.heap.size 7 (.bool false) rfl rfl _ _ #[.int .i64 0, .int .u8 on, .bool vb, .bool upB, .bool quB, .bool det, .bool daB, .bool false, .bool thB, .int .i64 2, .int .i64 0, .string ⟨#[]⟩, .string arc, .slice a3 n3 k3] HS14.out (by kernel_rfl) rfl rfl rfl ?_; intro W9 S9 q9)
      go_meet
      case rel => exact ⟨by rw [eB]; exact S9, HQ14.out.two q9⟩
    | true =>
      have eB : baB = chB := by rw [HBAB.out]; rfl
      go_wp2_with (first | (go_at_call 19; refine (H3.out _).mono ?_; rintro e w9 ⟨rfl, hw9⟩; rw [hw9]; clear hw9) | (refine wpList_store_kz rfl rfl _ _ _ rfl w1.heap.size 7 (.bool chB) rfl rfl _ _ #[.int .i64 0, .int .u8 on, .bool vb, .bool upB, .bool quB, .bool det, .bool daB, .bool chB, .bool thB, .int .i64 2, .int .i64 0, .string ⟨#[]⟩, .string arc, .slice a3 n3 k3] HS14.out (by kernel_rfl) rfl rfl rfl ?_; intro W9 S9 q9))
      go_meet
      case rel => exact ⟨by rw [eB]; exact S9, HQ14.out.two q9⟩
  case rest =>
  obtain ⟨HS15, HQ15⟩ := hcut
  clear HS14 HQ14
  have d1 := cell_rowK HS15.out 1 _ rfl
  have c10 := cell_rowK (HQ15.out.keeps (by have := HSZ.out; omega) HPC4.out) 10 _ rfl
  have c12 := cell_rowK (HQ15.out.keeps (by have := HSZ.out; omega) HPC4.out) 12 _ rfl
  have HR9 := hidK (HQ15.out.keeps (by have := HSZ.out; omega) HPR4.out)
  cases mrB with
  | false =>
    obtain ⟨e1, e2, e3⟩ := HNO.out (fun q => by cases q.1)
    have E1 := hidK e1
    have E2 := hidK e2
    have E3 := hidK e3
    clear HPO HNO e1 e2 e3
    go_upto_region 18 with (go_at_call 19; refine (H4.out _).mono ?_; rintro e w9 ⟨rfl, hw9⟩; rw [hw9]; clear hw9)
    go_upto_region 19 with (first
      | (go_at_call 20; refine (HUB.out _).mono ?_; rintro e w9 ⟨rfl, hw9⟩; rw [hw9]; clear hw9)
      | (refine wpList_store_kz rfl rfl _ _ _ rfl w1.heap.size 12 (.string ub) rfl rfl _ _ #[.int .i64 0, .int .u8 on, .bool vb, .bool upB, .bool quB, .bool det, .bool daB, .bool baB, .bool thB, .int .i64 2, .int .i64 0, .string ⟨#[]⟩, .string ub, .slice a3 n3 k3] HS15.out (by kernel_rfl) rfl rfl rfl ?_; intro W11 S11 q11))
    have HR11 := q11.keeps (by have := HSZ.out; omega) HR9.out
    clear c10 c12 d1
    go_wp2_with (first
      | (refine wpList_load_row rfl _ _ rfl w1.heap.size rfl _ #[.int .i64 0, .int .u8 on, .bool vb, .bool upB, .bool quB, .bool det, .bool daB, .bool baB, .bool thB, .int .i64 2, .int .i64 0, .string ⟨#[]⟩, .string ub, .slice a3 n3 k3] (0, 0) _ S11 Tryd.underlying27 rfl (by kernel_rfl) ?_)
      | (refine wpList_store_kz rfl rfl _ _ _ rfl (w.heap.size + 1) 0 (.agg #[.int .i64 0, .int .u8 on, .bool vb, .bool upB, .bool quB, .bool det, .bool daB, .bool baB, .bool thB, .int .i64 2, .int .i64 0, .string ⟨#[]⟩, .string ub, .slice a3 n3 k3]) rfl rfl _ _ #[.int .i64 0, .int .u8 on, .bool vb, .bool upB, .bool quB, .bool det, .bool daB, .bool baB, .bool thB, .int .i64 2, .int .i64 0, .string ⟨#[]⟩, .string ub, .slice a3 n3 k3] HR11 (by kernel_rfl) rfl rfl rfl ?_; intro W12 S12 q12))
    refine bodyPost_ret (results_cell15 rfl _ _ (w.heap.size + 1) _ _ _ _ rfl S12 Tryd.underlying27 rfl sizeCm) rfl ?_
    refine ⟨.slice a3 n3 k3, ?_, ?_, ?_⟩
    · rw [E1.out, E2.out, E3.out]
    · exact OwnT.le (own_kqK (t := 27) (own_kqK (t := 27) (own_kqK (t := 27) HO4.out HQ15.out HS40.out (by decide)) q11 HS15.out (by decide)) q12 (q11.keeps (by have := HSZ.out; omega) HR9.out) (by decide)) (Nat.le_trans hB1.size (Nat.le_of_lt hg2))
    · exact q12.belowN (q11.belowN (HQ15.out.belowN (hB1.trans (HB4.out.mono hB1.size)) hB1.size (Nat.le_refl _)) hB1.size (Nat.le_refl _)) (by omega) (Nat.le_refl _)
  | true =>
    by_cases hw : wh = 1 ∨ wh = 2
    · obtain ⟨e1, e2, e3⟩ := HPO.out ⟨rfl, hw⟩
      have E1 := hidK e1
      have E2 := hidK e2
      have E3 := hidK e3
      clear HPO HNO e1 e2 e3
      have c11 := cell_rowK (HQ15.out.keeps (by have := HSZ.out; omega) HPC4.out) 11 _ rfl
      have KS : Hid (∀ W' : World, Kq w1.heap.size wc W' → (fun w' : World => w'.cell? ⟨w.heap.size, 10, none⟩ = some (.int .i64 wh) ∧ w'.cell? ⟨w.heap.size, 11, none⟩ = some (.string anc)) W') := fun W' q => ⟨cellQ15 c10 q (by have := HSZ.out; omega), cellQ15 c11 q (by have := HSZ.out; omega)⟩
      rcases hw with hw | hw
      · skip
        have g1 : (wh == 1) = true := by simp [hw]
        clear hw
        go_upto_region 17 with (go_at_call 19; refine (H4.out _).mono ?_; rintro e w9 ⟨rfl, hw9⟩; rw [hw9]; clear hw9)
        refine wp_region_noPanic ?_
        refine wp_region_held_drew (S := (fun w' : World => w'.cell? ⟨w.heap.size, 10, none⟩ = some (.int .i64 wh) ∧ w'.cell? ⟨w.heap.size, 11, none⟩ = some (.string anc))) (by kernel_rfl) ⟨c10, c11⟩ (fun hHeld => ?_)
        refine wpAnyH_take (i := 0) (oi := { dst := some 106, op := Op.fieldAddr 27 (Operand.tmp 1) 10, type := 0, pos := "plain.go:50", after := #[], guard := none }) (v := ?_) rfl (by kernel_rfl) (by kernel_rfl) (by kernel_rfl) (fun _ _ _ h => h) (Or.inl ⟨by rfl, ?_⟩) hHeld ?_
        rotate_left
        · intro w hSw; (try dsimp only at hSw); go_simp; try with_reducible rfl
        (try simp only [Act.put, List.setIfInBounds_toArray, List.set_cons_zero, List.set_cons_succ])
        refine wpAnyH_take (i := 1) (oi := { dst := some 107, op := Op.fieldAddr 25 (Operand.tmp 106) 0, type := 0, pos := "plain.go:50", after := #[{ on := 0, ground := Ground.data }], guard := none }) (v := ?_) rfl (by kernel_rfl) (by kernel_rfl) (by kernel_rfl) (fun _ _ _ h => h) (Or.inl ⟨by rfl, ?_⟩) hHeld ?_
        rotate_left
        · intro w hSw; (try dsimp only at hSw); go_simp; try with_reducible rfl
        (try simp only [Act.put, List.setIfInBounds_toArray, List.set_cons_zero, List.set_cons_succ])
        refine wpAnyH_take (i := 2) (oi := { dst := some 108, op := Op.load 3 (Operand.tmp 107), type := 3, pos := "plain.go:50", after := #[{ on := 1, ground := Ground.data }], guard := none }) (v := ?_) rfl (by kernel_rfl) (by kernel_rfl) (by kernel_rfl) (fun _ _ _ h => h) (Or.inl ⟨by rfl, ?_⟩) hHeld ?_
        rotate_left
        · intro w hSw; (try dsimp only at hSw); go_simp; try with_reducible rfl
        (try simp only [Act.put, List.setIfInBounds_toArray, List.set_cons_zero, List.set_cons_succ])
        refine wpAnyH_take (i := 3) (oi := { dst := some 109, op := Op.fieldAddr 27 (Operand.tmp 1) 10, type := 0, pos := "plain.go:50", after := #[], guard := none }) (v := ?_) rfl (by kernel_rfl) (by kernel_rfl) (by kernel_rfl) (fun _ _ _ h => h) (Or.inl ⟨by rfl, ?_⟩) hHeld ?_
        rotate_left
        · intro w hSw; (try dsimp only at hSw); go_simp; try with_reducible rfl
        (try simp only [Act.put, List.setIfInBounds_toArray, List.set_cons_zero, List.set_cons_succ])
        refine wpAnyH_take (i := 4) (oi := { dst := some 110, op := Op.fieldAddr 25 (Operand.tmp 109) 1, type := 0, pos := "plain.go:50", after := #[{ on := 3, ground := Ground.data }], guard := none }) (v := ?_) rfl (by kernel_rfl) (by kernel_rfl) (by kernel_rfl) (fun _ _ _ h => h) (Or.inl ⟨by rfl, ?_⟩) hHeld ?_
        rotate_left
        · intro w hSw; (try dsimp only at hSw); go_simp; try with_reducible rfl
        (try simp only [Act.put, List.setIfInBounds_toArray, List.set_cons_zero, List.set_cons_succ])
        refine wpAnyH_take (i := 5) (oi := { dst := some 111, op := Op.load 9 (Operand.tmp 110), type := 9, pos := "plain.go:50", after := #[{ on := 4, ground := Ground.data }], guard := none }) (v := ?_) rfl (by kernel_rfl) (by kernel_rfl) (by kernel_rfl) (fun _ _ _ h => h) (Or.inl ⟨by rfl, ?_⟩) hHeld ?_
        rotate_left
        · intro w hSw; (try dsimp only at hSw); go_simp; try with_reducible rfl
        (try simp only [Act.put, List.setIfInBounds_toArray, List.set_cons_zero, List.set_cons_succ])
        refine wpAnyH_ready (rs := [6]) (by kernel_rfl) (by simp) (AllReadyH.cons (o := { dst := some 112, op := Op.call { callee := Callee.value (Operand.func 20), args := #[Operand.tmp 111], argTypes := #[9] }, type := 9, pos := "plain.go:50", after := #[{ on := 5, ground := Ground.data }], guard := none }) rfl (fun K hK => ?_) AllReadyH.nil)
        refine ready_call1 (r := .string ua) rfl rfl rfl (HUA.out _) (enters_of Tryd.func20 (by kernel_rfl) rfl) ?_
        refine hK.out _ _ hHeld (fun hHeld => ?_)
        clear hK K
        (try simp only [Act.put, List.setIfInBounds_toArray, List.set_cons_zero, List.set_cons_succ])
        refine wpAnyH_take (i := 7) (oi := { dst := some 113, op := Op.build 25 #[(0, Operand.tmp 108), (1, Operand.tmp 112)], type := 25, pos := "plain.go:50", after := #[{ on := 2, ground := Ground.data }, { on := 6, ground := Ground.data }], guard := none }) (v := ?_) rfl (by kernel_rfl) (by kernel_rfl) (by kernel_rfl) (fun _ _ _ h => h) (Or.inl ⟨by rfl, ?_⟩) hHeld ?_
        rotate_left
        · intro w hSw; (try dsimp only at hSw); go_simp; try with_reducible rfl
        (try simp only [Act.put, List.setIfInBounds_toArray, List.set_cons_zero, List.set_cons_succ])
        refine wpAnyH_take (i := 8) (oi := { dst := some 114, op := Op.fieldAddr 27 (Operand.tmp 3) 10, type := 0, pos := "plain.go:50", after := #[{ on := 0, ground := Ground.phase }, { on := 1, ground := Ground.phase }, { on := 2, ground := Ground.phase }, { on := 3, ground := Ground.phase }, { on := 4, ground := Ground.phase }, { on := 5, ground := Ground.phase }, { on := 6, ground := Ground.phase }, { on := 7, ground := Ground.phase }], guard := none }) (v := ?_) rfl (by kernel_rfl) (by kernel_rfl) (by kernel_rfl) (fun _ _ _ h => h) (Or.inl ⟨by rfl, ?_⟩) hHeld ?_
        rotate_left
        · intro w hSw; (try dsimp only at hSw); go_simp; try with_reducible rfl
        (try simp only [Act.put, List.setIfInBounds_toArray, List.set_cons_zero, List.set_cons_succ])
        refine wpAnyH_ready (rs := [9]) (by kernel_rfl) (by simp) (AllReadyH.cons (o := { dst := none, op := Op.store 25 (Operand.tmp 114) (Operand.tmp 113), type := 0, pos := "plain.go:50", after := #[{ on := 8, ground := Ground.data }, { on := 7, ground := Ground.data }, { on := 6, ground := Ground.chain }, { on := 0, ground := Ground.phase }, { on := 1, ground := Ground.phase }, { on := 2, ground := Ground.phase }, { on := 3, ground := Ground.phase }, { on := 4, ground := Ground.phase }, { on := 5, ground := Ground.phase }, { on := 6, ground := Ground.phase }, { on := 7, ground := Ground.phase }], guard := none }) rfl (fun K hK => ?_) AllReadyH.nil)
        refine step_store15 rfl rfl _ _ _ rfl w1.heap.size 10 (.agg #[.int .i64 wh, .string ua]) rfl rfl _ _ #[.int .i64 0, .int .u8 on, .bool vb, .bool upB, .bool quB, .bool det, .bool daB, .bool baB, .bool thB, .int .i64 2, .int .i64 wh, .string ua, .string arc, .slice a3 n3 k3] HS15.out (by kernel_rfl) rfl rfl rfl ?_
        intro W11 S11 q11
        have q11 : Kq w1.heap.size wc W11 := ⟨q11.os, q11.tape, q11.output, q11.size, q11.block⟩
        refine hK.out _ _ (KS.out _ q11) (fun hHeld => ?_)
        clear hK K
        (try simp only [Act.put, List.setIfInBounds_toArray, List.set_cons_zero, List.set_cons_succ])
        refine wpAnyH_done (by kernel_rfl) ?_ _
        refine NoPanic.normal ?_
        have HR11 := q11.keeps (by have := HSZ.out; omega) HR9.out
        go_wp2_with (first
          | (refine wpList_load_row rfl _ _ rfl w1.heap.size rfl _ #[.int .i64 0, .int .u8 on, .bool vb, .bool upB, .bool quB, .bool det, .bool daB, .bool baB, .bool thB, .int .i64 2, .int .i64 wh, .string ua, .string arc, .slice a3 n3 k3] (0, 0) _ S11 Tryd.underlying27 rfl (by kernel_rfl) ?_)
          | (refine wpList_store_kz rfl rfl _ _ _ rfl (w.heap.size + 1) 0 (.agg #[.int .i64 0, .int .u8 on, .bool vb, .bool upB, .bool quB, .bool det, .bool daB, .bool baB, .bool thB, .int .i64 2, .int .i64 wh, .string ua, .string arc, .slice a3 n3 k3]) rfl rfl _ _ #[.int .i64 0, .int .u8 on, .bool vb, .bool upB, .bool quB, .bool det, .bool daB, .bool baB, .bool thB, .int .i64 2, .int .i64 wh, .string ua, .string arc, .slice a3 n3 k3] HR11 (by kernel_rfl) rfl rfl rfl ?_; intro W12 S12 q12))
        refine bodyPost_ret (results_cell15 rfl _ _ (w.heap.size + 1) _ _ _ _ rfl S12 Tryd.underlying27 rfl sizeCm) rfl ?_
        refine ⟨.slice a3 n3 k3, ?_, ?_, ?_⟩
        · rw [E1.out, E2.out, E3.out]
        · exact OwnT.le (own_kqK (t := 27) (own_kqK (t := 27) (own_kqK (t := 27) HO4.out HQ15.out HS40.out (by decide)) q11 HS15.out (by decide)) q12 (q11.keeps (by have := HSZ.out; omega) HR9.out) (by decide)) (Nat.le_trans hB1.size (Nat.le_of_lt hg2))
        · exact q12.belowN (q11.belowN (HQ15.out.belowN (hB1.trans (HB4.out.mono hB1.size)) hB1.size (Nat.le_refl _)) hB1.size (Nat.le_refl _)) (by omega) (Nat.le_refl _)
      · skip
        have g1 : (wh == 1) = false := by rw [hw]; rfl
        have g2 : (wh == 2) = true := by simp [hw]
        clear hw
        go_upto_region 17 with (go_at_call 19; refine (H4.out _).mono ?_; rintro e w9 ⟨rfl, hw9⟩; rw [hw9]; clear hw9)
        refine wp_region_noPanic ?_
        refine wp_region_held_drew (S := (fun w' : World => w'.cell? ⟨w.heap.size, 10, none⟩ = some (.int .i64 wh) ∧ w'.cell? ⟨w.heap.size, 11, none⟩ = some (.string anc))) (by kernel_rfl) ⟨c10, c11⟩ (fun hHeld => ?_)
        refine wpAnyH_take (i := 0) (oi := { dst := some 106, op := Op.fieldAddr 27 (Operand.tmp 1) 10, type := 0, pos := "plain.go:50", after := #[], guard := none }) (v := ?_) rfl (by kernel_rfl) (by kernel_rfl) (by kernel_rfl) (fun _ _ _ h => h) (Or.inl ⟨by rfl, ?_⟩) hHeld ?_
        rotate_left
        · intro w hSw; (try dsimp only at hSw); go_simp; try with_reducible rfl
        (try simp only [Act.put, List.setIfInBounds_toArray, List.set_cons_zero, List.set_cons_succ])
        refine wpAnyH_take (i := 1) (oi := { dst := some 107, op := Op.fieldAddr 25 (Operand.tmp 106) 0, type := 0, pos := "plain.go:50", after := #[{ on := 0, ground := Ground.data }], guard := none }) (v := ?_) rfl (by kernel_rfl) (by kernel_rfl) (by kernel_rfl) (fun _ _ _ h => h) (Or.inl ⟨by rfl, ?_⟩) hHeld ?_
        rotate_left
        · intro w hSw; (try dsimp only at hSw); go_simp; try with_reducible rfl
        (try simp only [Act.put, List.setIfInBounds_toArray, List.set_cons_zero, List.set_cons_succ])
        refine wpAnyH_take (i := 2) (oi := { dst := some 108, op := Op.load 3 (Operand.tmp 107), type := 3, pos := "plain.go:50", after := #[{ on := 1, ground := Ground.data }], guard := none }) (v := ?_) rfl (by kernel_rfl) (by kernel_rfl) (by kernel_rfl) (fun _ _ _ h => h) (Or.inl ⟨by rfl, ?_⟩) hHeld ?_
        rotate_left
        · intro w hSw; (try dsimp only at hSw); go_simp; try with_reducible rfl
        (try simp only [Act.put, List.setIfInBounds_toArray, List.set_cons_zero, List.set_cons_succ])
        refine wpAnyH_take (i := 3) (oi := { dst := some 109, op := Op.fieldAddr 27 (Operand.tmp 1) 10, type := 0, pos := "plain.go:50", after := #[], guard := none }) (v := ?_) rfl (by kernel_rfl) (by kernel_rfl) (by kernel_rfl) (fun _ _ _ h => h) (Or.inl ⟨by rfl, ?_⟩) hHeld ?_
        rotate_left
        · intro w hSw; (try dsimp only at hSw); go_simp; try with_reducible rfl
        (try simp only [Act.put, List.setIfInBounds_toArray, List.set_cons_zero, List.set_cons_succ])
        refine wpAnyH_take (i := 4) (oi := { dst := some 110, op := Op.fieldAddr 25 (Operand.tmp 109) 1, type := 0, pos := "plain.go:50", after := #[{ on := 3, ground := Ground.data }], guard := none }) (v := ?_) rfl (by kernel_rfl) (by kernel_rfl) (by kernel_rfl) (fun _ _ _ h => h) (Or.inl ⟨by rfl, ?_⟩) hHeld ?_
        rotate_left
        · intro w hSw; (try dsimp only at hSw); go_simp; try with_reducible rfl
        (try simp only [Act.put, List.setIfInBounds_toArray, List.set_cons_zero, List.set_cons_succ])
        refine wpAnyH_take (i := 5) (oi := { dst := some 111, op := Op.load 9 (Operand.tmp 110), type := 9, pos := "plain.go:50", after := #[{ on := 4, ground := Ground.data }], guard := none }) (v := ?_) rfl (by kernel_rfl) (by kernel_rfl) (by kernel_rfl) (fun _ _ _ h => h) (Or.inl ⟨by rfl, ?_⟩) hHeld ?_
        rotate_left
        · intro w hSw; (try dsimp only at hSw); go_simp; try with_reducible rfl
        (try simp only [Act.put, List.setIfInBounds_toArray, List.set_cons_zero, List.set_cons_succ])
        refine wpAnyH_ready (rs := [6]) (by kernel_rfl) (by simp) (AllReadyH.cons (o := { dst := some 112, op := Op.call { callee := Callee.value (Operand.func 20), args := #[Operand.tmp 111], argTypes := #[9] }, type := 9, pos := "plain.go:50", after := #[{ on := 5, ground := Ground.data }], guard := none }) rfl (fun K hK => ?_) AllReadyH.nil)
        refine ready_call1 (r := .string ua) rfl rfl rfl (HUA.out _) (enters_of Tryd.func20 (by kernel_rfl) rfl) ?_
        refine hK.out _ _ hHeld (fun hHeld => ?_)
        clear hK K
        (try simp only [Act.put, List.setIfInBounds_toArray, List.set_cons_zero, List.set_cons_succ])
        refine wpAnyH_take (i := 7) (oi := { dst := some 113, op := Op.build 25 #[(0, Operand.tmp 108), (1, Operand.tmp 112)], type := 25, pos := "plain.go:50", after := #[{ on := 2, ground := Ground.data }, { on := 6, ground := Ground.data }], guard := none }) (v := ?_) rfl (by kernel_rfl) (by kernel_rfl) (by kernel_rfl) (fun _ _ _ h => h) (Or.inl ⟨by rfl, ?_⟩) hHeld ?_
        rotate_left
        · intro w hSw; (try dsimp only at hSw); go_simp; try with_reducible rfl
        (try simp only [Act.put, List.setIfInBounds_toArray, List.set_cons_zero, List.set_cons_succ])
        refine wpAnyH_take (i := 8) (oi := { dst := some 114, op := Op.fieldAddr 27 (Operand.tmp 3) 10, type := 0, pos := "plain.go:50", after := #[{ on := 0, ground := Ground.phase }, { on := 1, ground := Ground.phase }, { on := 2, ground := Ground.phase }, { on := 3, ground := Ground.phase }, { on := 4, ground := Ground.phase }, { on := 5, ground := Ground.phase }, { on := 6, ground := Ground.phase }, { on := 7, ground := Ground.phase }], guard := none }) (v := ?_) rfl (by kernel_rfl) (by kernel_rfl) (by kernel_rfl) (fun _ _ _ h => h) (Or.inl ⟨by rfl, ?_⟩) hHeld ?_
        rotate_left
        · intro w hSw; (try dsimp only at hSw); go_simp; try with_reducible rfl
        (try simp only [Act.put, List.setIfInBounds_toArray, List.set_cons_zero, List.set_cons_succ])
        refine wpAnyH_ready (rs := [9]) (by kernel_rfl) (by simp) (AllReadyH.cons (o := { dst := none, op := Op.store 25 (Operand.tmp 114) (Operand.tmp 113), type := 0, pos := "plain.go:50", after := #[{ on := 8, ground := Ground.data }, { on := 7, ground := Ground.data }, { on := 6, ground := Ground.chain }, { on := 0, ground := Ground.phase }, { on := 1, ground := Ground.phase }, { on := 2, ground := Ground.phase }, { on := 3, ground := Ground.phase }, { on := 4, ground := Ground.phase }, { on := 5, ground := Ground.phase }, { on := 6, ground := Ground.phase }, { on := 7, ground := Ground.phase }], guard := none }) rfl (fun K hK => ?_) AllReadyH.nil)
        refine step_store15 rfl rfl _ _ _ rfl w1.heap.size 10 (.agg #[.int .i64 wh, .string ua]) rfl rfl _ _ #[.int .i64 0, .int .u8 on, .bool vb, .bool upB, .bool quB, .bool det, .bool daB, .bool baB, .bool thB, .int .i64 2, .int .i64 wh, .string ua, .string arc, .slice a3 n3 k3] HS15.out (by kernel_rfl) rfl rfl rfl ?_
        intro W11 S11 q11
        have q11 : Kq w1.heap.size wc W11 := ⟨q11.os, q11.tape, q11.output, q11.size, q11.block⟩
        refine hK.out _ _ (KS.out _ q11) (fun hHeld => ?_)
        clear hK K
        (try simp only [Act.put, List.setIfInBounds_toArray, List.set_cons_zero, List.set_cons_succ])
        refine wpAnyH_done (by kernel_rfl) ?_ _
        refine NoPanic.normal ?_
        have HR11 := q11.keeps (by have := HSZ.out; omega) HR9.out
        go_wp2_with (first
          | (refine wpList_load_row rfl _ _ rfl w1.heap.size rfl _ #[.int .i64 0, .int .u8 on, .bool vb, .bool upB, .bool quB, .bool det, .bool daB, .bool baB, .bool thB, .int .i64 2, .int .i64 wh, .string ua, .string arc, .slice a3 n3 k3] (0, 0) _ S11 Tryd.underlying27 rfl (by kernel_rfl) ?_)
          | (refine wpList_store_kz rfl rfl _ _ _ rfl (w.heap.size + 1) 0 (.agg #[.int .i64 0, .int .u8 on, .bool vb, .bool upB, .bool quB, .bool det, .bool daB, .bool baB, .bool thB, .int .i64 2, .int .i64 wh, .string ua, .string arc, .slice a3 n3 k3]) rfl rfl _ _ #[.int .i64 0, .int .u8 on, .bool vb, .bool upB, .bool quB, .bool det, .bool daB, .bool baB, .bool thB, .int .i64 2, .int .i64 wh, .string ua, .string arc, .slice a3 n3 k3] HR11 (by kernel_rfl) rfl rfl rfl ?_; intro W12 S12 q12))
        refine bodyPost_ret (results_cell15 rfl _ _ (w.heap.size + 1) _ _ _ _ rfl S12 Tryd.underlying27 rfl sizeCm) rfl ?_
        refine ⟨.slice a3 n3 k3, ?_, ?_, ?_⟩
        · rw [E1.out, E2.out, E3.out]
        · exact OwnT.le (own_kqK (t := 27) (own_kqK (t := 27) (own_kqK (t := 27) HO4.out HQ15.out HS40.out (by decide)) q11 HS15.out (by decide)) q12 (q11.keeps (by have := HSZ.out; omega) HR9.out) (by decide)) (Nat.le_trans hB1.size (Nat.le_of_lt hg2))
        · exact q12.belowN (q11.belowN (HQ15.out.belowN (hB1.trans (HB4.out.mono hB1.size)) hB1.size (Nat.le_refl _)) hB1.size (Nat.le_refl _)) (by omega) (Nat.le_refl _)
    · have g1 : (wh == 1) = false := beq_eq_false_iff_ne.2 fun q => hw (.inl q)
      have g2 : (wh == 2) = false := beq_eq_false_iff_ne.2 fun q => hw (.inr q)
      obtain ⟨e1, e2, e3⟩ := HNO.out (fun q => hw q.2)
      have E1 := hidK e1
      have E2 := hidK e2
      have E3 := hidK e3
      clear HPO HNO e1 e2 e3
      go_upto_region 18 with (go_at_call 19; refine (H4.out _).mono ?_; rintro e w9 ⟨rfl, hw9⟩; rw [hw9]; clear hw9)
      go_upto_region 19 with (first
        | (go_at_call 20; refine (HUB.out _).mono ?_; rintro e w9 ⟨rfl, hw9⟩; rw [hw9]; clear hw9)
        | (refine wpList_store_kz rfl rfl _ _ _ rfl w1.heap.size 12 (.string ub) rfl rfl _ _ #[.int .i64 0, .int .u8 on, .bool vb, .bool upB, .bool quB, .bool det, .bool daB, .bool baB, .bool thB, .int .i64 2, .int .i64 0, .string ⟨#[]⟩, .string ub, .slice a3 n3 k3] HS15.out (by kernel_rfl) rfl rfl rfl ?_; intro W11 S11 q11))
      have HR11 := q11.keeps (by have := HSZ.out; omega) HR9.out
      clear c10 c12 d1
      go_wp2_with (first
        | (refine wpList_load_row rfl _ _ rfl w1.heap.size rfl _ #[.int .i64 0, .int .u8 on, .bool vb, .bool upB, .bool quB, .bool det, .bool daB, .bool baB, .bool thB, .int .i64 2, .int .i64 0, .string ⟨#[]⟩, .string ub, .slice a3 n3 k3] (0, 0) _ S11 Tryd.underlying27 rfl (by kernel_rfl) ?_)
        | (refine wpList_store_kz rfl rfl _ _ _ rfl (w.heap.size + 1) 0 (.agg #[.int .i64 0, .int .u8 on, .bool vb, .bool upB, .bool quB, .bool det, .bool daB, .bool baB, .bool thB, .int .i64 2, .int .i64 0, .string ⟨#[]⟩, .string ub, .slice a3 n3 k3]) rfl rfl _ _ #[.int .i64 0, .int .u8 on, .bool vb, .bool upB, .bool quB, .bool det, .bool daB, .bool baB, .bool thB, .int .i64 2, .int .i64 0, .string ⟨#[]⟩, .string ub, .slice a3 n3 k3] HR11 (by kernel_rfl) rfl rfl rfl ?_; intro W12 S12 q12))
      refine bodyPost_ret (results_cell15 rfl _ _ (w.heap.size + 1) _ _ _ _ rfl S12 Tryd.underlying27 rfl sizeCm) rfl ?_
      refine ⟨.slice a3 n3 k3, ?_, ?_, ?_⟩
      · rw [E1.out, E2.out, E3.out]
      · exact OwnT.le (own_kqK (t := 27) (own_kqK (t := 27) (own_kqK (t := 27) HO4.out HQ15.out HS40.out (by decide)) q11 HS15.out (by decide)) q12 (q11.keeps (by have := HSZ.out; omega) HR9.out) (by decide)) (Nat.le_trans hB1.size (Nat.le_of_lt hg2))
      · exact q12.belowN (q11.belowN (HQ15.out.belowN (hB1.trans (HB4.out.mono hB1.size)) hB1.size (Nat.le_refl _)) hB1.size (Nat.le_refl _)) (by omega) (Nat.le_refl _)
end Go.Proofs.YtmhamlhmmkbkaaaDoor
