import Derived.Test.YtmhamlhmmkbkaaaDoorLM
import Derived.Deep.RegionHeld3
import Derived.Deep.CutRange
import Derived.Laws.Rows
import Derived.Shelf.Abstract
import Derived.Test.YtmhamlhmmkbkaaaDoorC0
import Derived.WalkLawsBesides
import Derived.Test.YtmhamlhmmkbkaaaDoorLMt0
import Derived.Test.YtmhamlhmmkbkaaaDoorLMt2
import Derived.Test.YtmhamlhmmkbkaaaDoorM3

-- meant: the command that a line can mean.
namespace Go.Proofs.YtmhamlhmmkbkaaaDoor
open Go.ChangeShapes Go.WideShapes Go.ChangeAt Go.RowKit
set_option linter.unusedVariables false
set_option maxRecDepth 100000
set_option linter.unusedSimpArgs false
set_option maxHeartbeats 32000000 in
theorem meant_arf2 (prog on wh : Int) (vb up qu det dat bare thin : Bool) (anc arc : ByteArray) (an : Option Addr) (nl nc : Nat) (nms : List ByteArray) (w : World) (hR : RowT w (.slice an nl nc) nms) (hl : nms.length ≤ 16777216) (hp : (prog == 1) = false) (H1 : Hid (∀ W, Calls Tryd.prog 19 #[.int .u8 on, .string ⟨#[100, 109, 112, 113, 114, 115, 116, 120]⟩] W fun e w' => e = .returned (.bool false) ∧ w' = W)) (upB thB quB daB baB mrB : Bool) (HF : Hid (upB = false ∧ thB = false ∧ quB = false ∧ daB = false ∧ baB = false ∧ mrB = false)) (H2 : Hid (∀ W, Calls Tryd.prog 19 #[.int .u8 116, .string ⟨#[114, 113]⟩] W fun e w' => e = .returned (.bool false) ∧ w' = W)) (H3 : Hid (∀ W, Calls Tryd.prog 19 #[.int .u8 116, .string ⟨#[100, 109, 113, 114]⟩] W fun e w' => e = .returned (.bool false) ∧ w' = W)) (H4 : Hid (∀ W, Calls Tryd.prog 19 #[.int .u8 116, .string ⟨#[109, 114]⟩] W fun e w' => e = .returned (.bool false) ∧ w' = W)) (ua ub ancF arcF : ByteArray) (whF : Int) (HUA : Hid (∀ W, Calls Tryd.prog 20 #[.string anc] W fun e w' => e = .returned (.string ua) ∧ w' = W)) (HUB : Hid (∀ W, Calls Tryd.prog 20 #[.string arc] W fun e w' => e = .returned (.string ub) ∧ w' = W)) (HPO : Hid ((mrB = true ∧ (wh = 1 ∨ wh = 2)) → whF = wh ∧ ancF = ua ∧ arcF = arc)) (HNO : Hid (¬ (mrB = true ∧ (wh = 1 ∨ wh = 2)) → whF = 0 ∧ ancF = ⟨#[]⟩ ∧ arcF = ub)) :
    Calls Tryd.prog 13 #[.agg #[.int .i64 prog, .int .u8 on, .bool vb, .bool up, .bool qu, .bool det, .bool dat, .bool bare, .bool thin, .int .i64 2, .int .i64 wh, .string anc, .string arc, .slice an nl nc]] w fun e w' => ∃ u, e = .returned (.agg #[.int .i64 0, .int .u8 116, .bool vb, .bool upB, .bool quB, .bool det, .bool daB, .bool baB, .bool thB, .int .i64 2, .int .i64 whF, .string ancF, .string arcF, u]) ∧ OwnT w.heap.size w' u nms ∧ Below w.heap.size w w' := by
  obtain ⟨w1, hw1⟩ : ∃ w1, (w.alloc (.cells #[.int .i64 prog, .int .u8 on, .bool vb, .bool up, .bool qu, .bool det, .bool dat, .bool bare, .bool thin, .int .i64 2, .int .i64 wh, .string anc, .string arc, .slice an nl nc] 27)).alloc (.cells #[.int .i64 0, .int .u8 0, .bool false, .bool false, .bool false, .bool false, .bool false, .bool false, .bool false, .int .i64 0, .int .i64 0, .string ⟨#[]⟩, .string ⟨#[]⟩, .slice none 0 0] 27) = w1 := ⟨_, rfl⟩
  have hPc : w1.heap[w.heap.size]? = some (.cells #[.int .i64 prog, .int .u8 on, .bool vb, .bool up, .bool qu, .bool det, .bool dat, .bool bare, .bool thin, .int .i64 2, .int .i64 wh, .string anc, .string arc, .slice an nl nc] 27 (0, 0)) := by rw [← hw1]; exact hupK (heap_alloc_new w _) _
  have hPr : w1.heap[w.heap.size + 1]? = some (.cells #[.int .i64 0, .int .u8 0, .bool false, .bool false, .bool false, .bool false, .bool false, .bool false, .bool false, .int .i64 0, .int .i64 0, .string ⟨#[]⟩, .string ⟨#[]⟩, .slice none 0 0] 27 (0, 0)) := by rw [← hw1]; exact heap_new2K w _ _
  have hB1 : Below w.heap.size w w1 := by rw [← hw1]; exact (bupK (Below.refl _ _) _).alloc (by rw [World.size_alloc]; omega) _
  have hsz : w1.heap.size = w.heap.size + 2 := by rw [← hw1, World.size_alloc, World.size_alloc]
  have HPC := hidK hPc
  have HPR := hidK hPr
  have HSZ := hidK hsz
  have HV := hidK hR
  have x1 := cell_rowK hPc 1 _ rfl
  have x2 := cell_rowK hPc 2 _ rfl
  have x5 := cell_rowK hPc 5 _ rfl
  have x12 := cell_rowK hPc 12 _ rfl
  have hPd := heap_alloc_new w1 (.cells #[.int .i64 0, .int .u8 0, .bool false, .bool false, .bool false, .bool false, .bool false, .bool false, .bool false, .int .i64 0, .int .i64 0, .string ⟨#[]⟩, .string ⟨#[]⟩, .slice none 0 0] 27)
  have HB2 : Hid (∀ W, Kq w1.heap.size (w1.alloc (.cells #[.int .i64 0, .int .u8 0, .bool false, .bool false, .bool false, .bool false, .bool false, .bool false, .bool false, .int .i64 0, .int .i64 0, .string ⟨#[]⟩, .string ⟨#[]⟩, .slice none 0 0] 27)) W → Below w1.heap.size w1 W) := fun W q => q.belowN (bupK (Below.refl _ _) _) (Nat.le_refl _) (Nat.le_refl _)
  clear hPc hPr hsz hR
  go_enter Tryd.func13, Tryd.ntmps13
  go_upto_region 1 with fail
  try rw [hw1]
  clear hw1
  go_upto_region 2 with (refine wpList_store_kz rfl rfl _ _ _ rfl w1.heap.size 0 (.agg #[.int .i64 0, .int .u8 on, .bool vb, .bool false, .bool false, .bool det, .bool false, .bool false, .bool false, .int .i64 0, .int .i64 0, .string ⟨#[]⟩, .string arc, .slice none 0 0]) rfl rfl _ _ #[.int .i64 0, .int .u8 on, .bool vb, .bool false, .bool false, .bool det, .bool false, .bool false, .bool false, .int .i64 0, .int .i64 0, .string ⟨#[]⟩, .string arc, .slice none 0 0] hPd (by kernel_rfl) rfl rfl rfl ?_; intro W2 S2 q2)
  have b2 := HB2.out W2 q2
  clear hPd HB2 q2 x1 x2 x5 x12
  have y13 := cell_rowK S2 13 _ rfl
  have x13 := cell_rowK (hkeepK b2 HPC.out) 13 _ rfl
  have hg2 : w1.heap.size < W2.heap.size := (Array.getElem?_eq_some_iff.1 S2).1
  have r2 := (HV.out.on hB1).on b2
  have HS2 := hidK S2
  go_upto_region 3 with (first
    | (refine wpT_all rfl (.tmp 16) (.tmp 18) rfl W2 W2.heap.size (.slice none 0 0) (.slice an nl nc) [] nms rfl rfl (ownT_nil _ _) r2 (by simp) (by omega) (Nat.le_refl _) (Below.refl _ _) ?_; intro v3 w3 o3 b3; obtain ⟨a3, k3, hv3⟩ := OwnT.form o3; rw [hv3] at o3 ⊢; have S3 := hkeepK b3 HS2.out; clear hv3)
    | (refine wpList_store_kz rfl rfl _ _ _ rfl w1.heap.size 13 (.slice a3 ([] ++ nms).length k3) rfl rfl _ _ #[.int .i64 0, .int .u8 on, .bool vb, .bool false, .bool false, .bool det, .bool false, .bool false, .bool false, .int .i64 0, .int .i64 0, .string ⟨#[]⟩, .string arc, .slice a3 ([] ++ nms).length k3] S3 (by kernel_rfl) rfl rfl rfl ?_; intro W4 S4 q4))
  obtain ⟨n3, hn3⟩ : ∃ n3, n3 = nms.length := ⟨_, rfl⟩
  have o4 : OwnT W2.heap.size W4 (.slice a3 n3 k3) nms := by
    rw [hn3]
    exact own_kqK (t := 27) o3 q4 (hkeepK b3 HS2.out) (by decide)
  have S4 : W4.heap[w1.heap.size]? = some (.cells #[.int .i64 0, .int .u8 on, .bool vb, .bool false, .bool false, .bool det, .bool false, .bool false, .bool false, .int .i64 0, .int .i64 0, .string ⟨#[]⟩, .string arc, .slice a3 n3 k3] 27 (0, 0)) := by rw [hn3]; exact S4
  have b4 : Below w1.heap.size w1 W4 := q4.belowN (bel3K b2 b3) (Nat.le_refl _) (Nat.le_refl _)
  have HO4 := hidK o4
  have HS40 := hidK S4
  have HB4 := hidK b4
  have HPC4 := hidK (hkeepK b4 HPC.out)
  have HPR4 := hidK (hkeepK b4 HPR.out)
  have hg4 : W2.heap.size ≤ W4.heap.size := Nat.le_trans b3.size q4.size
  have z1 := cell_rowK HPC4.out 1 _ rfl
  clear o3 b3 S3 q4 r2 x13 y13 b2 HS2 o4 b4 hn3
  go_upto_region 4 with (go_at_call 19; refine (H1.out _).mono ?_; rintro e w9 ⟨rfl, hw9⟩; rw [hw9]; clear hw9)
  go_upto_region 6 with (refine wpList_store_kz rfl rfl _ _ _ rfl w1.heap.size 1 (.int .u8 116) rfl rfl _ _ #[.int .i64 0, .int .u8 116, .bool vb, .bool false, .bool false, .bool det, .bool false, .bool false, .bool false, .int .i64 0, .int .i64 0, .string ⟨#[]⟩, .string arc, .slice a3 n3 k3] S4 (by kernel_rfl) rfl rfl rfl ?_; intro W6 S6 q6)
  have HS5 := hidK S6
  have HQ5 := hidK q6
  clear z1 S4 S6 q6 H1
  have c0 := cell_rowK (HQ5.out.keeps (by have := HSZ.out; omega) HPC4.out) 0 _ rfl
  have c9 := cell_rowK (HQ5.out.keeps (by have := HSZ.out; omega) HPC4.out) 9 _ rfl
  have S5 := HS5.out
  go_upto_region 10 with (refine wpList_store_kz rfl rfl _ _ _ rfl w1.heap.size 9 (.int .i64 2) rfl rfl _ _ #[.int .i64 0, .int .u8 116, .bool vb, .bool false, .bool false, .bool det, .bool false, .bool false, .bool false, .int .i64 2, .int .i64 0, .string ⟨#[]⟩, .string arc, .slice a3 n3 k3] S5 (by kernel_rfl) rfl rfl rfl ?_; intro W7 S7 q7)
  have HSa := hidK S7
  have HQa : Hid (Kq w1.heap.size W4 W7) := HQ5.out.two q7
  clear S5 S7 q7 c0 c9
  have d1 := cell_rowK HSa.out 1 _ rfl
  go_upto_region 11 with (go_at_call 19; refine (H2.out _).mono ?_; rintro e w9 ⟨rfl, hw9⟩; rw [hw9]; clear hw9)
  clear d1 HS5 HQ5 H2
  go_cut [] from 45 to 57 (fun wx => Hid (wx.heap[w1.heap.size]? = some (.cells #[.int .i64 0, .int .u8 116, .bool vb, .bool upB, .bool false, .bool det, .bool false, .bool false, .bool false, .int .i64 2, .int .i64 0, .string ⟨#[]⟩, .string arc, .slice a3 n3 k3] 27 (0, 0))) ∧ Hid (Kq w1.heap.size W4 wx))
  case first =>
    have c3 := cell_rowK (HQa.out.keeps (by have := HSZ.out; omega) HPC4.out) 3 _ rfl
    have d1 := cell_rowK HSa.out 1 _ rfl
    have d5 := cell_rowK HSa.out 5 _ rfl
    cases up with
    | false =>
      have eB : upB = false := HF.out.1
      go_wp2_with (refine wpList_store_kz rfl rfl _ _ _ rfl w1.heap.size 3 (.bool false) rfl rfl _ _ #[.int .i64 0, .int .u8 116, .bool vb, .bool false, .bool false, .bool det, .bool false, .bool false, .bool false, .int .i64 2, .int .i64 0, .string ⟨#[]⟩, .string arc, .slice a3 n3 k3] HSa.out (by kernel_rfl) rfl rfl rfl ?_; intro W9 S9 q9)
      go_meet
      case rel => exact ⟨by rw [eB]; exact S9, HQa.out.two q9⟩
    | true =>
      have eB : upB = false := HF.out.1
      go_wp2_with (refine wpList_store_kz rfl rfl _ _ _ rfl w1.heap.size 3 (.bool false) rfl rfl _ _ #[.int .i64 0, .int .u8 116, .bool vb, .bool false, .bool false, .bool det, .bool false, .bool false, .bool false, .int .i64 2, .int .i64 0, .string ⟨#[]⟩, .string arc, .slice a3 n3 k3] HSa.out (by kernel_rfl) rfl rfl rfl ?_; intro W9 S9 q9)
      go_meet
      case rel => exact ⟨by rw [eB]; exact S9, HQa.out.two q9⟩
  case rest =>
  obtain ⟨HS11, HQ11⟩ := hcut
  clear HSa HQa
  go_upto_region 12 with fail
  go_cut [] from 58 to 68 (fun wx => Hid (wx.heap[w1.heap.size]? = some (.cells #[.int .i64 0, .int .u8 116, .bool vb, .bool upB, .bool false, .bool det, .bool false, .bool false, .bool thB, .int .i64 2, .int .i64 0, .string ⟨#[]⟩, .string arc, .slice a3 n3 k3] 27 (0, 0))) ∧ Hid (Kq w1.heap.size W4 wx))
  case first =>
    have c8 := cell_rowK (HQ11.out.keeps (by have := HSZ.out; omega) HPC4.out) 8 _ rfl
    have d9 := cell_rowK HS11.out 9 _ rfl
    cases thin with
    | false =>
      have eB : thB = false := HF.out.2.1
      go_wp2_with (refine wpList_store_kz rfl rfl _ _ _ rfl w1.heap.size 8 (.bool false) rfl rfl _ _ #[.int .i64 0, .int .u8 116, .bool vb, .bool upB, .bool false, .bool det, .bool false, .bool false, .bool false, .int .i64 2, .int .i64 0, .string ⟨#[]⟩, .string arc, .slice a3 n3 k3] HS11.out (by kernel_rfl) rfl rfl rfl ?_; intro W9 S9 q9)
      go_meet
      case rel => exact ⟨by rw [eB]; exact S9, HQ11.out.two q9⟩
    | true =>
      have eB : thB = false := HF.out.2.1
      go_wp2_with (refine wpList_store_kz rfl rfl _ _ _ rfl w1.heap.size 8 (.bool false) rfl rfl _ _ #[.int .i64 0, .int .u8 116, .bool vb, .bool upB, .bool false, .bool det, .bool false, .bool false, .bool false, .int .i64 2, .int .i64 0, .string ⟨#[]⟩, .string arc, .slice a3 n3 k3] HS11.out (by kernel_rfl) rfl rfl rfl ?_; intro W9 S9 q9)
      go_meet
      case rel => exact ⟨by rw [eB]; exact S9, HQ11.out.two q9⟩
  case rest =>
  obtain ⟨HS12, HQ12⟩ := hcut
  clear HS11 HQ11
  go_upto_region 13 with fail
  go_cut [] from 69 to 74 (fun wx => Hid (wx.heap[w1.heap.size]? = some (.cells #[.int .i64 0, .int .u8 116, .bool vb, .bool upB, .bool quB, .bool det, .bool false, .bool false, .bool thB, .int .i64 2, .int .i64 0, .string ⟨#[]⟩, .string arc, .slice a3 n3 k3] 27 (0, 0))) ∧ Hid (Kq w1.heap.size W4 wx))
  case first =>
    have c4 := cell_rowK (HQ12.out.keeps (by have := HSZ.out; omega) HPC4.out) 4 _ rfl
    cases qu with
    | false =>
      have eB : quB = false := HF.out.2.2.1
      go_wp2_with (refine wpList_store_kz rfl rfl _ _ _ rfl w1.heap.size 4 (.bool false) rfl rfl _ _ #[.int .i64 0, .int .u8 116, .bool vb, .bool upB, .bool false, .bool det, .bool false, .bool false, .bool thB, .int .i64 2, .int .i64 0, .string ⟨#[]⟩, .string arc, .slice a3 n3 k3] HS12.out (by kernel_rfl) rfl rfl rfl ?_; intro W9 S9 q9)
      go_meet
      case rel => exact ⟨by rw [eB]; exact S9, HQ12.out.two q9⟩
    | true =>
      have eB : quB = false := HF.out.2.2.1
      go_wp2_with (refine wpList_store_kz rfl rfl _ _ _ rfl w1.heap.size 4 (.bool false) rfl rfl _ _ #[.int .i64 0, .int .u8 116, .bool vb, .bool upB, .bool false, .bool det, .bool false, .bool false, .bool thB, .int .i64 2, .int .i64 0, .string ⟨#[]⟩, .string arc, .slice a3 n3 k3] HS12.out (by kernel_rfl) rfl rfl rfl ?_; intro W9 S9 q9)
      go_meet
      case rel => exact ⟨by rw [eB]; exact S9, HQ12.out.two q9⟩
  case rest =>
  obtain ⟨HS13, HQ13⟩ := hcut
  clear HS12 HQ12
  go_upto_region 14 with fail
  go_cut [] from 75 to 82 (fun wx => Hid (wx.heap[w1.heap.size]? = some (.cells #[.int .i64 0, .int .u8 116, .bool vb, .bool upB, .bool quB, .bool det, .bool daB, .bool false, .bool thB, .int .i64 2, .int .i64 0, .string ⟨#[]⟩, .string arc, .slice a3 n3 k3] 27 (0, 0))) ∧ Hid (Kq w1.heap.size W4 wx))
  case first =>
    have c6 := cell_rowK (HQ13.out.keeps (by have := HSZ.out; omega) HPC4.out) 6 _ rfl
    have d1 := cell_rowK HS13.out 1 _ rfl
    cases dat with
    | false =>
      have eB : daB = false := HF.out.2.2.2.1
      go_wp2_with (refine wpList_store_kz rfl rfl _ _ _ rfl w1.heap.size 6 (.bool false) rfl rfl _ _ #[.int .i64 0, .int .u8 116, .bool vb, .bool upB, .bool quB, .bool det, .bool false, .bool false, .bool thB, .int .i64 2, .int .i64 0, .string ⟨#[]⟩, .string arc, .slice a3 n3 k3] HS13.out (by kernel_rfl) rfl rfl rfl ?_; intro W9 S9 q9)
      go_meet
      case rel => exact ⟨by rw [eB]; exact S9, HQ13.out.two q9⟩
    | true =>
      have eB : daB = false := HF.out.2.2.2.1
      go_wp2_with (refine wpList_store_kz rfl rfl _ _ _ rfl w1.heap.size 6 (.bool false) rfl rfl _ _ #[.int .i64 0, .int .u8 116, .bool vb, .bool upB, .bool quB, .bool det, .bool false, .bool false, .bool thB, .int .i64 2, .int .i64 0, .string ⟨#[]⟩, .string arc, .slice a3 n3 k3] HS13.out (by kernel_rfl) rfl rfl rfl ?_; intro W9 S9 q9)
      go_meet
      case rel => exact ⟨by rw [eB]; exact S9, HQ13.out.two q9⟩
  case rest =>
  obtain ⟨HS14, HQ14⟩ := hcut
  clear HS13 HQ13
  go_upto_region 15 with fail
  go_cut [] from 83 to 90 (fun wx => Hid (wx.heap[w1.heap.size]? = some (.cells #[.int .i64 0, .int .u8 116, .bool vb, .bool upB, .bool quB, .bool det, .bool daB, .bool baB, .bool thB, .int .i64 2, .int .i64 0, .string ⟨#[]⟩, .string arc, .slice a3 n3 k3] 27 (0, 0))) ∧ Hid (Kq w1.heap.size W4 wx))
  case first =>
    have c7 := cell_rowK (HQ14.out.keeps (by have := HSZ.out; omega) HPC4.out) 7 _ rfl
    have d1 := cell_rowK HS14.out 1 _ rfl
    cases bare with
    | false =>
      have eB : baB = false := HF.out.2.2.2.2.1
      go_wp2_with (refine wpList_store_kz rfl rfl _ _ _ rfl w1.heap.size 7 (.bool false) rfl rfl _ _ #[.int .i64 0, .int .u8 116, .bool vb, .bool upB, .bool quB, .bool det, .bool daB, .bool false, .bool thB, .int .i64 2, .int .i64 0, .string ⟨#[]⟩, .string arc, .slice a3 n3 k3] HS14.out (by kernel_rfl) rfl rfl rfl ?_; intro W9 S9 q9)
      go_meet
      case rel => exact ⟨by rw [eB]; exact S9, HQ14.out.two q9⟩
    | true =>
      have eB : baB = false := HF.out.2.2.2.2.1
      go_wp2_with (first | (go_at_call 19; refine (H3.out _).mono ?_; rintro e w9 ⟨rfl, hw9⟩; rw [hw9]; clear hw9) | (refine wpList_store_kz rfl rfl _ _ _ rfl w1.heap.size 7 (.bool false) rfl rfl _ _ #[.int .i64 0, .int .u8 116, .bool vb, .bool upB, .bool quB, .bool det, .bool daB, .bool false, .bool thB, .int .i64 2, .int .i64 0, .string ⟨#[]⟩, .string arc, .slice a3 n3 k3] HS14.out (by kernel_rfl) rfl rfl rfl ?_; intro W9 S9 q9))
      go_meet
      case rel => exact ⟨by rw [eB]; exact S9, HQ14.out.two q9⟩
  case rest =>
  obtain ⟨HS15, HQ15⟩ := hcut
  clear HS14 HQ14
  have d1 := cell_rowK HS15.out 1 _ rfl
  have c10 := cell_rowK (HQ15.out.keeps (by have := HSZ.out; omega) HPC4.out) 10 _ rfl
  have c12 := cell_rowK (HQ15.out.keeps (by have := HSZ.out; omega) HPC4.out) 12 _ rfl
  have HR9 := hidK (HQ15.out.keeps (by have := HSZ.out; omega) HPR4.out)
  have hmr := HF.out.2.2.2.2.2
  obtain ⟨e1, e2, e3⟩ := HNO.out (fun q => by rw [hmr] at q; cases q.1)
  have E1 := hidK e1
  have E2 := hidK e2
  have E3 := hidK e3
  clear HPO HNO e1 e2 e3 hmr
  go_upto_region 18 with (go_at_call 19; refine (H4.out _).mono ?_; rintro e w9 ⟨rfl, hw9⟩; rw [hw9]; clear hw9)
  go_upto_region 19 with (first
    | (go_at_call 20; refine (HUB.out _).mono ?_; rintro e w9 ⟨rfl, hw9⟩; rw [hw9]; clear hw9)
    | (refine wpList_store_kz rfl rfl _ _ _ rfl w1.heap.size 12 (.string ub) rfl rfl _ _ #[.int .i64 0, .int .u8 116, .bool vb, .bool upB, .bool quB, .bool det, .bool daB, .bool baB, .bool thB, .int .i64 2, .int .i64 0, .string ⟨#[]⟩, .string ub, .slice a3 n3 k3] HS15.out (by kernel_rfl) rfl rfl rfl ?_; intro W11 S11 q11))
  have HR11 := q11.keeps (by have := HSZ.out; omega) HR9.out
  clear c10 c12 d1
  go_wp2_with (first
    | (refine wpList_load_row rfl _ _ rfl w1.heap.size rfl _ #[.int .i64 0, .int .u8 116, .bool vb, .bool upB, .bool quB, .bool det, .bool daB, .bool baB, .bool thB, .int .i64 2, .int .i64 0, .string ⟨#[]⟩, .string ub, .slice a3 n3 k3] (0, 0) _ S11 Tryd.underlying27 rfl (by kernel_rfl) ?_)
    | (refine wpList_store_kz rfl rfl _ _ _ rfl (w.heap.size + 1) 0 (.agg #[.int .i64 0, .int .u8 116, .bool vb, .bool upB, .bool quB, .bool det, .bool daB, .bool baB, .bool thB, .int .i64 2, .int .i64 0, .string ⟨#[]⟩, .string ub, .slice a3 n3 k3]) rfl rfl _ _ #[.int .i64 0, .int .u8 116, .bool vb, .bool upB, .bool quB, .bool det, .bool daB, .bool baB, .bool thB, .int .i64 2, .int .i64 0, .string ⟨#[]⟩, .string ub, .slice a3 n3 k3] HR11 (by kernel_rfl) rfl rfl rfl ?_; intro W12 S12 q12))
  refine bodyPost_ret (results_cell15 rfl _ _ (w.heap.size + 1) _ _ _ _ rfl S12 Tryd.underlying27 rfl sizeCm) rfl ?_
  refine ⟨.slice a3 n3 k3, ?_, ?_, ?_⟩
  · rw [E1.out, E2.out, E3.out]
  · exact OwnT.le (own_kqK (t := 27) (own_kqK (t := 27) (own_kqK (t := 27) HO4.out HQ15.out HS40.out (by decide)) q11 HS15.out (by decide)) q12 (q11.keeps (by have := HSZ.out; omega) HR9.out) (by decide)) (Nat.le_trans hB1.size (Nat.le_of_lt hg2))
  · exact q12.belowN (q11.belowN (HQ15.out.belowN (hB1.trans (HB4.out.mono hB1.size)) hB1.size (Nat.le_refl _)) hB1.size (Nat.le_refl _)) (by omega) (Nat.le_refl _)
end Go.Proofs.YtmhamlhmmkbkaaaDoor

-- in, oneOf, dashed, given, on the document's side.
namespace Go.Proofs.YtmhamlhmmkbkaaaDoor
open Go.ChangeShapes Go.WideShapes Go.ChangeAt Go.RowKit
set_option linter.unusedVariables false
set_option maxRecDepth 100000
set_option linter.unusedSimpArgs false
set_option maxHeartbeats 2000000 in
theorem oneOf_c (b : UInt8) (s : ByteArray) (w : World) (hs : s.size ≤ 1048576) :
    Calls Tryd.prog 19 #[.int .u8 (b.toNat : Int), .string s] w fun e w' => e = .returned (.bool ((byL s).contains b)) ∧ w' = w := by
  obtain ⟨n, hn⟩ : ∃ n : Int, n = (b.toNat : Int) := ⟨_, rfl⟩
  have HNB := hidK hn
  obtain ⟨R, hR⟩ : ∃ R, R = (byL s).contains b := ⟨_, rfl⟩
  have HR := hidK hR
  rw [← hn, ← hR]
  clear hn hR
  go_enter Tryd.func19, Tryd.ntmps19
  go_wp2
  go_loopw [5] (fun i wx => ∃ k : Nat, i = .int .i64 k ∧ k ≤ s.size ∧ Hid (((byL s).take k).contains b = false) ∧ wx = w) (fun i _ => s.size - (intOf i).toNat)
  case atStart => exact ⟨0, rfl, Nat.zero_le _, rfl, rfl⟩
  case round =>
    obtain ⟨k, rfl, hk1, hno, rfl⟩ := hrel
    by_cases hk : k < s.size
    · have kI : (k : Int) < (s.size : Int) := by omega
      have hidx := idxT s k hk
      have hg := getT s k hk
      have hkl : k < (byL s).length := by rw [byL_size]; exact hk
      have hsucc : ((byL s).take (k + 1)).contains b = ((s[k]'hk) == b || ((byL s).take k).contains b) := by
        rw [List.take_succ_eq_append_getElem hkl, ← hg]
        simp only [List.contains_eq_mem, List.mem_append, List.mem_singleton]
        rw [Bool.eq_iff_iff]
        simp only [decide_eq_true_eq, Bool.or_eq_true, beq_iff_eq]
        constructor
        · rintro (h | h)
          · exact .inr h
          · exact .inl h.symm
        · rintro (h | h)
          · exact .inr h.symm
          · exact .inl h
      have HS := hidK hsucc
      by_cases hb : s[k]'hk = b
      · have hRt : R = true := by
          rw [HR.out, List.contains_eq_mem]
          exact decide_eq_true (by rw [← hb, ← hg]; exact List.getElem_mem hkl)
        subst hRt
        have e1 : ((s[k]'hk).toNat : Int) = n := by rw [hb]; exact HNB.out.symm
        obtain ⟨m, hm⟩ : ∃ m : Int, m = ((s[k]'hk).toNat : Int) := ⟨_, rfl⟩
        rw [← hm] at e1 hidx
        subst e1
        clear hm hg hsucc
        go_wp2
        go_ret
        exact ⟨rfl, rfl⟩
      · have e1 : (((s[k]'hk).toNat : Int) == n) = false := by rw [HNB.out]; exact u8I hb
        have HK : Hid (((byL s).take (k + 1)).contains b = false) := by
          show _ = _
          rw [HS.out, hno.out, beq_eq_false_iff_ne.2 hb]; rfl
        obtain ⟨m, hm⟩ : ∃ m : Int, m = ((s[k]'hk).toNat : Int) := ⟨_, rfl⟩
        rw [← hm] at e1 hidx
        clear hm hg hsucc hb
        go_wp2
        go_roundw
        case rel => exact ⟨k + 1, by go_num, by omega, HK, by first | trivial | rfl⟩
        case measure => simp [intOf]; omega
    · obtain rfl : k = s.size := by omega
      have hRf : R = false := by
        rw [HR.out]
        have := hno.out
        rw [List.take_of_length_le (by rw [byL_size]; exact Nat.le_refl _)] at this
        exact this
      subst hRf
      go_wp2
      go_ret
      exact ⟨rfl, rfl⟩
end Go.Proofs.YtmhamlhmmkbkaaaDoor

-- meant, whole.
namespace Go.Proofs.YtmhamlhmmkbkaaaDoor
open Go.ChangeShapes Go.WideShapes Go.ChangeAt Go.RowKit
set_option linter.unusedVariables false
set_option maxRecDepth 100000
set_option linter.unusedSimpArgs false
theorem opm15 (op n : UInt8) : ((op.toNat : Int) == (n.toNat : Int)) = (op == n) := by
  by_cases h : op = n
  · subst h; simp
  · rw [u8I h]; symm; exact beq_eq_false_iff_ne.2 h
theorem knownW (op : UInt8) : (byL ⟨#[100, 109, 112, 113, 114, 115, 116, 120]⟩).contains op = known op := by
  have : ∀ k : Fin 256, (byL ⟨#[100, 109, 112, 113, 114, 115, 116, 120]⟩).contains (UInt8.ofNat k.val) = known (UInt8.ofNat k.val) := by decide +kernel
  have h := this ⟨op.toNat, op.toNat_lt⟩
  simpa using h
theorem putW (op : UInt8) : (byL ⟨#[114, 113]⟩).contains op = (op == 114 || op == 113) := by
  have e : byL ⟨#[114, 113]⟩ = [114, 113] := rfl
  rw [e, List.contains_cons, List.contains_cons, List.contains_nil, Bool.or_false]
theorem chW (op : UInt8) : (byL ⟨#[100, 109, 113, 114]⟩).contains op = (op == 100 || op == 109 || op == 113 || op == 114) := by
  have e : byL ⟨#[100, 109, 113, 114]⟩ = [100, 109, 113, 114] := rfl
  rw [e, List.contains_cons, List.contains_cons, List.contains_cons, List.contains_cons, List.contains_nil, Bool.or_false, Bool.or_assoc, Bool.or_assoc]
theorem mrW (op : UInt8) : (byL ⟨#[109, 114]⟩).contains op = (op == 109 || op == 114) := by
  have e : byL ⟨#[109, 114]⟩ = [109, 114] := rfl
  rw [e, List.contains_cons, List.contains_cons, List.contains_nil, Bool.or_false]
theorem Meant_ok : MeantOk 13 := by
  intro c v w hR hl ha hb
  obtain ⟨an, nc, rfl, _⟩ := hR.form
  have h1 : ∀ W, Calls Tryd.prog 19 #[.int .u8 (c.op.toNat : Int), .string ⟨#[100, 109, 112, 113, 114, 115, 116, 120]⟩] W fun e w' => e = .returned (.bool (known c.op)) ∧ w' = W := fun W => by
    have h := oneOf_c c.op ⟨#[100, 109, 112, 113, 114, 115, 116, 120]⟩ W (by decide)
    rwa [knownW] at h
  have hub := fun W => undashed_c c.arc W (Nat.le_trans hb (by decide))
  have hua := fun W => undashed_c c.anc W (Nat.le_trans ha (by decide))
  by_cases hp : c.prog = 1
  · have e : meantC c = { cm0 with prog := 1, op := 115, det := c.det, arc := undL c.arc, nms := c.nms } := by unfold meantC; rw [if_pos hp]
    rw [e]
    obtain ⟨prog, op, vb, up, qu, det, dat, bare, thin, kind, wh, anc, arc, nms⟩ := c
    dsimp only at hp
    subst hp
    cases hk : known op with
    | true =>
      have h1 := h1
      dsimp only at h1
      rw [hk] at h1
      exact meant_rant (op.toNat : Int) kind wh vb up qu det dat bare thin anc arc an nms.length nc nms w hR hl (hidK h1) (undL arc) (hidK hub)
    | false =>
      have h1 := h1
      dsimp only at h1
      rw [hk] at h1
      exact meant_ranf (op.toNat : Int) kind wh vb up qu det dat bare thin anc arc an nms.length nc nms w hR hl (hidK h1) (undL arc) (hidK hub)
  · have e : meantC c = ⟨0, opM c, c.vb, upM c, quM c, c.det, daM c, baM c, thM c, kdM c, (if poM c = true then c.wh else 0), (if poM c = true then undL c.anc else ⟨#[]⟩), (if poM c = true then c.arc else undL c.arc), c.nms⟩ := by
      unfold meantC
      rw [if_neg hp]
      by_cases h : poM c = true
      · simp only [if_pos h]
      · simp only [if_neg h]
    rw [e]
    have hpo : ∀ mr : Bool, mr = (opM c == 109 || opM c == 114) → ((mr = true ∧ (c.wh = 1 ∨ c.wh = 2)) ↔ poM c = true) := by
      intro mr hmr
      subst hmr
      unfold poM
      simp only [Bool.and_eq_true, Bool.or_eq_true, beq_iff_eq]
    have hgp : (c.prog == 1) = false := beq_eq_false_iff_ne.2 hp
    cases hk : known c.op with
    | true =>
      rw [hk] at h1
      have eo : opM c = c.op := by unfold opM; rw [if_pos hk]
      have h2 : ∀ W, Calls Tryd.prog 19 #[.int .u8 (c.op.toNat : Int), .string ⟨#[114, 113]⟩] W fun e w' => e = .returned (.bool (putM c)) ∧ w' = W := fun W => by
        have h := oneOf_c c.op ⟨#[114, 113]⟩ W (by decide)
        rw [putW] at h
        unfold putM
        rwa [eo]
      have h3 : ∀ W, Calls Tryd.prog 19 #[.int .u8 (c.op.toNat : Int), .string ⟨#[100, 109, 113, 114]⟩] W fun e w' => e = .returned (.bool (opM c == 100 || opM c == 109 || opM c == 113 || opM c == 114)) ∧ w' = W := fun W => by
        have h := oneOf_c c.op ⟨#[100, 109, 113, 114]⟩ W (by decide)
        rw [chW] at h
        rwa [eo]
      have h4 : ∀ W, Calls Tryd.prog 19 #[.int .u8 (c.op.toNat : Int), .string ⟨#[109, 114]⟩] W fun e w' => e = .returned (.bool (opM c == 109 || opM c == 114)) ∧ w' = W := fun W => by
        have h := oneOf_c c.op ⟨#[109, 114]⟩ W (by decide)
        rw [mrW] at h
        rwa [eo]
      have e114 : ((c.op.toNat : Int) == 114) = (opM c == 114) := by rw [eo]; exact opm15 c.op 114
      have e120 : ((c.op.toNat : Int) == 120) = (opM c == 120) := by rw [eo]; exact opm15 c.op 120
      have hP := hpo _ rfl
      rw [eo] at h3 h4 e114 e120 hP ⊢
      have hup : upM c = ((c.up && c.op == 114) && !c.det) := by unfold upM; rw [eo]
      have hda : daM c = (c.dat && c.op == 120) := by unfold daM; rw [eo]
      have hba : baM c = (c.bare && (c.op == 100 || c.op == 109 || c.op == 113 || c.op == 114)) := by unfold baM; rw [eo]
      by_cases hkd : c.kind = 2
      · have ekd : kdM c = 2 := by unfold kdM; rw [if_pos hkd]
        have hth : thM c = (c.thin && putM c && false) := by unfold thM; rw [ekd]; rfl
        rw [ekd]
        generalize poM c = po at hP ⊢
        generalize upM c = up2 at hup ⊢
        generalize daM c = da2 at hda ⊢
        generalize baM c = ba2 at hba ⊢
        generalize thM c = th2 at hth ⊢
        have hqu : quM c = (c.qu && putM c) := rfl
        generalize quM c = qu2 at hqu ⊢
        generalize putM c = pu2 at hth hqu h2
        obtain ⟨prog, op, vb, up, qu, det, dat, bare, thin, kind, wh, anc, arc, nms⟩ := c
        dsimp only at hkd
        subst hkd
        refine meant_art2 prog (op.toNat : Int) wh vb up qu det dat bare thin anc arc an nms.length nc nms w hR hl hgp (hidK h1) _ _ _ _ _ _ _ _ _ _ e114 e120 (hidK h2) (hidK h3) (hidK h4) (hidK hup) (hidK hth) (hidK hqu) (hidK hda) (hidK hba) _ _ _ _ _ (hidK hua) (hidK hub) (hidK ?_) (hidK ?_)
        · intro q
          have h9 := hP.1 q
          subst h9
          exact ⟨rfl, rfl, rfl⟩
        · intro q
          cases po with
          | false => exact ⟨rfl, rfl, rfl⟩
          | true => exact absurd (hP.2 rfl) q
      · have ekd : kdM c = 0 := by unfold kdM; rw [if_neg hkd]
        have hth : thM c = (c.thin && putM c && true) := by unfold thM; rw [ekd]; rfl
        have hgk : (c.kind == 2) = false := beq_eq_false_iff_ne.2 hkd
        rw [ekd]
        generalize poM c = po at hP ⊢
        generalize upM c = up2 at hup ⊢
        generalize daM c = da2 at hda ⊢
        generalize baM c = ba2 at hba ⊢
        generalize thM c = th2 at hth ⊢
        have hqu : quM c = (c.qu && putM c) := rfl
        generalize quM c = qu2 at hqu ⊢
        generalize putM c = pu2 at hth hqu h2
        obtain ⟨prog, op, vb, up, qu, det, dat, bare, thin, kind, wh, anc, arc, nms⟩ := c
        refine meant_art0 prog (op.toNat : Int) kind wh vb up qu det dat bare thin anc arc an nms.length nc nms w hR hl hgp hgk (hidK h1) _ _ _ _ _ _ _ _ _ _ e114 e120 (hidK h2) (hidK h3) (hidK h4) (hidK hup) (hidK hth) (hidK hqu) (hidK hda) (hidK hba) _ _ _ _ _ (hidK hua) (hidK hub) (hidK ?_) (hidK ?_)
        · intro q
          have h9 := hP.1 q
          subst h9
          exact ⟨rfl, rfl, rfl⟩
        · intro q
          cases po with
          | false => exact ⟨rfl, rfl, rfl⟩
          | true => exact absurd (hP.2 rfl) q
    | false =>
      rw [hk] at h1
      have eo : opM c = 116 := by unfold opM; rw [if_neg (by rw [hk]; decide)]
      have h2 : ∀ W, Calls Tryd.prog 19 #[.int .u8 116, .string ⟨#[114, 113]⟩] W fun e w' => e = .returned (.bool false) ∧ w' = W := fun W => oneOf_c 116 ⟨#[114, 113]⟩ W (by decide)
      have h3 : ∀ W, Calls Tryd.prog 19 #[.int .u8 116, .string ⟨#[100, 109, 113, 114]⟩] W fun e w' => e = .returned (.bool false) ∧ w' = W := fun W => oneOf_c 116 ⟨#[100, 109, 113, 114]⟩ W (by decide)
      have h4 : ∀ W, Calls Tryd.prog 19 #[.int .u8 116, .string ⟨#[109, 114]⟩] W fun e w' => e = .returned (.bool false) ∧ w' = W := fun W => oneOf_c 116 ⟨#[109, 114]⟩ W (by decide)
      have hF : upM c = false ∧ thM c = false ∧ quM c = false ∧ daM c = false ∧ baM c = false ∧ (opM c == 109 || opM c == 114) = false := by
        unfold upM thM quM daM baM putM
        rw [eo]
        refine ⟨?_, ?_, ?_, ?_, ?_, rfl⟩
        · cases c.up <;> rfl
        · cases c.thin <;> rfl
        · cases c.qu <;> rfl
        · cases c.dat <;> rfl
        · cases c.bare <;> rfl
      have hP := hpo _ rfl
      have eoI : ((opM c).toNat : Int) = 116 := by rw [eo]; rfl
      have hpo0 : poM c = false := by
        unfold poM
        rw [hF.2.2.2.2.2]; rfl
      rw [hpo0]
      simp only [cmL]
      rw [eoI]
      by_cases hkd : c.kind = 2
      · have ekd : kdM c = 2 := by unfold kdM; rw [if_pos hkd]
        rw [ekd]
        generalize upM c = u1 at hF ⊢
        generalize thM c = u2 at hF ⊢
        generalize quM c = u3 at hF ⊢
        generalize daM c = u4 at hF ⊢
        generalize baM c = u5 at hF ⊢
        generalize (opM c == 109 || opM c == 114) = u6 at hF hP
        obtain ⟨prog, op, vb, up, qu, det, dat, bare, thin, kind, wh, anc, arc, nms⟩ := c
        dsimp only at hkd
        subst hkd
        exact meant_arf2 prog (op.toNat : Int) wh vb up qu det dat bare thin anc arc an nms.length nc nms w hR hl hgp (hidK h1) _ _ _ _ _ _ (hidK hF) (hidK h2) (hidK h3) (hidK h4) _ _ _ _ _ (hidK hua) (hidK hub) (hidK fun q => by have := hF.2.2.2.2.2; rw [this] at q; cases q.1) (hidK fun q => ⟨rfl, rfl, rfl⟩)
      · have ekd : kdM c = 0 := by unfold kdM; rw [if_neg hkd]
        have hgk : (c.kind == 2) = false := beq_eq_false_iff_ne.2 hkd
        rw [ekd]
        generalize upM c = u1 at hF ⊢
        generalize thM c = u2 at hF ⊢
        generalize quM c = u3 at hF ⊢
        generalize daM c = u4 at hF ⊢
        generalize baM c = u5 at hF ⊢
        generalize (opM c == 109 || opM c == 114) = u6 at hF hP
        obtain ⟨prog, op, vb, up, qu, det, dat, bare, thin, kind, wh, anc, arc, nms⟩ := c
        exact meant_arf0 prog (op.toNat : Int) kind wh vb up qu det dat bare thin anc arc an nms.length nc nms w hR hl hgp hgk (hidK h1) _ _ _ _ _ _ (hidK hF) (hidK h2) (hidK h3) (hidK h4) _ _ _ _ _ (hidK hua) (hidK hub) (hidK fun q => by have := hF.2.2.2.2.2; rw [this] at q; cases q.1) (hidK fun q => ⟨rfl, rfl, rfl⟩)
end Go.Proofs.YtmhamlhmmkbkaaaDoor
