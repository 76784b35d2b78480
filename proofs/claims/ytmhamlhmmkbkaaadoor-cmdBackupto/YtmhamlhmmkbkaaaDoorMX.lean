
-- misfit: the first letter that does not go with the rest.
import Derived.Test.YtmhamlhmmkbkaaaDoorMXS
namespace Go.Proofs.YtmhamlhmmkbkaaaDoor
open Go.ChangeShapes Go.WideShapes Go.ChangeAt Go.RowKit Go.MapKept Go.Shelf
set_option linter.unusedVariables false
set_option maxRecDepth 100000
set_option linter.unusedSimpArgs false
set_option maxHeartbeats 40000000 in
theorem misfit_b (prog on kind wh : Int) (vb up qu det dat bare thin : Bool) (anc arc p : ByteArray) (an : Option Addr) (nl nc : Nat) (mv pu ch pb : Bool) (w : World)
    (H1 : Hid (∀ W, Calls Tryd.prog 27 #[.int .u8 on, .string ⟨#[109, 114]⟩] W fun e w' => e = .returned (.bool mv) ∧ w' = W))
    (H2 : Hid (∀ W, Calls Tryd.prog 27 #[.int .u8 on, .string ⟨#[114, 113]⟩] W fun e w' => e = .returned (.bool pu) ∧ w' = W))
    (H3 : Hid (∀ W, Calls Tryd.prog 27 #[.int .u8 on, .string ⟨#[100, 109, 113, 114]⟩] W fun e w' => e = .returned (.bool ch) ∧ w' = W))
    (hpb : p.toList.isEmpty = !pb) :
    Calls Tryd.prog 38 #[.agg #[.int .i64 prog, .int .u8 on, .bool vb, .bool up, .bool qu, .bool det, .bool dat, .bool bare, .bool thin, .int .i64 kind, .int .i64 wh, .string anc, .string arc, .slice an nl nc], .string p] w fun e w' => e = .returned (.string (misV p (pb && !mv) (up && (on != 114)) (up && det) (thin && !pu) (thin && (kind == 2)) (dat && (on != 120)) (qu && !pu) (bare && !ch))) ∧ Below w.heap.size w w' := by
  obtain ⟨M, hM⟩ : ∃ M, M = misV p (pb && !mv) (up && (on != 114)) (up && det) (thin && !pu) (thin && (kind == 2)) (dat && (on != 120)) (qu && !pu) (bare && !ch) := ⟨_, rfl⟩
  have HM := hidK hM
  rw [← hM]
  clear hM
  have HE27 := hidK (enters_of Tryd.func27 (by kernel_rfl) rfl)
  obtain ⟨w1, hw1⟩ : ∃ w1, w.alloc (.cells #[.int .i64 prog, .int .u8 on, .bool vb, .bool up, .bool qu, .bool det, .bool dat, .bool bare, .bool thin, .int .i64 kind, .int .i64 wh, .string anc, .string arc, .slice an nl nc] 27) = w1 := ⟨_, rfl⟩
  have hP := heap_alloc_new w (.cells #[.int .i64 prog, .int .u8 on, .bool vb, .bool up, .bool qu, .bool det, .bool dat, .bool bare, .bool thin, .int .i64 kind, .int .i64 wh, .string anc, .string arc, .slice an nl nc] 27)
  have hB : Below w.heap.size w w1 := by rw [← hw1]; exact bupK (Below.refl _ _) _
  have hsz : w1.heap.size = w.heap.size + 1 := by rw [← hw1, World.size_alloc]
  rw [hw1] at hP
  have x1 := cell_rowK hP 1 _ rfl
  have x3 := cell_rowK hP 3 _ rfl
  have x4 := cell_rowK hP 4 _ rfl
  have x5 := cell_rowK hP 5 _ rfl
  have x6 := cell_rowK hP 6 _ rfl
  have x7 := cell_rowK hP 7 _ rfl
  have x8 := cell_rowK hP 8 _ rfl
  have x9 := cell_rowK hP 9 _ rfl
  go_enter Tryd.func38, Tryd.ntmps38
  go_upto_region 1 with fail
  try rw [hw1]
  clear hw1 hP
  go_cut [5] from 6 to 76 (fun s wx => ∃ b5, s = .pointer (some ⟨b5, 0, none⟩) ∧ wx.heap[b5]? = some (.cells #[.string p, .bool (pb && !mv), .string ⟨#[117]⟩, .bool (up && (on != 114)), .string ⟨#[117]⟩, .bool (up && det), .string ⟨#[84]⟩, .bool (thin && !pu), .string ⟨#[84]⟩, .bool (thin && (kind == 2)), .string ⟨#[111]⟩, .bool (dat && (on != 120)), .string ⟨#[99]⟩, .bool (qu && !pu), .string ⟨#[83]⟩, .bool (bare && !ch)] 72 (0, 0)) ∧ Below w.heap.size w wx)
  case first =>
    simp only [List.append]
    refine wp_region_noPanic ?_
    refine wp_region_held_drew (S := (mxS w on kind up qu det dat bare thin)) (by kernel_rfl) ⟨x1, x3, x4, x5, x6, x7, x8, x9, hB.drew⟩ (fun hHeld => ?_)
    clear x1 x3 x4 x5 x6 x7 x8 x9 hB
    refine mx_start w prog on kind wh vb up qu det dat bare thin anc arc p an nl nc mv pu ch pb _ (fun _ _ _ _ _ h => h) ?_ H1 H2 H3 HE27 hpb w1.drew hsz hHeld
    intro W9 S9 B9
    refine NoPanic.normal ?_
    unfold mxF4
    go_wp2
    go_meet
    case rel => exact ⟨_, rfl, S9, B9.2.2.2.2.2.2.2.2⟩
  case rest =>
    obtain ⟨b5, rfl, h5, hB5⟩ := hcut
    clear HE27 H1 H2 H3
    obtain ⟨m0, hm0⟩ : ∃ m : Bool, m = (pb && !mv) := ⟨_, rfl⟩
    obtain ⟨m1, hm1⟩ : ∃ m : Bool, m = (up && (on != 114)) := ⟨_, rfl⟩
    obtain ⟨m2, hm2⟩ : ∃ m : Bool, m = (up && det) := ⟨_, rfl⟩
    obtain ⟨m3, hm3⟩ : ∃ m : Bool, m = (thin && !pu) := ⟨_, rfl⟩
    obtain ⟨m4, hm4⟩ : ∃ m : Bool, m = (thin && (kind == 2)) := ⟨_, rfl⟩
    obtain ⟨m5, hm5⟩ : ∃ m : Bool, m = (dat && (on != 120)) := ⟨_, rfl⟩
    obtain ⟨m6, hm6⟩ : ∃ m : Bool, m = (qu && !pu) := ⟨_, rfl⟩
    obtain ⟨m7, hm7⟩ : ∃ m : Bool, m = (bare && !ch) := ⟨_, rfl⟩
    rw [← hm0, ← hm1, ← hm2, ← hm3, ← hm4, ← hm5, ← hm6, ← hm7] at h5
    have HM0 := hidK hm0
    have HM1 := hidK hm1
    have HM2 := hidK hm2
    have HM3 := hidK hm3
    have HM4 := hidK hm4
    have HM5 := hidK hm5
    have HM6 := hidK hm6
    have HM7 := hidK hm7
    clear hm0 hm1 hm2 hm3 hm4 hm5 hm6 hm7 hpb
    have HMM : Hid (M = misV p m0 m1 m2 m3 m4 m5 m6 m7) := by show _ = _; rw [HM.out, HM0.out, HM1.out, HM2.out, HM3.out, HM4.out, HM5.out, HM6.out, HM7.out]
    clear HM HM0 HM1 HM2 HM3 HM4 HM5 HM6 HM7
    go_wp2_with (refine wpList_load_row rfl _ _ rfl b5 rfl _ #[.string p, .bool m0, .string ⟨#[117]⟩, .bool m1, .string ⟨#[117]⟩, .bool m2, .string ⟨#[84]⟩, .bool m3, .string ⟨#[84]⟩, .bool m4, .string ⟨#[111]⟩, .bool m5, .string ⟨#[99]⟩, .bool m6, .string ⟨#[83]⟩, .bool m7] (0, 0) _ h5 Tryd.underlying72 rfl (by kernel_rfl) ?_)
    go_loopw [78] (fun i wx => ∃ k : Nat, i = .int .i64 k ∧ k ≤ 8 ∧ Below w.heap.size w wx ∧ Hid (∀ j, j < k → [m0, m1, m2, m3, m4, m5, m6, m7][j]? = some false)) (fun i _ => 8 - (intOf i).toNat)
    case atStart => exact ⟨0, rfl, by omega, hB5, fun j hj => absurd hj (by omega)⟩
    case round =>
      obtain ⟨k, rfl, hk, hBx, hF⟩ := hrel
      have hsx := hBx.size
      clear h5 hB5 hB
      have hcs : k = 0 ∨ k = 1 ∨ k = 2 ∨ k = 3 ∨ k = 4 ∨ k = 5 ∨ k = 6 ∨ k = 7 ∨ k = 8 := by omega
      have HB := hidK hBx
      clear hk hsx
      rcases hcs with rfl | rfl | rfl | rfl | rfl | rfl | rfl | rfl | rfl
      · cases hq : m0 with
        | true =>
          rw [hq] at HMM
          go_wp2_with (refine wp_idx rfl _ _ _ rfl (.agg #[.string p, .bool true, .string ⟨#[117]⟩, .bool m1, .string ⟨#[117]⟩, .bool m2, .string ⟨#[84]⟩, .bool m3, .string ⟨#[84]⟩, .bool m4, .string ⟨#[111]⟩, .bool m5, .string ⟨#[99]⟩, .bool m6, .string ⟨#[83]⟩, .bool m7]) (.int .i64 0) (.agg #[.string p, .bool true]) rfl rfl (by kernel_rfl) ?_)
          go_ret
          refine ⟨?_, ?_⟩
          · rw [HMM.out]; rfl
          · exact ((HB.out).alloc HB.out.size _)
        | false =>
          go_wp2_with (refine wp_idx rfl _ _ _ rfl (.agg #[.string p, .bool false, .string ⟨#[117]⟩, .bool m1, .string ⟨#[117]⟩, .bool m2, .string ⟨#[84]⟩, .bool m3, .string ⟨#[84]⟩, .bool m4, .string ⟨#[111]⟩, .bool m5, .string ⟨#[99]⟩, .bool m6, .string ⟨#[83]⟩, .bool m7]) (.int .i64 0) (.agg #[.string p, .bool false]) rfl rfl (by kernel_rfl) ?_)
          go_roundw
          case rel =>
            refine ⟨1, by go_num, by omega, ?_, ?_⟩
            · exact ((HB.out).alloc HB.out.size _)
            · intro j hj
              by_cases h9 : j < 0
              · have := hF.out j h9; rw [hq] at this; exact this
              · obtain rfl : j = 0 := by omega
                simp [hq]
          case measure => simp [intOf]
      · cases hq : m1 with
        | true =>
          rw [hq] at HMM
          go_wp2_with (refine wp_idx rfl _ _ _ rfl (.agg #[.string p, .bool m0, .string ⟨#[117]⟩, .bool true, .string ⟨#[117]⟩, .bool m2, .string ⟨#[84]⟩, .bool m3, .string ⟨#[84]⟩, .bool m4, .string ⟨#[111]⟩, .bool m5, .string ⟨#[99]⟩, .bool m6, .string ⟨#[83]⟩, .bool m7]) (.int .i64 1) (.agg #[.string ⟨#[117]⟩, .bool true]) rfl rfl (by kernel_rfl) ?_)
          go_ret
          have g0 : m0 = false := by have := hF.out 0 (by omega); simpa using this
          refine ⟨?_, ?_⟩
          · rw [HMM.out, g0]; rfl
          · exact ((HB.out).alloc HB.out.size _)
        | false =>
          go_wp2_with (refine wp_idx rfl _ _ _ rfl (.agg #[.string p, .bool m0, .string ⟨#[117]⟩, .bool false, .string ⟨#[117]⟩, .bool m2, .string ⟨#[84]⟩, .bool m3, .string ⟨#[84]⟩, .bool m4, .string ⟨#[111]⟩, .bool m5, .string ⟨#[99]⟩, .bool m6, .string ⟨#[83]⟩, .bool m7]) (.int .i64 1) (.agg #[.string ⟨#[117]⟩, .bool false]) rfl rfl (by kernel_rfl) ?_)
          go_roundw
          case rel =>
            refine ⟨2, by go_num, by omega, ?_, ?_⟩
            · exact ((HB.out).alloc HB.out.size _)
            · intro j hj
              by_cases h9 : j < 1
              · have := hF.out j h9; rw [hq] at this; exact this
              · obtain rfl : j = 1 := by omega
                simp [hq]
          case measure => simp [intOf]
      · cases hq : m2 with
        | true =>
          rw [hq] at HMM
          go_wp2_with (refine wp_idx rfl _ _ _ rfl (.agg #[.string p, .bool m0, .string ⟨#[117]⟩, .bool m1, .string ⟨#[117]⟩, .bool true, .string ⟨#[84]⟩, .bool m3, .string ⟨#[84]⟩, .bool m4, .string ⟨#[111]⟩, .bool m5, .string ⟨#[99]⟩, .bool m6, .string ⟨#[83]⟩, .bool m7]) (.int .i64 2) (.agg #[.string ⟨#[117]⟩, .bool true]) rfl rfl (by kernel_rfl) ?_)
          go_ret
          have g0 : m0 = false := by have := hF.out 0 (by omega); simpa using this
          have g1 : m1 = false := by have := hF.out 1 (by omega); simpa using this
          refine ⟨?_, ?_⟩
          · rw [HMM.out, g0, g1]; rfl
          · exact ((HB.out).alloc HB.out.size _)
        | false =>
          go_wp2_with (refine wp_idx rfl _ _ _ rfl (.agg #[.string p, .bool m0, .string ⟨#[117]⟩, .bool m1, .string ⟨#[117]⟩, .bool false, .string ⟨#[84]⟩, .bool m3, .string ⟨#[84]⟩, .bool m4, .string ⟨#[111]⟩, .bool m5, .string ⟨#[99]⟩, .bool m6, .string ⟨#[83]⟩, .bool m7]) (.int .i64 2) (.agg #[.string ⟨#[117]⟩, .bool false]) rfl rfl (by kernel_rfl) ?_)
          go_roundw
          case rel =>
            refine ⟨3, by go_num, by omega, ?_, ?_⟩
            · exact ((HB.out).alloc HB.out.size _)
            · intro j hj
              by_cases h9 : j < 2
              · have := hF.out j h9; rw [hq] at this; exact this
              · obtain rfl : j = 2 := by omega
                simp [hq]
          case measure => simp [intOf]
      · cases hq : m3 with
        | true =>
          rw [hq] at HMM
          go_wp2_with (refine wp_idx rfl _ _ _ rfl (.agg #[.string p, .bool m0, .string ⟨#[117]⟩, .bool m1, .string ⟨#[117]⟩, .bool m2, .string ⟨#[84]⟩, .bool true, .string ⟨#[84]⟩, .bool m4, .string ⟨#[111]⟩, .bool m5, .string ⟨#[99]⟩, .bool m6, .string ⟨#[83]⟩, .bool m7]) (.int .i64 3) (.agg #[.string ⟨#[84]⟩, .bool true]) rfl rfl (by kernel_rfl) ?_)
          go_ret
          have g0 : m0 = false := by have := hF.out 0 (by omega); simpa using this
          have g1 : m1 = false := by have := hF.out 1 (by omega); simpa using this
          have g2 : m2 = false := by have := hF.out 2 (by omega); simpa using this
          refine ⟨?_, ?_⟩
          · rw [HMM.out, g0, g1, g2]; rfl
          · exact ((HB.out).alloc HB.out.size _)
        | false =>
          go_wp2_with (refine wp_idx rfl _ _ _ rfl (.agg #[.string p, .bool m0, .string ⟨#[117]⟩, .bool m1, .string ⟨#[117]⟩, .bool m2, .string ⟨#[84]⟩, .bool false, .string ⟨#[84]⟩, .bool m4, .string ⟨#[111]⟩, .bool m5, .string ⟨#[99]⟩, .bool m6, .string ⟨#[83]⟩, .bool m7]) (.int .i64 3) (.agg #[.string ⟨#[84]⟩, .bool false]) rfl rfl (by kernel_rfl) ?_)
          go_roundw
          case rel =>
            refine ⟨4, by go_num, by omega, ?_, ?_⟩
            · exact ((HB.out).alloc HB.out.size _)
            · intro j hj
              by_cases h9 : j < 3
              · have := hF.out j h9; rw [hq] at this; exact this
              · obtain rfl : j = 3 := by omega
                simp [hq]
          case measure => simp [intOf]
      · cases hq : m4 with
        | true =>
          rw [hq] at HMM
          go_wp2_with (refine wp_idx rfl _ _ _ rfl (.agg #[.string p, .bool m0, .string ⟨#[117]⟩, .bool m1, .string ⟨#[117]⟩, .bool m2, .string ⟨#[84]⟩, .bool m3, .string ⟨#[84]⟩, .bool true, .string ⟨#[111]⟩, .bool m5, .string ⟨#[99]⟩, .bool m6, .string ⟨#[83]⟩, .bool m7]) (.int .i64 4) (.agg #[.string ⟨#[84]⟩, .bool true]) rfl rfl (by kernel_rfl) ?_)
          go_ret
          have g0 : m0 = false := by have := hF.out 0 (by omega); simpa using this
          have g1 : m1 = false := by have := hF.out 1 (by omega); simpa using this
          have g2 : m2 = false := by have := hF.out 2 (by omega); simpa using this
          have g3 : m3 = false := by have := hF.out 3 (by omega); simpa using this
          refine ⟨?_, ?_⟩
          · rw [HMM.out, g0, g1, g2, g3]; rfl
          · exact ((HB.out).alloc HB.out.size _)
        | false =>
          go_wp2_with (refine wp_idx rfl _ _ _ rfl (.agg #[.string p, .bool m0, .string ⟨#[117]⟩, .bool m1, .string ⟨#[117]⟩, .bool m2, .string ⟨#[84]⟩, .bool m3, .string ⟨#[84]⟩, .bool false, .string ⟨#[111]⟩, .bool m5, .string ⟨#[99]⟩, .bool m6, .string ⟨#[83]⟩, .bool m7]) (.int .i64 4) (.agg #[.string ⟨#[84]⟩, .bool false]) rfl rfl (by kernel_rfl) ?_)
          go_roundw
          case rel =>
            refine ⟨5, by go_num, by omega, ?_, ?_⟩
            · exact ((HB.out).alloc HB.out.size _)
            · intro j hj
              by_cases h9 : j < 4
              · have := hF.out j h9; rw [hq] at this; exact this
              · obtain rfl : j = 4 := by omega
                simp [hq]
          case measure => simp [intOf]
      · cases hq : m5 with
        | true =>
          rw [hq] at HMM
          go_wp2_with (refine wp_idx rfl _ _ _ rfl (.agg #[.string p, .bool m0, .string ⟨#[117]⟩, .bool m1, .string ⟨#[117]⟩, .bool m2, .string ⟨#[84]⟩, .bool m3, .string ⟨#[84]⟩, .bool m4, .string ⟨#[111]⟩, .bool true, .string ⟨#[99]⟩, .bool m6, .string ⟨#[83]⟩, .bool m7]) (.int .i64 5) (.agg #[.string ⟨#[111]⟩, .bool true]) rfl rfl (by kernel_rfl) ?_)
          go_ret
          have g0 : m0 = false := by have := hF.out 0 (by omega); simpa using this
          have g1 : m1 = false := by have := hF.out 1 (by omega); simpa using this
          have g2 : m2 = false := by have := hF.out 2 (by omega); simpa using this
          have g3 : m3 = false := by have := hF.out 3 (by omega); simpa using this
          have g4 : m4 = false := by have := hF.out 4 (by omega); simpa using this
          refine ⟨?_, ?_⟩
          · rw [HMM.out, g0, g1, g2, g3, g4]; rfl
          · exact ((HB.out).alloc HB.out.size _)
        | false =>
          go_wp2_with (refine wp_idx rfl _ _ _ rfl (.agg #[.string p, .bool m0, .string ⟨#[117]⟩, .bool m1, .string ⟨#[117]⟩, .bool m2, .string ⟨#[84]⟩, .bool m3, .string ⟨#[84]⟩, .bool m4, .string ⟨#[111]⟩, .bool false, .string ⟨#[99]⟩, .bool m6, .string ⟨#[83]⟩, .bool m7]) (.int .i64 5) (.agg #[.string ⟨#[111]⟩, .bool false]) rfl rfl (by kernel_rfl) ?_)
          go_roundw
          case rel =>
            refine ⟨6, by go_num, by omega, ?_, ?_⟩
            · exact ((HB.out).alloc HB.out.size _)
            · intro j hj
              by_cases h9 : j < 5
              · have := hF.out j h9; rw [hq] at this; exact this
              · obtain rfl : j = 5 := by omega
                simp [hq]
          case measure => simp [intOf]
      · cases hq : m6 with
        | true =>
          rw [hq] at HMM
          go_wp2_with (refine wp_idx rfl _ _ _ rfl (.agg #[.string p, .bool m0, .string ⟨#[117]⟩, .bool m1, .string ⟨#[117]⟩, .bool m2, .string ⟨#[84]⟩, .bool m3, .string ⟨#[84]⟩, .bool m4, .string ⟨#[111]⟩, .bool m5, .string ⟨#[99]⟩, .bool true, .string ⟨#[83]⟩, .bool m7]) (.int .i64 6) (.agg #[.string ⟨#[99]⟩, .bool true]) rfl rfl (by kernel_rfl) ?_)
          go_ret
          have g0 : m0 = false := by have := hF.out 0 (by omega); simpa using this
          have g1 : m1 = false := by have := hF.out 1 (by omega); simpa using this
          have g2 : m2 = false := by have := hF.out 2 (by omega); simpa using this
          have g3 : m3 = false := by have := hF.out 3 (by omega); simpa using this
          have g4 : m4 = false := by have := hF.out 4 (by omega); simpa using this
          have g5 : m5 = false := by have := hF.out 5 (by omega); simpa using this
          refine ⟨?_, ?_⟩
          · rw [HMM.out, g0, g1, g2, g3, g4, g5]; rfl
          · exact ((HB.out).alloc HB.out.size _)
        | false =>
          go_wp2_with (refine wp_idx rfl _ _ _ rfl (.agg #[.string p, .bool m0, .string ⟨#[117]⟩, .bool m1, .string ⟨#[117]⟩, .bool m2, .string ⟨#[84]⟩, .bool m3, .string ⟨#[84]⟩, .bool m4, .string ⟨#[111]⟩, .bool m5, .string ⟨#[99]⟩, .bool false, .string ⟨#[83]⟩, .bool m7]) (.int .i64 6) (.agg #[.string ⟨#[99]⟩, .bool false]) rfl rfl (by kernel_rfl) ?_)
          go_roundw
          case rel =>
            refine ⟨7, by go_num, by omega, ?_, ?_⟩
            · exact ((HB.out).alloc HB.out.size _)
            · intro j hj
              by_cases h9 : j < 6
              · have := hF.out j h9; rw [hq] at this; exact this
              · obtain rfl : j = 6 := by omega
                simp [hq]
          case measure => simp [intOf]
      · cases hq : m7 with
        | true =>
          rw [hq] at HMM
          go_wp2_with (refine wp_idx rfl _ _ _ rfl (.agg #[.string p, .bool m0, .string ⟨#[117]⟩, .bool m1, .string ⟨#[117]⟩, .bool m2, .string ⟨#[84]⟩, .bool m3, .string ⟨#[84]⟩, .bool m4, .string ⟨#[111]⟩, .bool m5, .string ⟨#[99]⟩, .bool m6, .string ⟨#[83]⟩, .bool true]) (.int .i64 7) (.agg #[.string ⟨#[83]⟩, .bool true]) rfl rfl (by kernel_rfl) ?_)
          go_ret
          have g0 : m0 = false := by have := hF.out 0 (by omega); simpa using this
          have g1 : m1 = false := by have := hF.out 1 (by omega); simpa using this
          have g2 : m2 = false := by have := hF.out 2 (by omega); simpa using this
          have g3 : m3 = false := by have := hF.out 3 (by omega); simpa using this
          have g4 : m4 = false := by have := hF.out 4 (by omega); simpa using this
          have g5 : m5 = false := by have := hF.out 5 (by omega); simpa using this
          have g6 : m6 = false := by have := hF.out 6 (by omega); simpa using this
          refine ⟨?_, ?_⟩
          · rw [HMM.out, g0, g1, g2, g3, g4, g5, g6]; rfl
          · exact ((HB.out).alloc HB.out.size _)
        | false =>
          go_wp2_with (refine wp_idx rfl _ _ _ rfl (.agg #[.string p, .bool m0, .string ⟨#[117]⟩, .bool m1, .string ⟨#[117]⟩, .bool m2, .string ⟨#[84]⟩, .bool m3, .string ⟨#[84]⟩, .bool m4, .string ⟨#[111]⟩, .bool m5, .string ⟨#[99]⟩, .bool m6, .string ⟨#[83]⟩, .bool false]) (.int .i64 7) (.agg #[.string ⟨#[83]⟩, .bool false]) rfl rfl (by kernel_rfl) ?_)
          go_roundw
          case rel =>
            refine ⟨8, by go_num, by omega, ?_, ?_⟩
            · exact ((HB.out).alloc HB.out.size _)
            · intro j hj
              by_cases h9 : j < 7
              · have := hF.out j h9; rw [hq] at this; exact this
              · obtain rfl : j = 7 := by omega
                simp [hq]
          case measure => simp [intOf]
      · go_wp2
        go_ret
        refine ⟨?_, HB.out⟩
        have g0 : m0 = false := by have := hF.out 0 (by omega); simpa using this
        have g1 : m1 = false := by have := hF.out 1 (by omega); simpa using this
        have g2 : m2 = false := by have := hF.out 2 (by omega); simpa using this
        have g3 : m3 = false := by have := hF.out 3 (by omega); simpa using this
        have g4 : m4 = false := by have := hF.out 4 (by omega); simpa using this
        have g5 : m5 = false := by have := hF.out 5 (by omega); simpa using this
        have g6 : m6 = false := by have := hF.out 6 (by omega); simpa using this
        have g7 : m7 = false := by have := hF.out 7 (by omega); simpa using this
        rw [HMM.out, g0, g1, g2, g3, g4, g5, g6, g7]; rfl

end Go.Proofs.YtmhamlhmmkbkaaaDoor
