
-- slices' stable sort.
import Derived.Test.YtbmdclgndlddbaaSF
namespace Go.Proofs.Ytbmdclgndlddbaa
open Go.ChangeShapes Go.WideShapes Go.ChangeAt Go.RowKit Go.Sort Go.Shelf Go.Lib
set_option linter.unusedVariables false
set_option maxRecDepth 100000
set_option linter.unusedSimpArgs false
section
variable {P : Program} {α : Type} [Inhabited α] {enc : α → List Value} {k : Nat} {w0 : World} {blk off : Nat} {d0 : Array α}
set_option maxHeartbeats 8000000 in
set_option maxRecDepth 1000000 in
theorem stable_c (L : StL P k) {g : Nat} {cb : Array Value} {C Ro : α → α → Prop} (cap : Nat) (hI : InsC P enc k w0 blk off d0 g cb cap C Ro) (hM : MrgC P enc k w0 blk off d0 g cb cap C Ro) (e36 : ∀ args w, (callFunc 26 args).run P w = .ok (.enter 26 args) w) (hsz : d0.size < 1152921504606846976) (hC0 : d0.toList.Pairwise C) {W : World} (hW : SWK enc k w0 blk off d0 W) :
    Calls P 22 #[.slice (some ⟨blk, off, none⟩) d0.size cap, .int .i64 d0.size, .func (.func g) #[] cb] W fun e w' => e = .returned (.tuple #[]) ∧ ∃ d' : Array α, SWK enc k w0 blk off d' w' ∧ d'.toList.Perm d0.toList ∧ d'.toList.Pairwise Ro := by
  have mixed := L.mixed; have t0 := L.t0; have a0 := L.a0; have z0 := L.z0; have v0 := L.v0; have t3 := L.t3; have a3 := L.a3; have z3 := L.z3; have v3 := L.v3; have t4 := L.t4; have a4 := L.a4; have z4 := L.z4; have v4 := L.v4; have tU := L.tU; have aU := L.aU; have zU := L.zU; have vU := L.vU; have tS := L.tS; have aS := L.aS; have zS := L.zS; have vS := L.vS; have tC := L.tC; have aC := L.aC; have zC := L.zC; have vC := L.vC; have aE := L.aE; have zE := L.zE
  have uS := run_underlying L.tS
  have F := L.f32
  have e37 : ∀ args w, (callFunc 27 args).run P w = .ok (.enter 27 args) w := L.e37
  have hl0 : d0.toList.length = d0.size := Array.length_toList
  have HI : Aside (InsC P enc k w0 blk off d0 g cb cap C Ro) := hI
  have HM : Aside (MrgC P enc k w0 blk off d0 g cb cap C Ro) := hM
  have HC0 : Aside (d0.toList.Pairwise C ∧ d0.toList.length = d0.size) := ⟨hC0, hl0⟩
  have HW : Aside (SWK enc k w0 blk off d0 W) := hW
  have HB : Aside (InsK Ro d0.toList d0.toList d0.size 20 0) := by
    have := insK_start Ro d0.toList 20
    rw [hl0] at this; exact this
  have HX : Aside (0 = 20 * 0 ∧ 20 = 20 * (0 + 1)) := ⟨rfl, rfl⟩
  clear hI hM hC0 hW L hl0
  go_enter F, Try.ntmps22
  go_wp2
  go_loopw [7, 8] (fun va vb wr => ∃ (t x y : Nat) (di : Array α), va = .int .i64 (x : Int) ∧ vb = .int .i64 (y : Int) ∧ di.size = d0.size ∧ x ≤ d0.size ∧ x + 20 ≤ y ∧ y ≤ x + 20 ∧ Aside (x = 20 * t ∧ y = 20 * (t + 1)) ∧ Aside (SWK enc k w0 blk off di wr) ∧ Aside (InsK Ro d0.toList di.toList d0.size 20 t)) (fun va _ _ => d0.size - (intOf va).toNat)
  case atStart => exact ⟨0, 0, 20, d0, rfl, rfl, rfl, Nat.zero_le _, by omega, by omega, ⟨rfl, rfl⟩, HW, HB⟩
  case round =>
    obtain ⟨t, x, y, di, rfl, rfl, hds, hxn, hxy1, hxy2, HXi, HWi, HBi⟩ := hrel
    clear HW HB HX
    by_cases hlt : y ≤ d0.size
    · have hltz : (y : Int) ≤ (d0.size : Int) := by omega
      have hsegC : (seg di.toList x y).Pairwise C := by
        have h1 := insK_seg HC0.out.2 HBi.out (b := y) (by rw [← HXi.out.1]; omega) hlt
        rw [← HXi.out.1] at h1
        rw [h1]; exact HC0.out.1.sublist (seg_sub _ _ _)
      have hc := HI.out (a := x) (b := y) (by omega) hlt hsegC HWi.out hds
      have HC := hidK hc
      have HNX : Hid (∀ d' : Array α, (∃ S, d'.toList = di.toList.take x ++ (S ++ di.toList.drop y) ∧ S.Perm (seg di.toList x y) ∧ S.Pairwise Ro) → InsK Ro d0.toList d'.toList d0.size 20 (t + 1)) := by
        rintro d' ⟨S, q1, q2, q3⟩
        have e1 := HXi.out.1
        have e2 := HXi.out.2
        rw [e1, e2] at q1 q2
        exact insK_step HC0.out.2 HBi.out (by omega) q1 q2 q3
      obtain ⟨y2, hy2⟩ : ∃ y2, y2 = y + 20 := ⟨_, rfl⟩
      have wy : IntKind.i64.wrap ((y : Int) + 20) = (y2 : Int) := by rw [IntKind.wrap_i64]; omega
      have wy2 : (y : Int) + 20 = (y2 : Int) := by omega
      have wy3 : IntKind.i64.wrap (y2 : Int) = (y2 : Int) := by rw [IntKind.wrap_i64]; omega
      have HX2 : Aside (y = 20 * (t + 1) ∧ y2 = 20 * (t + 1 + 1)) := ⟨HXi.out.2, by have := HXi.out.2; omega⟩
      have y2a : y + 20 ≤ y2 := by omega
      have y2b : y2 ≤ y + 20 := by omega
      clear hsegC hc hy2
      go_wp2_with (go_at_fn 26; refine HC.out.mono ?_; rintro e w1 ⟨rfl, d1, S1, g1⟩; have HS1 := hidK S1; have HG1 := hidK g1; clear S1 g1)
      go_roundw
      case rel =>
        have hI1 := HNX.out d1 HG1.out
        exact ⟨t + 1, y, y2, d1, rfl, rfl, by have := hI1.1; rwa [Array.length_toList] at this, hlt, y2a, y2b, HX2, HS1, hI1⟩
      case measure => simp [intOf]; omega
    · have hltz : ¬ (y : Int) ≤ (d0.size : Int) := by omega
      have hsegC : (seg di.toList x d0.size).Pairwise C := by
        have h1 := insK_seg HC0.out.2 HBi.out (b := d0.size) (by rw [← HXi.out.1]; omega) (Nat.le_refl _)
        rw [← HXi.out.1] at h1
        rw [h1]; exact HC0.out.1.sublist (seg_sub _ _ _)
      have hc := HI.out (a := x) (b := d0.size) (by omega) (Nat.le_refl _) hsegC HWi.out hds
      have HC := hidK hc
      have HNX : Hid (∀ d' : Array α, (∃ S, d'.toList = di.toList.take x ++ (S ++ di.toList.drop d0.size) ∧ S.Perm (seg di.toList x d0.size) ∧ S.Pairwise Ro) → BlkAll Ro d0.toList d'.toList d0.size 20) := by
        rintro d' ⟨S, q1, q2, q3⟩
        have e1 := HXi.out.1
        have e2 := HXi.out.2
        rw [e1] at q1 q2
        exact insK_last (by omega) HC0.out.2 HBi.out (by omega) q1 q2 q3
      clear hsegC hc
      go_wp2_with (go_at_fn 26; refine HC.out.mono ?_; rintro e w1 ⟨rfl, d1, S1, g1⟩; have HS1 := hidK S1; have HG1 := hidK g1; clear S1 g1)
      have HB1 := hidK (HNX.out d1 HG1.out)
      clear HNX HG1 HC HBi HWi HI HXi
      go_loopw [6, 7, 8] (fun v6 va vb wr => ∃ (s : Nat) (pa pb : Int) (dj : Array α), v6 = .int .i64 (s : Int) ∧ va = .int .i64 pa ∧ vb = .int .i64 pb ∧ 0 < s ∧ s ≤ 2 * d0.size + 20 ∧ Aside (SWK enc k w0 blk off dj wr) ∧ Hid (BlkAll Ro d0.toList dj.toList d0.size s)) (fun v6 _ _ _ => 2 * d0.size + 20 - (intOf v6).toNat)
      case atStart => exact ⟨20, _, _, d1, rfl, rfl, rfl, by omega, by omega, HS1, HB1⟩
      case round =>
        obtain ⟨s, pa, pb, dj, rfl, rfl, rfl, hs0, hsn, HWj, HBj⟩ := hrel
        clear HS1 HB1
        by_cases hlt : s < d0.size
        · have hltz : (s : Int) < (d0.size : Int) := by omega
          obtain ⟨s2, hs2⟩ : ∃ s2, s2 = 2 * s := ⟨_, rfl⟩
          have ws : IntKind.i64.wrap (2 * (s : Int)) = (s2 : Int) := by rw [IntKind.wrap_i64]; omega
          have ws2 : 2 * (s : Int) = (s2 : Int) := by omega
          have ws3 : IntKind.i64.wrap (s2 : Int) = (s2 : Int) := by rw [IntKind.wrap_i64]; omega
          have ws4 : (s : Int) * 2 = (s2 : Int) := by omega
          have ws5 : IntKind.i64.wrap ((s : Int) * 2) = (s2 : Int) := by rw [IntKind.wrap_i64]; omega
          have HS : Aside (s2 = 2 * s) := hs2
          have s2a : 2 * s ≤ s2 := by omega
          have s2b : s2 ≤ 2 * s := by omega
          have HM0 : Hid (MrgK Ro d0.toList dj.toList d0.size s 0) := mrgK_start HBj.out
          have HX0 : Aside (0 = 2 * s * 0 ∧ s2 = 2 * s * (0 + 1)) := ⟨by simp, by rw [hs2]; simp⟩
          clear hs2 HBj
          go_wp2
          go_loopw [7, 8] (fun va vb wr => ∃ (t x y : Nat) (di : Array α), va = .int .i64 (x : Int) ∧ vb = .int .i64 (y : Int) ∧ x ≤ d0.size ∧ x + s2 ≤ y ∧ y ≤ x + s2 ∧ Aside (x = 2 * s * t ∧ y = 2 * s * (t + 1)) ∧ Aside (SWK enc k w0 blk off di wr) ∧ Hid (MrgK Ro d0.toList di.toList d0.size s t)) (fun va _ _ => d0.size - (intOf va).toNat)
          case atStart => exact ⟨0, 0, s2, dj, rfl, rfl, Nat.zero_le _, by omega, by omega, HX0, HWj, HM0⟩
          case round =>
            obtain ⟨t, x, y, di, rfl, rfl, hxn, hxy1, hxy2, HXi, HWi, HMi⟩ := hrel
            clear HWj HM0 HX0
            have hds : di.size = d0.size := by have := HMi.out.1; rwa [Array.length_toList] at this
            obtain ⟨xm, hxm⟩ : ∃ xm, xm = x + s := ⟨_, rfl⟩
            have wx : IntKind.i64.wrap ((x : Int) + (s : Int)) = (xm : Int) := by rw [IntKind.wrap_i64]; omega
            have wx2 : (x : Int) + (s : Int) = (xm : Int) := by omega
            have wx3 : IntKind.i64.wrap (xm : Int) = (xm : Int) := by rw [IntKind.wrap_i64]; omega
            by_cases hy : y ≤ d0.size
            · have hyz : (y : Int) ≤ (d0.size : Int) := by omega
              obtain ⟨b1, b2, b3⟩ := mrgK_pair hs0 HMi.out (by rw [← HXi.out.2]; exact hy)
              rw [← HXi.out.1, ← hxm] at b1
              rw [← HXi.out.1, ← hxm, show x + 2 * s = y from by omega] at b2
              have hc := HM.out (a := x) (m := xm) (b := y) (by omega) (by omega) hy b1.2 b2.2 (blk_cross HC0.out.1 (by omega) (by omega) b1 b2) HWi.out hds
              have HC := hidK hc
              have HNX : Hid (∀ d' : Array α, (∃ S, d'.toList = di.toList.take x ++ (S ++ di.toList.drop y) ∧ S.Perm (seg di.toList x xm ++ seg di.toList xm y) ∧ S.Pairwise Ro) → MrgK Ro d0.toList d'.toList d0.size s (t + 1)) := by
                rintro d' ⟨S, q1, q2, q3⟩
                have e1 := HXi.out.1
                rw [show y = x + 2 * s from by omega, e1] at q1
                rw [show y = x + 2 * s from by omega, hxm, e1] at q2
                exact mrgK_step hs0 HMi.out (by rw [← HXi.out.2]; exact hy) q1 q2 q3
              obtain ⟨y2, hy2⟩ : ∃ y2, y2 = y + s2 := ⟨_, rfl⟩
              have wy : IntKind.i64.wrap ((y : Int) + (s2 : Int)) = (y2 : Int) := by rw [IntKind.wrap_i64]; omega
              have wy2 : (y : Int) + (s2 : Int) = (y2 : Int) := by omega
              have wy3 : IntKind.i64.wrap (y2 : Int) = (y2 : Int) := by rw [IntKind.wrap_i64]; omega
              have HX2 : Aside (y = 2 * s * (t + 1) ∧ y2 = 2 * s * (t + 1 + 1)) := ⟨HXi.out.2, by
                have e2 := HXi.out.2
                rw [Nat.mul_add (2 * s) (t + 1) 1, Nat.mul_one, ← e2, hy2, HS.out]⟩
              have y2a : y + s2 ≤ y2 := by omega
              have y2b : y2 ≤ y + s2 := by omega
              have x0 : x < y := by omega
              clear hc b1 b2 b3 hy2 hxm
              go_wp2_with (go_at_fn 27; refine HC.out.mono ?_; rintro e w1 ⟨rfl, d2, S1, g1⟩; have HS1 := hidK S1; have HG1 := hidK g1; clear S1 g1)
              go_roundw
              case rel => exact ⟨t + 1, y, y2, d2, rfl, rfl, hy, y2a, y2b, HX2, HS1, HNX.out d2 HG1.out⟩
              case measure => simp [intOf]; omega
            · have hyz : ¬ (y : Int) ≤ (d0.size : Int) := by omega
              by_cases hm : xm < d0.size
              · have hmz : (xm : Int) < (d0.size : Int) := by omega
                have hb : d0.size < 2 * s * (t + 1) := by rw [← HXi.out.2]; omega
                have hb2 : 2 * s * t + s < d0.size := by rw [← HXi.out.1]; omega
                have HBB : Blk Ro d0.toList di.toList x xm ∧ Blk Ro d0.toList di.toList xm d0.size := by
                  have e1 : s * (2 * t) = x := by rw [HXi.out.1]; exact (two_mul' s t).symm
                  have e2 : s * (2 * t + 1) = xm := by rw [Nat.mul_add, Nat.mul_one, e1, hxm]
                  have e4 : s * (2 * t + 1 + 1) = y := by rw [Nat.mul_add, Nat.mul_one, e2]; omega
                  have h1 := HMi.out.2.2.1 (2 * t) (Nat.le_refl _) (by omega)
                  have h2 := HMi.out.2.2.1 (2 * t + 1) (by omega) (by omega)
                  rw [e1, e2, Nat.min_eq_left (by omega)] at h1
                  rw [e2, e4, Nat.min_eq_right (by omega)] at h2
                  exact ⟨h1, h2⟩
                have hc := HM.out (a := x) (m := xm) (b := d0.size) (by omega) hm (Nat.le_refl _) HBB.1.2 HBB.2.2 (blk_cross HC0.out.1 (by omega) (by omega) HBB.1 HBB.2) HWi.out hds
                have HC := hidK hc
                have HNX : Hid (∀ d' : Array α, (∃ S, d'.toList = di.toList.take x ++ (S ++ di.toList.drop d0.size) ∧ S.Perm (seg di.toList x xm ++ seg di.toList xm d0.size) ∧ S.Pairwise Ro) → BlkAll Ro d0.toList d'.toList d0.size (2 * s)) := by
                  rintro d' ⟨S, q1, q2, q3⟩
                  have e1 := HXi.out.1
                  rw [hxm, e1] at q2
                  rw [e1] at q1
                  exact mrgK_odd hs0 HMi.out hb hb2 q1 q2 q3
                clear hc HBB hxm hb hb2
                go_wp2_with (go_at_fn 27; refine HC.out.mono ?_; rintro e w1 ⟨rfl, d2, S1, g1⟩; have HS1 := hidK S1; have HG1 := hidK g1; clear S1 g1)
                go_roundw
                case rel => exact ⟨s2, _, _, d2, rfl, rfl, rfl, by omega, by omega, HS1, by rw [HS.out]; exact HNX.out d2 HG1.out⟩
                case measure => simp [intOf]; omega
              · have hmz : ¬ (xm : Int) < (d0.size : Int) := by omega
                have HE : Hid (BlkAll Ro d0.toList di.toList d0.size (2 * s)) := mrgK_even hs0 HMi.out (by rw [← HXi.out.2]; omega) (by rw [← HXi.out.1]; omega)
                clear hxm
                go_wp2
                go_roundw
                case rel => exact ⟨s2, _, _, di, rfl, rfl, rfl, by omega, by omega, HWi, by rw [HS.out]; exact HE⟩
                case measure => simp [intOf]; omega
        · have hltz : ¬ (s : Int) < (d0.size : Int) := by omega
          go_wp2
          go_end0
          have hD := blk_done HC0.out.2 HBj.out (by omega)
          exact ⟨rfl, dj, HWj.out, hD.1, hD.2⟩
end
end Go.Proofs.Ytbmdclgndlddbaa
