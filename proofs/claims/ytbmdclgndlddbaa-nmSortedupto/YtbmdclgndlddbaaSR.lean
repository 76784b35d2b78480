
-- slices' rotation in place.
import Derived.Test.YtbmdclgndlddbaaSL
import Derived.Shelf.SlGeneric
namespace Go.Proofs.Ytbmdclgndlddbaa
open Go.ChangeShapes Go.WideShapes Go.ChangeAt Go.RowKit Go.Sort Go.Shelf Go.Lib
set_option linter.unusedVariables false
set_option maxRecDepth 100000
set_option linter.unusedSimpArgs false
theorem StL.e40 {P : Program} {k : Nat} (L : StL P k) : Enters P 30 := enters_of L.f40 (by kernel_rfl) rfl
theorem StL.e39 {P : Program} {k : Nat} (L : StL P k) : Enters P 29 := enters_of L.f39 (by kernel_rfl) rfl
theorem StL.e37 {P : Program} {k : Nat} (L : StL P k) : Enters P 27 := enters_of L.f37 (by kernel_rfl) rfl
theorem StL.e32 {P : Program} {k : Nat} (L : StL P k) : Enters P 22 := enters_of L.f32 (by kernel_rfl) rfl
section
variable {P : Program} {α : Type} [Inhabited α] {enc : α → List Value} {k : Nat} {w0 : World} {blk off : Nat} {d0 : Array α}
set_option maxHeartbeats 4000000 in
set_option maxRecDepth 1000000 in
theorem rotate_c (L : StL P k) (R : RowK enc k w0 blk off d0) (fv : Value) (cap : Nat) (hsz : d0.size < 4611686018427387904) {A X Y Z : List α} {a m b : Nat} {dk : Array α} {W : World} (hd : dk.toList = A ++ (X ++ (Y ++ Z))) (ha : A.length = a) (hx : a + X.length = m) (hy : m + Y.length = b) (hx0 : 0 < X.length) (hy0 : 0 < Y.length) (hW : SWK enc k w0 blk off dk W) (hs : dk.size = d0.size) :
    Calls P 29 #[.slice (some ⟨blk, off, none⟩) d0.size cap, .int .i64 a, .int .i64 m, .int .i64 b, fv] W fun e w' => e = .returned (.tuple #[]) ∧ ∃ d' : Array α, SWK enc k w0 blk off d' w' ∧ d'.toList = A ++ (Y ++ (X ++ Z)) := by
  have mixed := L.mixed; have t0 := L.t0; have a0 := L.a0; have z0 := L.z0; have v0 := L.v0; have t3 := L.t3; have a3 := L.a3; have z3 := L.z3; have v3 := L.v3; have t4 := L.t4; have a4 := L.a4; have z4 := L.z4; have v4 := L.v4; have tS := L.tS; have aS := L.aS; have zS := L.zS; have vS := L.vS; have aE := L.aE; have zE := L.zE
  have uS := run_underlying L.tS
  have e40 : ∀ args w, (callFunc 30 args).run P w = .ok (.enter 30 args) w := L.e40
  have F := L.f39
  have hlen : dk.size = A.length + X.length + Y.length + Z.length := by rw [← Array.length_toList, hd]; simp only [List.length_append]; omega
  obtain ⟨T, hT⟩ : ∃ T, T = A ++ (Y ++ (X ++ Z)) := ⟨_, rfl⟩
  have hrot : Rot T m X.length Y.length dk := by
    have := rot_start (P := A) (U := X) (V := Y) (Q := Z) hd
    rw [← hT, show A.length + X.length = m from by omega] at this
    exact this
  have HRT := hidK hrot
  have HW : Hid (SWK enc k w0 blk off dk W) := hW
  have HR : Hid (RowK enc k w0 blk off d0) := R
  have HL : Hid (StL P k) := L
  have HTT := hidK hT
  obtain ⟨i0, hi0⟩ : ∃ i0, i0 = X.length := ⟨_, rfl⟩
  obtain ⟨j0, hj0⟩ : ∃ j0, j0 = Y.length := ⟨_, rfl⟩
  rw [← hi0] at hx hx0 HRT
  rw [← hj0] at hy hy0 HRT
  have hbs : b ≤ d0.size := by omega
  have w1 : IntKind.i64.wrap ((m : Int) - (a : Int)) = (i0 : Int) := by rw [IntKind.wrap_i64]; omega
  have w2 : IntKind.i64.wrap ((b : Int) - (m : Int)) = (j0 : Int) := by rw [IntKind.wrap_i64]; omega
  have w3 : (m : Int) - (a : Int) = (i0 : Int) := by omega
  have w4 : (b : Int) - (m : Int) = (j0 : Int) := by omega
  have him : i0 ≤ m := by omega
  have hjm : m + j0 ≤ d0.size := by omega
  clear hd hW R L hT hrot hlen hi0 hj0 hx hy ha
  go_enter F, Try.ntmps29
  go_wp2
  go_loopw [10, 11] (fun vi vj wr => ∃ (i j : Nat) (di : Array α), vi = .int .i64 i ∧ vj = .int .i64 j ∧ 0 < i ∧ 0 < j ∧ i ≤ m ∧ m + j ≤ d0.size ∧ di.size = d0.size ∧ Hid (SWK enc k w0 blk off di wr) ∧ Hid (Rot T m i j di)) (fun vi vj _ => (intOf vi).toNat + (intOf vj).toNat)
  case atStart => exact ⟨i0, j0, dk, rfl, rfl, hx0, hy0, him, hjm, hs, HW, HRT⟩
  case round =>
    obtain ⟨i, j, di, rfl, rfl, hip, hjp, him', hjm', hsi, HWi, HRi⟩ := hrel
    clear w1 w2 w3 w4
    obtain ⟨mi, hmi⟩ : ∃ mi, mi = m - i := ⟨_, rfl⟩
    have wm : IntKind.i64.wrap ((m : Int) - (i : Int)) = (mi : Int) := by rw [IntKind.wrap_i64]; omega
    have wm2 : (m : Int) - (i : Int) = (mi : Int) := by omega
    by_cases hij : i = j
    · subst hij
      obtain ⟨A', X', Y', Z', q1, q2, q3, q4, q5, q6⟩ := rot_last HRi.out
      have hc := swapRange_c (b := m) HL.out HR.out fv cap hsz q1 q2 q3 (q4.trans hmi.symm) (by rw [hmi, ← q4]; exact q5) HWi.out hsi
      have HC := hidK hc
      have HQ : Hid (∀ d' : Array α, d'.toList = A' ++ (Y' ++ ([] ++ (X' ++ Z'))) → d'.toList = T) := q6
      have hne : ¬ ¬ ((i : Int) = (i : Int)) := by omega
      clear q1 q2 q3 q4 q5 q6 hc hmi
      go_wp2_with (go_at_fn 30; refine HC.out.mono ?_; rintro e wz ⟨rfl, dz, hwz, hdz⟩)
      go_end0
      exact ⟨rfl, dz, hwz, by rw [HQ.out _ hdz]; exact HTT.out⟩
    · have hne : ¬ ((i : Int) = (j : Int)) := by omega
      by_cases hlt : j < i
      · obtain ⟨A', X', M', Y', Z', q1, q2, q3, q4, q5, q6⟩ := rot_left HRi.out hlt
        have hc := swapRange_c (b := m) HL.out HR.out fv cap hsz q1 q2 q3 (q4.trans hmi.symm) (by rw [hmi, ← q4]; exact q5) HWi.out hsi
        have HC := hidK hc
        have HQ : Hid (∀ d' : Array α, d'.toList = A' ++ (Y' ++ (M' ++ (X' ++ Z'))) → Rot T m (i - j) j d') := q6
        have hsz' : Hid (∀ d' : Array α, d'.toList = A' ++ (Y' ++ (M' ++ (X' ++ Z'))) → d'.size = d0.size) := fun d' h => by
          rw [← hsi, ← Array.length_toList, ← Array.length_toList, h, q1]; simp only [List.length_append]; omega
        have hgt : (j : Int) < (i : Int) := by omega
        obtain ⟨i2, hi2⟩ : ∃ i2, i2 = i - j := ⟨_, rfl⟩
        have wi : IntKind.i64.wrap ((i : Int) - (j : Int)) = (i2 : Int) := by rw [IntKind.wrap_i64]; omega
        have wi2 : (i : Int) - (j : Int) = (i2 : Int) := by omega
        rw [← hi2] at HQ
        have hi3 : i2 + j = i := by omega
        clear q1 q2 q3 q4 q5 q6 hc hmi hi2
        go_wp2_with (go_at_fn 30; refine HC.out.mono ?_; rintro e wz ⟨rfl, dz, hwz, hdz⟩; have HWZ := hidK hwz; have HDZ := hidK hdz; clear hwz hdz)
        go_roundw
        case rel => exact ⟨i2, j, dz, rfl, rfl, by omega, hjp, by omega, hjm', hsz'.out _ HDZ.out, HWZ, HQ.out _ HDZ.out⟩
        case measure => simp [intOf]; omega
      · have hlt' : i < j := by omega
        obtain ⟨A', X', M', Y', Z', q1, q2, q3, q4, q5, q6⟩ := rot_right HRi.out hlt'
        obtain ⟨b2, hb2⟩ : ∃ b2, b2 = m + j - i := ⟨_, rfl⟩
        have hc := swapRange_c (b := b2) HL.out HR.out fv cap hsz q1 q2 q3 (q4.trans hmi.symm) (by rw [hmi, ← q4, hb2]; exact q5) HWi.out hsi
        have HC := hidK hc
        have HQ : Hid (∀ d' : Array α, d'.toList = A' ++ (Y' ++ (M' ++ (X' ++ Z'))) → Rot T m i (j - i) d') := q6
        have hsz' : Hid (∀ d' : Array α, d'.toList = A' ++ (Y' ++ (M' ++ (X' ++ Z'))) → d'.size = d0.size) := fun d' h => by
          rw [← hsi, ← Array.length_toList, ← Array.length_toList, h, q1]; simp only [List.length_append]; omega
        have hgt : ¬ ((j : Int) < (i : Int)) := by omega
        obtain ⟨j2, hj2⟩ : ∃ j2, j2 = j - i := ⟨_, rfl⟩
        have wj : IntKind.i64.wrap ((j : Int) - (i : Int)) = (j2 : Int) := by rw [IntKind.wrap_i64]; omega
        have wj2 : (j : Int) - (i : Int) = (j2 : Int) := by omega
        have wb : IntKind.i64.wrap ((m : Int) + (j : Int) - (i : Int)) = (b2 : Int) := by rw [IntKind.wrap_i64]; omega
        have wb2 : (m : Int) + (j : Int) - (i : Int) = (b2 : Int) := by omega
        have wb3 : IntKind.i64.wrap ((m : Int) + (j : Int)) = (m : Int) + (j : Int) := by rw [IntKind.wrap_i64]; omega
        rw [← hj2] at HQ
        have hj3 : j2 + i = j := by omega
        clear q1 q2 q3 q4 q5 q6 hc hmi hj2 hb2
        go_wp2_with (go_at_fn 30; refine HC.out.mono ?_; rintro e wz ⟨rfl, dz, hwz, hdz⟩; have HWZ := hidK hwz; have HDZ := hidK hdz; clear hwz hdz)
        go_roundw
        case rel => exact ⟨i, j2, dz, rfl, rfl, hip, by omega, him', by omega, hsz'.out _ HDZ.out, HWZ, HQ.out _ HDZ.out⟩
        case measure => simp [intOf]; omega
end
end Go.Proofs.Ytbmdclgndlddbaa
