
-- What slices' stable sort is told of a program; two rows change places.
import Derived.Test.YtbmdclgndlddbaaSY
import Derived.Test.YtbmdclgndlddbaaA0
import Derived.Shelf.SlSortCmp.KitK
namespace Go.Proofs.Ytbmdclgndlddbaa
open Go.ChangeShapes Go.WideShapes Go.ChangeAt Go.RowKit Go.Sort Go.Shelf Go.Lib
set_option linter.unusedVariables false
set_option maxRecDepth 100000
set_option linter.unusedSimpArgs false
structure StL (P : Program) (k : Nat) : Prop where
  mixed : P.follows .mixedOrders = true
  f32 : P.funcs[22]? = some Try.f22
  f37 : P.funcs[27]? = some Try.f27
  f39 : P.funcs[29]? = some Try.f29
  f40 : P.funcs[30]? = some Try.f30
  t0 : P.underlying 0 = some (.tuple #[])
  a0 : ∀ w, (isAgg 0).run P w = .ok false w
  z0 : ∀ w, (Go.sizeOf 0).run P w = .ok 1 w
  v0 : ∀ w, (zeroValue 0).run P w = .ok (.tuple #[]) w
  t3 : P.underlying 3 = some (.int .i64)
  a3 : ∀ w, (isAgg 3).run P w = .ok false w
  z3 : ∀ w, (Go.sizeOf 3).run P w = .ok 1 w
  v3 : ∀ w, (zeroValue 3).run P w = .ok (.int .i64 0) w
  t4 : P.underlying 4 = some .bool
  a4 : ∀ w, (isAgg 4).run P w = .ok false w
  z4 : ∀ w, (Go.sizeOf 4).run P w = .ok 1 w
  v4 : ∀ w, (zeroValue 4).run P w = .ok (.bool false) w
  tU : P.underlying 51 = some (.int .u64)
  aU : ∀ w, (isAgg 51).run P w = .ok false w
  zU : ∀ w, (Go.sizeOf 51).run P w = .ok 1 w
  vU : ∀ w, (zeroValue 51).run P w = .ok (.int .u64 0) w
  tS : P.underlying 22 = some (.slice 31)
  aS : ∀ w, (isAgg 22).run P w = .ok false w
  zS : ∀ w, (Go.sizeOf 22).run P w = .ok 1 w
  vS : ∀ w, (zeroValue 22).run P w = .ok (.slice none 0 0) w
  tC : P.underlying 40 = some (.func #[31, 31] #[3] false)
  aC : ∀ w, (isAgg 40).run P w = .ok false w
  zC : ∀ w, (Go.sizeOf 40).run P w = .ok 1 w
  vC : ∀ w, (zeroValue 40).run P w = .ok .nilFunc w
  aE : ∀ w, (isAgg 31).run P w = .ok true w
  zE : ∀ w, (Go.sizeOf 31).run P w = .ok k w
section
variable {P : Program} {α : Type} [Inhabited α] {enc : α → List Value} {k : Nat} {w0 : World} {blk off : Nat} {d0 : Array α}
set_option maxHeartbeats 4000000 in
set_option maxRecDepth 1000000 in
theorem swapRange_c (L : StL P k) (R : RowK enc k w0 blk off d0) (fv : Value) (cap : Nat) (hsz : d0.size < 4611686018427387904) {A X M Y Z : List α} {n a b : Nat} {dk : Array α} {W : World} (hd : dk.toList = A ++ (X ++ (M ++ (Y ++ Z)))) (hx : X.length = n) (hy : Y.length = n) (ha : A.length = a) (hb : a + n + M.length = b) (hW : SWK enc k w0 blk off dk W) (hs : dk.size = d0.size) :
    Calls P 30 #[.slice (some ⟨blk, off, none⟩) d0.size cap, .int .i64 a, .int .i64 b, .int .i64 n, fv] W fun e w' => e = .returned (.tuple #[]) ∧ ∃ d' : Array α, SWK enc k w0 blk off d' w' ∧ d'.toList = A ++ (Y ++ (M ++ (X ++ Z))) := by
  have mixed := L.mixed; have t0 := L.t0; have a0 := L.a0; have z0 := L.z0; have v0 := L.v0; have t3 := L.t3; have a3 := L.a3; have z3 := L.z3; have v3 := L.v3; have t4 := L.t4; have a4 := L.a4; have z4 := L.z4; have v4 := L.v4; have tS := L.tS; have aS := L.aS; have zS := L.zS; have vS := L.vS; have aE := L.aE; have zE := L.zE
  have uS := run_underlying L.tS
  have hsz0 : b + n ≤ d0.size := by
    rw [← hs, ← Array.length_toList, hd]
    simp only [List.length_append]; omega
  have HD := Hid (dk.toList = A ++ (X ++ (M ++ (Y ++ Z))))
  have HSW : Hid (SwR A X M Y Z 0 dk) := swR_start hd
  have HW : Hid (SWK enc k w0 blk off dk W) := hW
  have HX : Hid (X.length = n ∧ Y.length = n ∧ A.length = a ∧ A.length + n + M.length = b) := ⟨hx, hy, ha, by omega⟩
  have HR : Hid (RowK enc k w0 blk off d0) := R
  have F := L.f40
  clear hd hW hx hy ha hb R L HD
  go_enter F, Try.ntmps30
  go_wp2
  go_loopw [10] (fun vi wr => ∃ (i : Nat) (di : Array α), vi = .int .i64 i ∧ i ≤ n ∧ di.size = d0.size ∧ Hid (SWK enc k w0 blk off di wr) ∧ Hid (SwR A X M Y Z i di)) (fun vi _ => n - (intOf vi).toNat)
  case atStart => exact ⟨0, dk, rfl, Nat.zero_le _, hs, HW, HSW⟩
  case round =>
    obtain ⟨i, di, rfl, hin, hsi, HWi, HSi⟩ := hrel
    by_cases hlt : i < n
    · have hltz : (i : Int) < (n : Int) := by omega
      obtain ⟨x, y, _, _, gx, gy, HN⟩ := swR_get HX.out.1 HX.out.2.1 hlt HSi.out
      have hal : A.length = a := HX.out.2.2.1
      have hbl : A.length + n + M.length + i = b + i := by have := HX.out.2.2.2; omega
      rw [hbl, hal] at HN
      rw [hal] at gx
      rw [hbl] at gy
      have wa : IntKind.i64.wrap ((a : Int) + (i : Int)) = (a : Int) + (i : Int) := by rw [IntKind.wrap_i64]; omega
      have wb : IntKind.i64.wrap ((b : Int) + (i : Int)) = (b : Int) + (i : Int) := by rw [IntKind.wrap_i64]; omega
      have za : (a : Int) + (i : Int) < (d0.size : Int) := by omega
      have zb : (b : Int) + (i : Int) < (d0.size : Int) := by omega
      have za0 : (0 : Int) ≤ (a : Int) + (i : Int) := by omega
      have zb0 : (0 : Int) ≤ (b : Int) + (i : Int) := by omega
      have ea : ((a : Int) + (i : Int)).toNat = a + i := by omega
      have eb : ((b : Int) + (i : Int)).toNat = b + i := by omega
      have hAi : (a + i) < di.size := by omega
      have hBi : (b + i) < di.size := by omega
      have lb := HWi.out.ld1 HR.out hsi P (b + i) hBi
      have la := HWi.out.ld1 HR.out hsi P (a + i) hAi
      have s1 := HWi.out.st1 HR.out hsi P (a + i) hAi di[(b + i)]!
      have s2 := HWi.out.st2 HR.out hsi P (a + i) (b + i) hAi hBi di[(b + i)]! di[(a + i)]!
      have HSP := hidK (HWi.out.swapped HR.out (a + i) (b + i) hAi hBi)
      have HNN := hidK HN
      obtain ⟨cA, hcA⟩ : ∃ c, c = enc di[(a + i)]! := ⟨_, rfl⟩
      obtain ⟨cB, hcB⟩ : ∃ c, c = enc di[(b + i)]! := ⟨_, rfl⟩
      have hlA : cA.length = k := by rw [hcA]; exact HR.out.hk _
      have hlB : cB.length = k := by rw [hcB]; exact HR.out.hk _
      rw [← hcA] at la s2 HSP
      rw [← hcB] at lb s1 s2 HSP
      clear gx gy HN hal hbl hcA hcB
      go_wp2_with fail
      go_big_region_o
      all_goals go_wp2
      go_roundw
      case rel => exact ⟨i + 1, swp di (a + i) (b + i), by go_num, by omega, by rw [swp_size]; exact hsi, HSP, HNN⟩
      case measure => simp [intOf]; omega
    · obtain rfl : i = n := by omega
      have HE : Hid (di.toList = A ++ (Y ++ (M ++ (X ++ Z)))) := swR_end HX.out.1 HX.out.2.1 HSi.out
      have hltz : ¬ (i : Int) < (i : Int) := by omega
      go_wp2
      go_end0
      exact ⟨rfl, di, HWi.out, HE.out⟩
end
end Go.Proofs.Ytbmdclgndlddbaa
