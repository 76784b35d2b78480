
-- has, add.
import Derived.Test.YtnnpdomfkedhpaaST
import Derived.Maps.OwnOps
namespace Go.Proofs.Ytnnpdomfkedhpaa
open Go.ChangeShapes Go.WideShapes Go.ChangeAt Go.RowKit Go.MapKept
set_option linter.unusedVariables false
set_option maxRecDepth 100000
theorem mapS_u : Try.prog.underlying 60 = some (.map 9 77) := Try.underlying60
theorem mapP_u : Try.prog.underlying 63 = some (.map 56 77) := Try.underlying63
theorem mapN_u : Try.prog.underlying 67 = some (.map 3 3) := Try.underlying67
theorem zeroU (w : World) : (zeroValue 77).run Try.prog w = .ok (.agg #[]) w := by
  have : (Try.prog.info? 77).map (·.zero) = some (some (.agg #[])) := by kernel_rfl
  cases h : Try.prog.info? 77 with
  | none => simp [h] at this
  | some i => simp [h] at this; simp [zeroValue, typeInfo, h, this, Result.andThen]
theorem zeroN (w : World) : (zeroValue 3).run Try.prog w = .ok (.int .i64 0) w := by
  have : (Try.prog.info? 3).map (·.zero) = some (some (.int .i64 0)) := by kernel_rfl
  cases h : Try.prog.info? 3 with
  | none => simp [h] at this
  | some i => simp [h] at this; simp [zeroValue, typeInfo, h, this, Result.andThen]
theorem lookS {w : World} {b : Nat} {L : List ByteArray} (h : SetS w b (setF L)) (x : ByteArray) : (Instr.lookup 60 (.map (some b)) (.string x) true).run Try.prog w = .ok (.tuple #[.agg #[], .bool (isIn L x)]) w := by
  have := MpAt.look true h mapS_u keySt isSt injSt (zeroU w) x
  rw [setF_some, setF_getD] at this
  simpa using this
theorem lookP {w : World} {b : Nat} {L : List (Int × Int)} (h : SetP w b (setF L)) (x : Int × Int) : (Instr.lookup 63 (.map (some b)) (plV x) true).run Try.prog w = .ok (.tuple #[.agg #[], .bool (isIn L x)]) w := by
  have := MpAt.look true h mapP_u keyPl isPl injPl (zeroU w) x
  rw [setF_some, setF_getD] at this
  simpa using this
set_option maxHeartbeats 1000000 in
theorem hasS_c (b : Nat) (L : List ByteArray) (x : ByteArray) (w : World) (h : SetS w b (setF L)) :
    Calls Try.prog 22 #[.map (some b), .string x] w fun e w' => e = .returned (.bool (isIn L x)) ∧ Below w.heap.size w w' := by
  have hl := lookS h x
  generalize isIn L x = r at hl ⊢
  clear h
  go_enter Try.func22, Try.ntmps22
  go_wp2_with (at_lookup; refine wp_look _ rfl _ _ 60 true rfl _ _ _ rfl rfl hl ?_)
  go_ret
  exact ⟨rfl, (Below.refl _ _).alloc (Nat.le_refl _) _⟩
set_option maxHeartbeats 1000000 in
theorem hasP_c (b : Nat) (L : List (Int × Int)) (x y : Int) (w : World) (h : SetP w b (setF L)) :
    Calls Try.prog 28 #[.map (some b), .agg #[.int .i64 x, .int .i64 y]] w fun e w' => e = .returned (.bool (isIn L (x, y))) ∧ Below w.heap.size w w' := by
  have hl := lookP (h.on ((Below.refl _ _).alloc (Nat.le_refl _) (.cells #[.int .i64 x, .int .i64 y] 56))) (x, y)
  unfold plV at hl
  simp only at hl
  generalize isIn L (x, y) = r at hl ⊢
  clear h
  go_enter Try.func28, Try.ntmps28
  go_wp2_with (at_lookup; refine wp_look _ rfl _ _ 63 true rfl _ _ _ rfl rfl hl ?_)
  go_ret
  exact ⟨rfl, bupK ((Below.refl _ _).alloc (Nat.le_refl _) _) _⟩
set_option maxHeartbeats 1000000 in
theorem addS_c (b : Nat) (L : List ByteArray) (x : ByteArray) (w : World) (h : SetS w b (setF L)) :
    Calls Try.prog 23 #[.map (some b), .string x] w fun e w' => e = .returned (.tuple #[]) ∧ SetS w' b (setF (L ++ [x])) ∧ Kp (fun k => k = b) w w' := by
  obtain ⟨w3, hr3, h3, ht3⟩ := MpAt.store h mapS_u keySt isSt injSt x (.agg #[])
  have HK : Hid (SetS w3 b (setF (L ++ [x])) ∧ Kp (fun k => k = b) w w3) := ⟨h3.congr (setF_add L x), ht3.kp rfl⟩
  clear h h3 ht3
  go_enter Try.func23, Try.ntmps23
  go_wp2_with (at_mapUpdate; refine wp_store _ rfl _ _ _ 60 rfl _ _ _ rfl rfl rfl w3 hr3 ?_)
  go_end0
  exact ⟨rfl, HK.out⟩
set_option maxHeartbeats 1000000 in
theorem addP_c (b : Nat) (L : List (Int × Int)) (x y : Int) (w : World) (h : SetP w b (setF L)) :
    Calls Try.prog 24 #[.map (some b), .agg #[.int .i64 x, .int .i64 y]] w fun e w' => e = .returned (.tuple #[]) ∧ SetP w' b (setF (L ++ [(x, y)])) ∧ Kp (fun k => k = b) w w' := by
  obtain ⟨w3, hr3, h3, ht3⟩ := MpAt.store (h.on ((Below.refl _ _).alloc (Nat.le_refl _) (.cells #[.int .i64 x, .int .i64 y] 56))) mapP_u keyPl isPl injPl (x, y) (.agg #[])
  have HK : Hid (SetP w3 b (setF (L ++ [(x, y)])) ∧ Kp (fun k => k = b) w w3) := ⟨h3.congr (setF_add L (x, y)), ((Kp.refl _ w).alloc _).trans (ht3.kp rfl)⟩
  unfold plV at hr3
  simp only at hr3
  clear h h3 ht3
  go_enter Try.func24, Try.ntmps24
  go_wp2_with (at_mapUpdate; refine wp_store _ rfl _ _ _ 63 rfl _ _ _ rfl rfl rfl w3 hr3 ?_)
  go_end0
  exact ⟨rfl, HK.out⟩
end Go.Proofs.Ytnnpdomfkedhpaa
