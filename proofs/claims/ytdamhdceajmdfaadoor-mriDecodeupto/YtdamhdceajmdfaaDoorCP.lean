
-- commandOf (2): its walk.
import Derived.Test.YtdamhdceajmdfaaDoorCO
import Derived.Deep.RegionWith
namespace Go.Proofs.YtdamhdceajmdfaaDoor
open Go.ChangeShapes Go.WideShapes Go.ChangeAt Go.RowKit Go.MapKept
set_option linter.unusedVariables false
set_option maxRecDepth 100000
set_option linter.unusedSimpArgs false
def zMr : Array Value := #[.int .i64 0, .string ⟨#[]⟩, .slice none 0 0]
theorem info28 : (Tryd.prog.info? 28).map (·.size) = some 3 := by kernel_rfl
theorem info9c : (Tryd.prog.info? 9).map (·.size) = some 1 := by kernel_rfl
theorem info26c : (Tryd.prog.info? 26).map (·.size) = some 1 := by kernel_rfl
def cmdB (k kd : Nat) (n : ByteArray) (r : List ByteArray) : Sum Int Mr := match namesA r kd with
  | none => .inl 192
  | some ns => .inr ⟨k, n, ns⟩
def cmdN (k kd : Nat) : List ByteArray → Sum Int Mr
  | [] => .inl 192
  | y :: q => if isBr y then .inl 192 else cmdB k kd y q
theorem cmdA_bare {x : ByteArray} {r : List ByteArray} {k kd : Nat} (hk : verbN x = k) (h0 : 0 < k) (hkd : kindV k = kd) (hnb : namedV k = false) : cmdA (x :: r) = cmdB k kd ⟨#[]⟩ r := by
  unfold cmdA cmdB
  simp only [hk, hnb, hkd, Bool.false_eq_true, if_false]
  rw [if_neg (by omega)]
  cases namesA r kd with
  | none => rfl
  | some ns => rfl
theorem cmdA_named {x : ByteArray} {r : List ByteArray} {k kd : Nat} (hk : verbN x = k) (h0 : 0 < k) (hkd : kindV k = kd) (hnb : namedV k = true) : cmdA (x :: r) = cmdN k kd r := by
  unfold cmdA
  simp only [hk, hnb, hkd, if_true]
  rw [if_neg (by omega)]
  cases r with
  | nil => rfl
  | cons y q => rfl
theorem cmdB_no {k kd : Nat} {n : ByteArray} {r : List ByteArray} (h : namesA r kd = none) : cmdB k kd n r = .inl 192 := by unfold cmdB; rw [h]
theorem cmdB_yes {k kd : Nat} {n : ByteArray} {r ns : List ByteArray} (h : namesA r kd = some ns) : cmdB k kd n r = .inr ⟨k, n, ns⟩ := by unfold cmdB; rw [h]
theorem cmdN_br {k kd : Nat} {y : ByteArray} {q : List ByteArray} (h : isBr y = true) : cmdN k kd (y :: q) = .inl 192 := by rw [cmdN, if_pos h]
theorem cmdN_no {k kd : Nat} {y : ByteArray} {q : List ByteArray} (h : isBr y = false) : cmdN k kd (y :: q) = cmdB k kd y q := by rw [cmdN, if_neg (by simp [h])]

set_option maxHeartbeats 8000000 in
theorem cmd_none (x : ByteArray) (r : List ByteArray) (m b off cap : Nat) (w : World) (hT : VT w) (hx : x.size ≤ 33554432) (hk : verbN x = 0) (d1 : w.cell? ⟨b, off, none⟩ = some (.string x)) :
    Calls Tryd.prog 25 #[.slice (some ⟨b, off, none⟩) (m + 1) cap] w fun e w' => CmSays (cmdA (x :: r)) w e w' := by
  have HCM : Hid (cmdA (x :: r) = .inl 190) := by show _ = _; unfold cmdA; simp only [hk, if_true]
  have HN : Hid (∀ wx : World, Below w.heap.size w wx → Calls Tryd.prog 40 #[.string x] wx fun e w' => e = .returned (.int .i64 0) ∧ Below wx.heap.size wx w') := fun wx hb => by
    have := numberOf_c x wx (hT.up hb) hx
    rw [hk] at this
    exact this
  have HI : Hid (∀ wx, Calls Tryd.prog 32 #[.int .i64 0] wx fun e w' => e = .returned (.bool false) ∧ w' = wx) := fun wx => isVerb_c 0 wx
  have m1 : (0 : Int) < (m : Int) + 1 := by omega
  have d2 := cell_onG d1 (bupK (Below.refl _ w) (.cells zMr 28))
  unfold zMr at d2
  clear hk hT hx
  go_enter Tryd.func25, Tryd.ntmps25
  go_upto_region 3 with first | (go_at_call 40; refine (HN.out _ (bupK (Below.refl _ _) _)).mono ?_; rintro e w1 ⟨rfl, h1⟩) | (go_at_call 32; refine (HI.out _).mono ?_; rintro e w2 ⟨rfl, h2⟩; rw [h2]; clear h2)
  have R1 : Hid (w1.heap[w.heap.size]? = some (.cells zMr 28 (0, 0))) := hkeepK h1 (heap_alloc_new w _)
  have B1 : Hid (Below w.heap.size w w1) := bel3K (bupK (Below.refl _ _) _) h1
  clear h1 d1 d2 HN HI
  go_wp2_with (refine wpList_store_kz rfl rfl _ _ _ rfl w.heap.size 0 (.agg zMr) rfl rfl _ _ zMr R1.out info28 rfl rfl rfl ?_; intro W7 R7 q7)
  refine bodyPost_ret (results_cell_tmp_row19 rfl _ _ w.heap.size _ _ _ _ _ rfl rfl R7 Tryd.underlying28 rfl (by kernel_rfl)) rfl ?_
  exact ⟨q7.belowN B1.out (Nat.le_refl _) (Nat.le_refl _), mr0, 190, .slice none 0 0, rfl, ownT_nil _ _, .inr ⟨by decide, HCM.out, rfl⟩⟩
end Go.Proofs.YtdamhdceajmdfaaDoor
