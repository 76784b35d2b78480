
-- IndexFresh's walk.
import Derived.Test.YtcmldlcdgmmafaaDoorRD
import Derived.Test.YtcmldlcdgmmafaaDoorSE
import Derived.Test.YtcmldlcdgmmafaaDoorDL
import Derived.Test.YtcmldlcdgmmafaaDoorNS
import Derived.Test.YtcmldlcdgmmafaaDoorMK3
namespace Go.Proofs.YtcmldlcdgmmafaaDoor
open Go.ChangeShapes Go.WideShapes Go.ChangeAt Go.RowKit
set_option linter.unusedVariables false
set_option maxRecDepth 100000
def New11 (E : Int) (L : List En) (w : World) (e : Ending) (w' : World) : Prop :=
  Below w.heap.size w w' ∧ ∃ (v : Value), e = .returned (.tuple #[v, .int .i64 E]) ∧ w'.ownsRow w.heap.size 64 2 v L.length (cellsE L)
theorem new11_of {E : Int} {L : List En} {w : World} {e : Ending} {w' : World} (h : DecSays E L w e w') : New11 E L w e w' := by
  obtain ⟨a, n, c, he, ho, hb⟩ := h
  exact ⟨hb, _, he, ho⟩
theorem keptE {W W' : World} {B : Nat} {v : Value} {n : Nat} {xs : List Value} {r : Option Nat} (h : W.ownsRow B 64 2 v n xs) (hg : W.grownBy W' r) (hne : ∀ k, v.ownBlock = some k → B ≤ k → r ≠ some k) : W'.ownsRow B 64 2 v n xs := by
  refine h.kept hg ?_
  rcases e : v.ownBlock with _ | k
  · exact .inl rfl
  · exact .inr (fun e' => hne k e (h.lt k e).1 e'.symm)
structure K5 (h0 h1 h2 h3 h4 h5 h6 h7 : Nat) (c t z x y : Value) (La Lb : List En) (w0 W : World) : Prop where
  ord : h0 = w0.heap.size ∧ h0 ≤ h1 ∧ h1 ≤ h2 ∧ h2 ≤ h3 ∧ h3 ≤ h4 ∧ h4 ≤ h5 ∧ h5 ≤ h6 ∧ h6 ≤ h7
  big : h7 ≤ W.heap.size
  low : Below h0 w0 W
  rc : W.ownsRow h1 64 2 c La.length (cellsE La)
  bc : ∀ k, c.ownBlock = some k → k < h2
  rt : W.ownsRow h3 64 2 t Lb.length (cellsE Lb)
  bt : ∀ k, t.ownBlock = some k → k < h4
  rz : W.ownsRow h4 64 2 z La.length (cellsE La)
  bz : ∀ k, z.ownBlock = some k → k < h5
  rx : W.ownsRow h5 64 2 x La.length (cellsE La)
  bx : ∀ k, x.ownBlock = some k → k < h6
  ry : W.ownsRow h6 64 2 y Lb.length (cellsE Lb)
  cy : ∀ k, y.ownBlock = some k → k < h7
theorem K5.grown {h0 h1 h2 h3 h4 h5 h6 h7 : Nat} {c t z x y : Value} {La Lb : List En} {w0 W W' : World} {r : Option Nat} (h : K5 h0 h1 h2 h3 h4 h5 h6 h7 c t z x y La Lb w0 W) (hg : W.grownBy W' r) (hr : ∀ k, r = some k → (h0 ≤ k ∧ k < h1) ∨ (h2 ≤ k ∧ k < h3) ∨ h7 ≤ k) : K5 h0 h1 h2 h3 h4 h5 h6 h7 c t z x y La Lb w0 W' := by
  obtain ⟨o0, o1, o2, o3, o4, o5, o6, o7⟩ := h.ord
  have hb := h.big
  refine ⟨h.ord, Nat.le_trans h.big hg.size, h.low.grown hg (by omega) (fun k hk => by rcases hr k hk with h | h | h <;> omega), keptE h.rc hg ?_, h.bc, keptE h.rt hg ?_, h.bt, keptE h.rz hg ?_, h.bz, keptE h.rx hg ?_, h.bx, keptE h.ry hg ?_, h.cy⟩
  · intro k hk hB e; have := h.bc k hk; rcases hr k e with h | h | h <;> omega
  · intro k hk hB e; have := h.bt k hk; rcases hr k e with h | h | h <;> omega
  · intro k hk hB e; have := h.bz k hk; rcases hr k e with h | h | h <;> omega
  · intro k hk hB e; have := h.bx k hk; rcases hr k e with h | h | h <;> omega
  · intro k hk hB e; have := h.cy k hk; rcases hr k e with h | h | h <;> omega
theorem K5.drew {h0 h1 h2 h3 h4 h5 h6 h7 : Nat} {c t z x y : Value} {La Lb : List En} {w0 W : World} (h : K5 h0 h1 h2 h3 h4 h5 h6 h7 c t z x y La Lb w0 W) (n : Nat) : K5 h0 h1 h2 h3 h4 h5 h6 h7 c t z x y La Lb w0 (W.drewN n) :=
  ⟨h.ord, h.big, below_drewC h.low n, own_onK h.rc (below_drewC (Below.refl _ _) n), h.bc, own_onK h.rt (below_drewC (Below.refl _ _) n), h.bt, own_onK h.rz (below_drewC (Below.refl _ _) n), h.bz, own_onK h.rx (below_drewC (Below.refl _ _) n), h.bx, own_onK h.ry (below_drewC (Below.refl _ _) n), h.cy⟩
theorem grown_of_below {a b : World} (h : Below a.heap.size a b) : a.grownBy b none := ⟨h.os, h.tape, h.output, h.size, fun k hk _ => h.block k hk⟩
set_option maxHeartbeats 16000000 in
theorem indexFresh_w (f : Int) (s o : ByteArray) (w : World) (hs : s.size ≤ 1048576) (ho : o.size ≤ 1048576) (hX : MaxLenAt w) :
    Calls Tryd.prog 6 #[.int .i64 f, .string s, .string o] w fun e w' => e = .returned (.bool true) ∧ Below w.heap.size w w' := by
  have hla : (decL f s.data.toList).length ≤ 1048576 := by
    have h1 := decL_len f s.data.toList
    have h2 : s.data.toList.length = s.size := by simp
    omega
  have hlb : (decL f o.data.toList).length ≤ 1048576 := by
    have h1 := decL_len f o.data.toList
    have h2 : o.data.toList.length = o.size := by simp
    omega
  have HTa : Hid (∀ w, MaxLenAt w → Calls Tryd.prog 10 #[.int .i64 f, .string s] w (New11 (decE f s.data.toList) (decL f s.data.toList) w)) := fun w hx => (pdec_c f s w (by omega) hx).mono fun e w' h => new11_of h
  have HTb : Hid (∀ w, MaxLenAt w → Calls Tryd.prog 10 #[.int .i64 f, .string o] w (New11 (decE f o.data.toList) (decL f o.data.toList) w)) := fun w hx => (pdec_c f o w (by omega) hx).mono fun e w' h => new11_of h
  have HRa : Hid (∀ w, MaxLenAt w → Calls Tryd.prog 11 #[.int .i64 f, .string s] w (New11 (decE f s.data.toList) (decL f s.data.toList) w)) := fun w hx => (rdec_c f s w (by omega)).mono fun e w' h => new11_of h
  have HRb : Hid (∀ w, MaxLenAt w → Calls Tryd.prog 11 #[.int .i64 f, .string o] w (New11 (decE f o.data.toList) (decL f o.data.toList) w)) := fun w hx => (rdec_c f o w (by omega)).mono fun e w' h => new11_of h
  generalize decE f s.data.toList = Ea at *
  generalize decE f o.data.toList = Eb at *
  generalize decL f s.data.toList = La at *
  generalize decL f o.data.toList = Lb at *
  clear hs ho
  have HSM : Hid (∀ (va vb : Value) (L : List En) (w' : World), L.length ≤ 1048576 → RowE w' va L → RowE w' vb L → Calls Tryd.prog 12 #[va, vb] w' fun e w'' => e = .returned (.bool true) ∧ ∃ n, w'' = w'.drewN n) := fun va vb L w' hL h1 h2 => same11_c va vb L w' h1 h2 (by omega)
  have HX := hidK hX
  have hla4 := hidK (show La.length ≤ 1048576 from hla)
  have hlb4 := hidK (show Lb.length ≤ 1048576 from hlb)
  clear hX
  go_enter Tryd.func6, Tryd.ntmps6
  go_wp2_with fail
  refine (HTa.out _ (HX.out.on (Below.refl w.heap.size w))).mono ?_
  rintro e w1 ⟨hb1, a, rfl, ho1⟩
  have s1 := hb1.size
  have lo1 : Below w.heap.size w w1 := hb1
  go_wp2_with fail
  refine (HTa.out _ (HX.out.on lo1)).mono ?_
  rintro e w2 ⟨hb2, c, rfl, ho2⟩
  have s2 := hb2.size
  have lo2 : Below w.heap.size w w2 := bel3K lo1 hb2
  go_wp2_with fail
  refine (HTb.out _ (HX.out.on lo2)).mono ?_
  rintro e w3 ⟨hb3, b, rfl, ho3⟩
  have s3 := hb3.size
  have lo3 : Below w.heap.size w w3 := bel3K lo2 hb3
  go_wp2_with fail
  refine (HTb.out _ (HX.out.on lo3)).mono ?_
  rintro e w4 ⟨hb4, t, rfl, ho4⟩
  have s4 := hb4.size
  have lo4 : Below w.heap.size w w4 := bel3K lo3 hb4
  go_wp2_with fail
  refine (HTa.out _ (HX.out.on lo4)).mono ?_
  rintro e w5 ⟨hb5, z, rfl, ho5⟩
  have s5 := hb5.size
  have lo5 : Below w.heap.size w w5 := bel3K lo4 hb5
  go_wp2_with fail
  refine (HRa.out _ (HX.out.on lo5)).mono ?_
  rintro e w6 ⟨hb6, x, rfl, ho6⟩
  have s6 := hb6.size
  have lo6 : Below w.heap.size w w6 := bel3K lo5 hb6
  obtain ⟨aox, capx, hx, -⟩ := own_formE ho6
  go_wp2_with fail
  refine (HRb.out _ (HX.out.on lo6)).mono ?_
  rintro e w7 ⟨hb7, y, rfl, ho7⟩
  have s7 := hb7.size
  have lo7 : Below w.heap.size w w7 := bel3K lo6 hb7
  obtain ⟨aoy, capy, hy, -⟩ := own_formE ho7
  have K : K5 w.heap.size w1.heap.size w2.heap.size w3.heap.size w4.heap.size w5.heap.size w6.heap.size w7.heap.size c t z x y La Lb w w7 := ⟨⟨rfl, s1, s2, s3, s4, s5, s6, s7⟩, Nat.le_refl _, lo7, (own_onK (own_onK (own_onK (own_onK (own_onK ho2 hb3) hb4) hb5) hb6) hb7), (fun k hk => (ho2.lt k hk).2), (own_onK (own_onK (own_onK ho4 hb5) hb6) hb7), (fun k hk => (ho4.lt k hk).2), (own_onK (own_onK ho5 hb6) hb7), (fun k hk => (ho5.lt k hk).2), (own_onK ho6 hb7), (fun k hk => (ho6.lt k hk).2), ho7, (fun k hk => (ho7.lt k hk).2)⟩
  have HRU7 : Hid (w7.ownsRow w.heap.size 64 2 a La.length (cellsE La)) := (own_onK (own_onK (own_onK (own_onK (own_onK (own_onK ho1 hb2) hb3) hb4) hb5) hb6) hb7)
  have HRV7 : Hid (w7.ownsRow w2.heap.size 64 2 b Lb.length (cellsE Lb)) := (own_onK (own_onK (own_onK (own_onK ho3 hb4) hb5) hb6) hb7)
  have HU : Hid (∀ k, a.ownBlock = some k → w.heap.size ≤ k ∧ k < w1.heap.size) := fun k hk => ho1.lt k hk
  have HV : Hid (∀ k, b.ownBlock = some k → w2.heap.size ≤ k ∧ k < w3.heap.size) := fun k hk => ho3.lt k hk
  clear ho1 ho2 ho3 ho4 ho5 ho6 ho7 hb1 hb2 hb3 hb4 hb5 hb6 hb7 HRa HRb HTb lo1 lo2 lo3 lo4 lo5 lo6 lo7
  subst hx hy
  have HK7 : Hid (K5 w.heap.size w1.heap.size w2.heap.size w3.heap.size w4.heap.size w5.heap.size w6.heap.size w7.heap.size c t z (.slice aox La.length capx) (.slice aoy Lb.length capy) La Lb w w7) := K
  have HS : Hid (w.heap.size ≤ w1.heap.size ∧ w1.heap.size ≤ w2.heap.size ∧ w2.heap.size ≤ w3.heap.size ∧ w3.heap.size ≤ w7.heap.size) := ⟨s1, s2, s3, Nat.le_trans s4 (Nat.le_trans s5 (Nat.le_trans s6 s7))⟩
  clear K s1 s2 s3 s4 s5 s6 s7
  go_wp2_with fail
  refine (HSM.out _ _ La _ hla4.out (rowE_own HRU7.out) (rowE_own HK7.out.rx)).mono ?_
  rintro e w8 ⟨rfl, n8, hw⟩
  have HK8 : Hid (K5 w.heap.size w1.heap.size w2.heap.size w3.heap.size w4.heap.size w5.heap.size w6.heap.size w7.heap.size c t z (.slice aox La.length capx) (.slice aoy Lb.length capy) La Lb w w8) := (by rw [hw]; exact HK7.out.drew _)
  have HRU8 : Hid (w8.ownsRow w.heap.size 64 2 a La.length (cellsE La)) := (by rw [hw]; exact own_onK HRU7.out (below_drewC (Below.refl _ _) _))
  have HRV8 : Hid (w8.ownsRow w2.heap.size 64 2 b Lb.length (cellsE Lb)) := (by rw [hw]; exact own_onK HRV7.out (below_drewC (Below.refl _ _) _))
  clear hw
  go_wp2_with fail
  refine (HSM.out _ _ Lb _ hlb4.out (rowE_own HRV8.out) (rowE_own HK8.out.ry)).mono ?_
  rintro e w9 ⟨rfl, n9, hw⟩
  have HK9 : Hid (K5 w.heap.size w1.heap.size w2.heap.size w3.heap.size w4.heap.size w5.heap.size w6.heap.size w7.heap.size c t z (.slice aox La.length capx) (.slice aoy Lb.length capy) La Lb w w9) := (by rw [hw]; exact HK8.out.drew _)
  have HRU9 : Hid (w9.ownsRow w.heap.size 64 2 a La.length (cellsE La)) := (by rw [hw]; exact own_onK HRU8.out (below_drewC (Below.refl _ _) _))
  have HRV9 : Hid (w9.ownsRow w2.heap.size 64 2 b Lb.length (cellsE Lb)) := (by rw [hw]; exact own_onK HRV8.out (below_drewC (Below.refl _ _) _))
  clear hw
  go_wp2_with fail
  refine (mark11_c a La 1 _ w.heap.size HRU9.out (by have := HK9.out.ord; have := HK9.out.big; omega) (by have := hla4.out; omega)).mono ?_
  rintro e w10 ⟨rfl, lu, hlu, hmu, hou, hgu⟩
  have HK10 : Hid (K5 w.heap.size w1.heap.size w2.heap.size w3.heap.size w4.heap.size w5.heap.size w6.heap.size w7.heap.size c t z (.slice aox La.length capx) (.slice aoy Lb.length capy) La Lb w w10) := HK9.out.grown hgu (fun k hk => .inl (HU.out k hk))
  have HRU10 : Hid (w10.ownsRow w.heap.size 64 2 a La.length (cellsE lu)) := hou
  have HRV10 : Hid (w10.ownsRow w2.heap.size 64 2 b Lb.length (cellsE Lb)) := keptE HRV9.out hgu (fun k hk hB e => by have := HU.out k e; have := HS.out; omega)
  have HMU : Hid (lu.length = La.length ∧ Mks 1 lu) := ⟨hlu, hmu⟩
  clear hlu hmu hou hgu
  go_wp2_with fail
  refine (HSM.out _ _ Lb _ hlb4.out (rowE_own HRV10.out) (rowE_own HK10.out.ry)).mono ?_
  rintro e w11 ⟨rfl, n11, hw⟩
  have HK11 : Hid (K5 w.heap.size w1.heap.size w2.heap.size w3.heap.size w4.heap.size w5.heap.size w6.heap.size w7.heap.size c t z (.slice aox La.length capx) (.slice aoy Lb.length capy) La Lb w w11) := (by rw [hw]; exact HK10.out.drew _)
  have HRU11 : Hid (w11.ownsRow w.heap.size 64 2 a La.length (cellsE lu)) := (by rw [hw]; exact own_onK HRU10.out (below_drewC (Below.refl _ _) _))
  have HRV11 : Hid (w11.ownsRow w2.heap.size 64 2 b Lb.length (cellsE Lb)) := (by rw [hw]; exact own_onK HRV10.out (below_drewC (Below.refl _ _) _))
  clear hw
  go_wp2_with fail
  refine (HSM.out _ _ La _ hla4.out (rowE_own HK11.out.rc) (rowE_own HK11.out.rx)).mono ?_
  rintro e w12 ⟨rfl, n12, hw⟩
  have HK12 : Hid (K5 w.heap.size w1.heap.size w2.heap.size w3.heap.size w4.heap.size w5.heap.size w6.heap.size w7.heap.size c t z (.slice aox La.length capx) (.slice aoy Lb.length capy) La Lb w w12) := (by rw [hw]; exact HK11.out.drew _)
  have HRU12 : Hid (w12.ownsRow w.heap.size 64 2 a La.length (cellsE lu)) := (by rw [hw]; exact own_onK HRU11.out (below_drewC (Below.refl _ _) _))
  have HRV12 : Hid (w12.ownsRow w2.heap.size 64 2 b Lb.length (cellsE Lb)) := (by rw [hw]; exact own_onK HRV11.out (below_drewC (Below.refl _ _) _))
  clear hw
  go_wp2_with fail
  refine (HSM.out _ _ Lb _ hlb4.out (rowE_own HK12.out.rt) (rowE_own HK12.out.ry)).mono ?_
  rintro e w13 ⟨rfl, n13, hw⟩
  have HK13 : Hid (K5 w.heap.size w1.heap.size w2.heap.size w3.heap.size w4.heap.size w5.heap.size w6.heap.size w7.heap.size c t z (.slice aox La.length capx) (.slice aoy Lb.length capy) La Lb w w13) := (by rw [hw]; exact HK12.out.drew _)
  have HRU13 : Hid (w13.ownsRow w.heap.size 64 2 a La.length (cellsE lu)) := (by rw [hw]; exact own_onK HRU12.out (below_drewC (Below.refl _ _) _))
  have HRV13 : Hid (w13.ownsRow w2.heap.size 64 2 b Lb.length (cellsE Lb)) := (by rw [hw]; exact own_onK HRV12.out (below_drewC (Below.refl _ _) _))
  clear hw
  go_wp2_with fail
  refine (HSM.out _ _ La _ hla4.out (rowE_own HK13.out.rz) (rowE_own HK13.out.rx)).mono ?_
  rintro e w14 ⟨rfl, n14, hw⟩
  have HK14 : Hid (K5 w.heap.size w1.heap.size w2.heap.size w3.heap.size w4.heap.size w5.heap.size w6.heap.size w7.heap.size c t z (.slice aox La.length capx) (.slice aoy Lb.length capy) La Lb w w14) := (by rw [hw]; exact HK13.out.drew _)
  have HRU14 : Hid (w14.ownsRow w.heap.size 64 2 a La.length (cellsE lu)) := (by rw [hw]; exact own_onK HRU13.out (below_drewC (Below.refl _ _) _))
  have HRV14 : Hid (w14.ownsRow w2.heap.size 64 2 b Lb.length (cellsE Lb)) := (by rw [hw]; exact own_onK HRV13.out (below_drewC (Below.refl _ _) _))
  clear hw
  go_wp2_with fail
  refine (mark11_c b Lb 2 _ w2.heap.size HRV14.out (by have := HK14.out.ord; have := HK14.out.big; omega) (by have := hlb4.out; omega)).mono ?_
  rintro e w15 ⟨rfl, lv, hlv, hmv, hov, hgv⟩
  have HK15 : Hid (K5 w.heap.size w1.heap.size w2.heap.size w3.heap.size w4.heap.size w5.heap.size w6.heap.size w7.heap.size c t z (.slice aox La.length capx) (.slice aoy Lb.length capy) La Lb w w15) := HK14.out.grown hgv (fun k hk => .inr (.inl (HV.out k hk)))
  have HRV15 : Hid (w15.ownsRow w2.heap.size 64 2 b Lb.length (cellsE lv)) := hov
  have HRU15 : Hid (w15.ownsRow w.heap.size 64 2 a La.length (cellsE lu)) := keptE HRU14.out hgv (fun k hk hB e => by have := HU.out k hk; have := HV.out k e; have := HS.out; omega)
  have HMV : Hid (lv.length = Lb.length ∧ Mks 2 lv) := ⟨hlv, hmv⟩
  clear hlv hmv hov hgv
  go_wp2_with fail
  refine (HSM.out _ _ La _ hla4.out (rowE_own HK15.out.rc) (rowE_own HK15.out.rx)).mono ?_
  rintro e w16 ⟨rfl, n16, hw⟩
  have HK16 : Hid (K5 w.heap.size w1.heap.size w2.heap.size w3.heap.size w4.heap.size w5.heap.size w6.heap.size w7.heap.size c t z (.slice aox La.length capx) (.slice aoy Lb.length capy) La Lb w w16) := (by rw [hw]; exact HK15.out.drew _)
  have HRU16 : Hid (w16.ownsRow w.heap.size 64 2 a La.length (cellsE lu)) := (by rw [hw]; exact own_onK HRU15.out (below_drewC (Below.refl _ _) _))
  have HRV16 : Hid (w16.ownsRow w2.heap.size 64 2 b Lb.length (cellsE lv)) := (by rw [hw]; exact own_onK HRV15.out (below_drewC (Below.refl _ _) _))
  clear hw
  go_wp2_with fail
  refine (HSM.out _ _ Lb _ hlb4.out (rowE_own HK16.out.rt) (rowE_own HK16.out.ry)).mono ?_
  rintro e w17 ⟨rfl, n17, hw⟩
  have HK17 : Hid (K5 w.heap.size w1.heap.size w2.heap.size w3.heap.size w4.heap.size w5.heap.size w6.heap.size w7.heap.size c t z (.slice aox La.length capx) (.slice aoy Lb.length capy) La Lb w w17) := (by rw [hw]; exact HK16.out.drew _)
  have HRU17 : Hid (w17.ownsRow w.heap.size 64 2 a La.length (cellsE lu)) := (by rw [hw]; exact own_onK HRU16.out (below_drewC (Below.refl _ _) _))
  have HRV17 : Hid (w17.ownsRow w2.heap.size 64 2 b Lb.length (cellsE lv)) := (by rw [hw]; exact own_onK HRV16.out (below_drewC (Below.refl _ _) _))
  clear hw
  go_wp2_with fail
  refine (HSM.out _ _ La _ hla4.out (rowE_own HK17.out.rz) (rowE_own HK17.out.rx)).mono ?_
  rintro e w18 ⟨rfl, n18, hw⟩
  have HK18 : Hid (K5 w.heap.size w1.heap.size w2.heap.size w3.heap.size w4.heap.size w5.heap.size w6.heap.size w7.heap.size c t z (.slice aox La.length capx) (.slice aoy Lb.length capy) La Lb w w18) := (by rw [hw]; exact HK17.out.drew _)
  have HRU18 : Hid (w18.ownsRow w.heap.size 64 2 a La.length (cellsE lu)) := (by rw [hw]; exact own_onK HRU17.out (below_drewC (Below.refl _ _) _))
  have HRV18 : Hid (w18.ownsRow w2.heap.size 64 2 b Lb.length (cellsE lv)) := (by rw [hw]; exact own_onK HRV17.out (below_drewC (Below.refl _ _) _))
  clear hw
  go_wp2_with fail
  refine (grown11_c a lu 1 _ w.heap.size (by rw [HMU.out.1]; exact HRU18.out) HMU.out.2 (by have := HK18.out.ord; have := HK18.out.big; omega) (by rw [HMU.out.1]; have := hla4.out; omega)).mono ?_
  rw [HMU.out.1]
  rintro e w19 ⟨pv, lp, rfl, hlp, hmp, hop, hgp, hbp⟩
  have HK19 : Hid (K5 w.heap.size w1.heap.size w2.heap.size w3.heap.size w4.heap.size w5.heap.size w6.heap.size w7.heap.size c t z (.slice aox La.length capx) (.slice aoy Lb.length capy) La Lb w w19) := HK18.out.grown hgp (fun k hk => .inl (HU.out k hk))
  have HRV19 : Hid (w19.ownsRow w2.heap.size 64 2 b Lb.length (cellsE lv)) := keptE HRV18.out hgp (fun k hk hB e => by have := HU.out k e; have := HS.out; omega)
  have HPB : Hid (∀ i, pv.ownBlock = some i → (w.heap.size ≤ i ∧ i < w1.heap.size) ∨ w7.heap.size ≤ i) := fun i hi => by
    rcases hbp i hi with h | h
    · exact .inl (HU.out i h)
    · exact .inr (Nat.le_trans HK18.out.big h)
  obtain ⟨aop, capp, hpe, -⟩ := own_formE hop
  have HMP : Hid (lp.length = La.length + 64 ∧ Mks 1 lp) := ⟨hlp, hmp⟩
  have HRP19 : Hid (w19.ownsRow w.heap.size 64 2 pv (La.length + 64) (cellsE lp)) := hop
  clear hlp hmp hop hgp hbp
  go_wp2_with fail
  refine (grown11_c b lv 2 _ w2.heap.size (by rw [HMV.out.1]; exact HRV19.out) HMV.out.2 (by have := HK19.out.ord; have := HK19.out.big; omega) (by rw [HMV.out.1]; have := hlb4.out; omega)).mono ?_
  rw [HMV.out.1]
  rintro e w20 ⟨qv, lq, rfl, hlq, hmq, hoq, hgq, hbq⟩
  have HK20 : Hid (K5 w.heap.size w1.heap.size w2.heap.size w3.heap.size w4.heap.size w5.heap.size w6.heap.size w7.heap.size c t z (.slice aox La.length capx) (.slice aoy Lb.length capy) La Lb w w20) := HK19.out.grown hgq (fun k hk => .inr (.inl (HV.out k hk)))
  have HRP20 : Hid (w20.ownsRow w.heap.size 64 2 pv (La.length + 64) (cellsE lp)) := keptE HRP19.out hgq (fun k hk hB e => by
    have h1 := HV.out k e
    have h2 := HS.out
    rcases HPB.out k hk with h | h <;> omega)
  obtain ⟨aoq, capq, hqe, -⟩ := own_formE hoq
  have HMQ : Hid (lq.length = Lb.length + 64 ∧ Mks 2 lq) := ⟨hlq, hmq⟩
  have HRQ20 : Hid (w20.ownsRow w2.heap.size 64 2 qv (Lb.length + 64) (cellsE lq)) := hoq
  clear hlq hmq hoq hgq hbq HPB
  subst hpe hqe
  go_wp2_with fail
  refine (HTa.out _ (HX.out.on HK20.out.low)).mono ?_
  rintro e w21 ⟨hbn, again, rfl, hon⟩
  have HK21 : Hid (K5 w.heap.size w1.heap.size w2.heap.size w3.heap.size w4.heap.size w5.heap.size w6.heap.size w7.heap.size c t z (.slice aox La.length capx) (.slice aoy Lb.length capy) La Lb w w21) := HK20.out.grown (grown_of_below hbn) (fun k hk => by cases hk)
  have HRP21 : Hid (w21.ownsRow w.heap.size 64 2 (.slice aop (La.length + 64) capp) (La.length + 64) (cellsE lp)) := own_onK HRP20.out hbn
  have HRQ21 : Hid (w21.ownsRow w2.heap.size 64 2 (.slice aoq (Lb.length + 64) capq) (Lb.length + 64) (cellsE lq)) := own_onK HRQ20.out hbn
  obtain ⟨hg, hhg⟩ : ∃ hg, hg = w20.heap.size := ⟨_, rfl⟩
  rw [← hhg] at hon
  have HRG21 : Hid (w21.ownsRow hg 64 2 again La.length (cellsE La)) := hon
  clear hon hhg hbn
  go_wp2_with fail
  refine (HSM.out _ _ La _ hla4.out (rowE_own HK21.out.rc) (rowE_own HK21.out.rx)).mono ?_
  rintro e w22 ⟨rfl, n22, hw⟩
  have HK22 : Hid (K5 w.heap.size w1.heap.size w2.heap.size w3.heap.size w4.heap.size w5.heap.size w6.heap.size w7.heap.size c t z (.slice aox La.length capx) (.slice aoy Lb.length capy) La Lb w w22) := (by rw [hw]; exact HK21.out.drew _)
  have HRP22 : Hid (w22.ownsRow w.heap.size 64 2 (.slice aop (La.length + 64) capp) (La.length + 64) (cellsE lp)) := (by rw [hw]; exact own_onK HRP21.out (below_drewC (Below.refl _ _) _))
  have HRQ22 : Hid (w22.ownsRow w2.heap.size 64 2 (.slice aoq (Lb.length + 64) capq) (Lb.length + 64) (cellsE lq)) := (by rw [hw]; exact own_onK HRQ21.out (below_drewC (Below.refl _ _) _))
  have HRG22 : Hid (w22.ownsRow hg 64 2 again La.length (cellsE La)) := (by rw [hw]; exact own_onK HRG21.out (below_drewC (Below.refl _ _) _))
  clear hw
  go_wp2_with fail
  refine (HSM.out _ _ La _ hla4.out (rowE_own HRG22.out) (rowE_own HK22.out.rx)).mono ?_
  rintro e w23 ⟨rfl, n23, hw⟩
  have HK23 : Hid (K5 w.heap.size w1.heap.size w2.heap.size w3.heap.size w4.heap.size w5.heap.size w6.heap.size w7.heap.size c t z (.slice aox La.length capx) (.slice aoy Lb.length capy) La Lb w w23) := (by rw [hw]; exact HK22.out.drew _)
  have HRP23 : Hid (w23.ownsRow w.heap.size 64 2 (.slice aop (La.length + 64) capp) (La.length + 64) (cellsE lp)) := (by rw [hw]; exact own_onK HRP22.out (below_drewC (Below.refl _ _) _))
  have HRQ23 : Hid (w23.ownsRow w2.heap.size 64 2 (.slice aoq (Lb.length + 64) capq) (Lb.length + 64) (cellsE lq)) := (by rw [hw]; exact own_onK HRQ22.out (below_drewC (Below.refl _ _) _))
  have HRG23 : Hid (w23.ownsRow hg 64 2 again La.length (cellsE La)) := (by rw [hw]; exact own_onK HRG22.out (below_drewC (Below.refl _ _) _))
  clear hw
  have hfin : ((La.length : Int) + 64 + ((Lb.length : Int) + 64) == (La.length : Int) + (Lb.length : Int) + 128) = true := beq_iff_eq.2 (by omega)
  have hla5 := hla4.out
  have hlb5 := hlb4.out
  go_wp2_with fail
  refine (marked11_c _ lp 1 _ w.heap.size (by rw [HMP.out.1]; exact HRP23.out) HMP.out.2 (by rw [HMP.out.1]; omega)).mono ?_
  rintro e wA ⟨rfl, hw⟩
  subst hw
  go_wp2_with fail
  refine (marked11_c _ lq 2 _ w2.heap.size (by rw [HMQ.out.1]; exact HRQ23.out) HMQ.out.2 (by rw [HMQ.out.1]; omega)).mono ?_
  rintro e wA ⟨rfl, hw⟩
  subst hw
  go_wp2
  go_ret
  exact ⟨rfl, HK23.out.low⟩
end Go.Proofs.YtcmldlcdgmmafaaDoor
