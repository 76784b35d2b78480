
-- ElfFresh's walk.
import Derived.Test.YtoikagccopglkaaDoorSK3
import Derived.Test.YtoikagccopglkaaDoorJ3
namespace Go.Proofs.YtoikagccopglkaaDoor
open Go.ChangeShapes Go.WideShapes Go.ChangeAt Go.RowKit
set_option linter.unusedVariables false
set_option maxRecDepth 100000
def ofSec (s : Sec) : S8 := ⟨s.nm, s.ty, s.fl, s.li, s.inf, s.off, s.sz, s.en⟩
theorem ofSec_v (s : Sec) : (ofSec s).v = s.v.toList := rfl
def secL (n : Nat) (s : Nat → Sec) : List S8 := (List.range n).map (fun i => ofSec (s i))
theorem secL_len (n : Nat) (s : Nat → Sec) : (secL n s).length = n := by simp [secL]
theorem secL_flat (s : Nat → Sec) : ∀ n, (secL n s).flatMap S8.v = flat (fun i => (s i).v) n
  | 0 => rfl
  | n + 1 => by
    have ih := secL_flat s n
    unfold secL at ih ⊢
    rw [List.range_succ, List.map_append, List.flatMap_append, ih, flat]
    simp [ofSec_v]
def New5 (n : Nat) (s : Nat → Sec) (E : Int) (w : World) (e : Ending) (w' : World) : Prop :=
  Below w.heap.size w w' ∧ ∃ (v : Value), e = .returned (.tuple #[v, .int .i64 E]) ∧ SecsIn w.heap.size w' v n s
theorem own_lt5 {B : Nat} {w : World} {v : Value} {n : Nat} {s : Nat → Sec} (h : SecsIn B w v n s) (k : Nat) (hk : v.ownBlock = some k) : B ≤ k ∧ k < w.heap.size := h.lt k hk
theorem kept5 {W W' : World} {B : Nat} {v : Value} {n : Nat} {xs : List Value} {r : Option Nat} (h : W.ownsRow B 48 8 v n xs) (hg : W.grownBy W' r) (hne : ∀ k, v.ownBlock = some k → B ≤ k → r ≠ some k) : W'.ownsRow B 48 8 v n xs := by
  refine h.kept hg ?_
  rcases e : v.ownBlock with _ | k
  · exact .inl rfl
  · exact .inr (fun e' => hne k e (h.lt k e).1 e'.symm)
structure K5 (h0 h1 h2 h3 h4 h5 h6 h7 : Nat) (c t z x y : Value) (na nb : Nat) (sa sb : Nat → Sec) (w0 W : World) : Prop where
  ord : h0 = w0.heap.size ∧ h0 ≤ h1 ∧ h1 ≤ h2 ∧ h2 ≤ h3 ∧ h3 ≤ h4 ∧ h4 ≤ h5 ∧ h5 ≤ h6 ∧ h6 ≤ h7
  big : h7 ≤ W.heap.size
  low : Below h0 w0 W
  rc : SecsIn h1 W c na sa
  bc : ∀ k, c.ownBlock = some k → k < h2
  rt : SecsIn h3 W t nb sb
  bt : ∀ k, t.ownBlock = some k → k < h4
  rz : SecsIn h4 W z na sa
  bz : ∀ k, z.ownBlock = some k → k < h5
  rx : SecsIn h5 W x na sa
  bx : ∀ k, x.ownBlock = some k → k < h6
  ry : SecsIn h6 W y nb sb
  cy : ∀ k, y.ownBlock = some k → k < h7
theorem K5.grown {h0 h1 h2 h3 h4 h5 h6 h7 : Nat} {c t z x y : Value} {na nb : Nat} {sa sb : Nat → Sec} {w0 W W' : World} {r : Option Nat} (h : K5 h0 h1 h2 h3 h4 h5 h6 h7 c t z x y na nb sa sb w0 W) (hg : W.grownBy W' r) (hr : ∀ k, r = some k → (h0 ≤ k ∧ k < h1) ∨ (h2 ≤ k ∧ k < h3) ∨ h7 ≤ k) : K5 h0 h1 h2 h3 h4 h5 h6 h7 c t z x y na nb sa sb w0 W' := by
  obtain ⟨o0, o1, o2, o3, o4, o5, o6, o7⟩ := h.ord
  have hb := h.big
  refine ⟨h.ord, Nat.le_trans h.big hg.size, h.low.grown hg (by omega) (fun k hk => by rcases hr k hk with h | h | h <;> omega), kept5 h.rc hg ?_, h.bc, kept5 h.rt hg ?_, h.bt, kept5 h.rz hg ?_, h.bz, kept5 h.rx hg ?_, h.bx, kept5 h.ry hg ?_, h.cy⟩
  · intro k hk hB e; have := h.bc k hk; rcases hr k e with h | h | h <;> omega
  · intro k hk hB e; have := h.bt k hk; rcases hr k e with h | h | h <;> omega
  · intro k hk hB e; have := h.bz k hk; rcases hr k e with h | h | h <;> omega
  · intro k hk hB e; have := h.bx k hk; rcases hr k e with h | h | h <;> omega
  · intro k hk hB e; have := h.cy k hk; rcases hr k e with h | h | h <;> omega
theorem K5.dr {h0 h1 h2 h3 h4 h5 h6 h7 : Nat} {c t z x y : Value} {na nb : Nat} {sa sb : Nat → Sec} {w0 W W' : World} (h : K5 h0 h1 h2 h3 h4 h5 h6 h7 c t z x y na nb sa sb w0 W) (hd : Dr W W') : K5 h0 h1 h2 h3 h4 h5 h6 h7 c t z x y na nb sa sb w0 W' :=
  h.grown (grownG_below (hd.below _)) (fun k hk => by cases hk)
theorem bel35 {w a b : World} (h : Below w.heap.size w a) (k : Below a.heap.size a b) : Below w.heap.size w b := h.trans (k.mono h.size)
set_option maxHeartbeats 16000000 in
theorem elfFresh_w (s o : ByteArray) (w : World) (hs : s.size ≤ 1048576) (ho : o.size ≤ 1048576) (hX : Magic w) :
    Calls Tryd.prog 3 #[.string s, .string o] w fun e w' => e = .returned (.bool true) ∧ Below w.heap.size w w' := by
  obtain ⟨na, sa, Ea, hla, _, _, hpa, hda, _⟩ := secs_both s hs
  obtain ⟨nb, sb, Eb, hlb, _, _, hpb, hdb, _⟩ := secs_both o ho
  have HTa : Hid (∀ w, Magic w → Calls Tryd.prog 4 #[.string s] w (New5 na sa Ea w)) := fun w hx => (hpa w hx).mono fun e w' ⟨v, h1, h2, h3⟩ => ⟨h3, v, h1, h2⟩
  have HTb : Hid (∀ w, Magic w → Calls Tryd.prog 4 #[.string o] w (New5 nb sb Eb w)) := fun w hx => (hpb w hx).mono fun e w' ⟨v, h1, h2, h3⟩ => ⟨h3, v, h1, h2⟩
  have HRa : Hid (∀ w, Magic w → Calls Tryd.prog 5 #[.string s] w (New5 na sa Ea w)) := fun w _ => (hda w).mono fun e w' ⟨v, h1, h2, h3⟩ => ⟨h3, v, h1, h2⟩
  have HRb : Hid (∀ w, Magic w → Calls Tryd.prog 5 #[.string o] w (New5 nb sb Eb w)) := fun w _ => (hdb w).mono fun e w' ⟨v, h1, h2, h3⟩ => ⟨h3, v, h1, h2⟩
  clear hpa hpb hda hdb hs ho
  have HSMa : Hid (∀ (B C : Nat) (va vb : Value) (w' : World), SecsIn B w' va na sa → SecsIn C w' vb na sa → Calls Tryd.prog 6 #[va, vb] w' fun e w'' => e = .returned (.bool true) ∧ Dr w' w'') := fun B C va vb w' h1 h2 => same_secs B C va vb na sa w' hla h1 h2
  have HSMb : Hid (∀ (B C : Nat) (va vb : Value) (w' : World), SecsIn B w' va nb sb → SecsIn C w' vb nb sb → Calls Tryd.prog 6 #[va, vb] w' fun e w'' => e = .returned (.bool true) ∧ Dr w' w'') := fun B C va vb w' h1 h2 => same_secs B C va vb nb sb w' hlb h1 h2
  have HX := hidK hX
  have hla4 := hidK hla
  have hlb4 := hidK hlb
  clear hX hla hlb
  go_enter Tryd.func3, Tryd.ntmps3
  go_wp2_with fail
  refine (HTa.out _ (HX.out.kept (Below.refl w.heap.size w))).mono ?_
  rintro e w1 ⟨hb1, a, rfl, ho1⟩
  have s1 := hb1.size
  have lo1 : Below w.heap.size w w1 := hb1
  go_wp2_with fail
  refine (HTa.out _ (HX.out.kept lo1)).mono ?_
  rintro e w2 ⟨hb2, c, rfl, ho2⟩
  have s2 := hb2.size
  have lo2 : Below w.heap.size w w2 := bel35 lo1 hb2
  go_wp2_with fail
  refine (HTb.out _ (HX.out.kept lo2)).mono ?_
  rintro e w3 ⟨hb3, b, rfl, ho3⟩
  have s3 := hb3.size
  have lo3 : Below w.heap.size w w3 := bel35 lo2 hb3
  go_wp2_with fail
  refine (HTb.out _ (HX.out.kept lo3)).mono ?_
  rintro e w4 ⟨hb4, t, rfl, ho4⟩
  have s4 := hb4.size
  have lo4 : Below w.heap.size w w4 := bel35 lo3 hb4
  go_wp2_with fail
  refine (HTa.out _ (HX.out.kept lo4)).mono ?_
  rintro e w5 ⟨hb5, z, rfl, ho5⟩
  have s5 := hb5.size
  have lo5 : Below w.heap.size w w5 := bel35 lo4 hb5
  go_wp2_with fail
  refine (HRa.out _ (HX.out.kept lo5)).mono ?_
  rintro e w6 ⟨hb6, x, rfl, ho6⟩
  have s6 := hb6.size
  have lo6 : Below w.heap.size w w6 := bel35 lo5 hb6
  obtain ⟨aox, capx, hx, -⟩ := ownG_form 8 ho6
  go_wp2_with fail
  refine (HRb.out _ (HX.out.kept lo6)).mono ?_
  rintro e w7 ⟨hb7, y, rfl, ho7⟩
  have s7 := hb7.size
  have lo7 : Below w.heap.size w w7 := bel35 lo6 hb7
  obtain ⟨aoy, capy, hy, -⟩ := ownG_form 8 ho7
  have K : K5 w.heap.size w1.heap.size w2.heap.size w3.heap.size w4.heap.size w5.heap.size w6.heap.size w7.heap.size c t z x y na nb sa sb w w7 := ⟨⟨rfl, s1, s2, s3, s4, s5, s6, s7⟩, Nat.le_refl _, lo7, (ownG_on (ownG_on (ownG_on (ownG_on (ownG_on ho2 hb3) hb4) hb5) hb6) hb7), (fun k hk => (ho2.lt k hk).2), (ownG_on (ownG_on (ownG_on ho4 hb5) hb6) hb7), (fun k hk => (ho4.lt k hk).2), (ownG_on (ownG_on ho5 hb6) hb7), (fun k hk => (ho5.lt k hk).2), (ownG_on ho6 hb7), (fun k hk => (ho6.lt k hk).2), ho7, (fun k hk => (ho7.lt k hk).2)⟩
  have HRU7 : Hid (w7.ownsRow w.heap.size 48 8 a na ((secL na sa).flatMap S8.v)) := (by rw [secL_flat]; exact (ownG_on (ownG_on (ownG_on (ownG_on (ownG_on (ownG_on ho1 hb2) hb3) hb4) hb5) hb6) hb7))
  have HRV7 : Hid (w7.ownsRow w2.heap.size 48 8 b nb ((secL nb sb).flatMap S8.v)) := (by rw [secL_flat]; exact (ownG_on (ownG_on (ownG_on (ownG_on ho3 hb4) hb5) hb6) hb7))
  have HU : Hid (∀ k, a.ownBlock = some k → w.heap.size ≤ k ∧ k < w1.heap.size) := fun k hk => ho1.lt k hk
  have HV : Hid (∀ k, b.ownBlock = some k → w2.heap.size ≤ k ∧ k < w3.heap.size) := fun k hk => ho3.lt k hk
  clear ho1 ho2 ho3 ho4 ho5 ho6 ho7 hb1 hb2 hb3 hb4 hb5 hb6 hb7 HRa HRb HTb lo1 lo2 lo3 lo4 lo5 lo6 lo7
  subst hx hy
  have HK7 : Hid (K5 w.heap.size w1.heap.size w2.heap.size w3.heap.size w4.heap.size w5.heap.size w6.heap.size w7.heap.size c t z (.slice aox na capx) (.slice aoy nb capy) na nb sa sb w w7) := K
  have HS : Hid (w.heap.size ≤ w1.heap.size ∧ w1.heap.size ≤ w2.heap.size ∧ w2.heap.size ≤ w3.heap.size ∧ w3.heap.size ≤ w7.heap.size) := ⟨s1, s2, s3, Nat.le_trans s4 (Nat.le_trans s5 (Nat.le_trans s6 s7))⟩
  clear K s1 s2 s3 s4 s5 s6 s7
  go_wp2_with fail
  refine (HSMa.out _ _ _ _ _ (by have := HRU7.out; rw [secL_flat] at this; exact this) HK7.out.rx).mono ?_
  rintro e w8 ⟨rfl, hw⟩
  have HK8 : Hid (K5 w.heap.size w1.heap.size w2.heap.size w3.heap.size w4.heap.size w5.heap.size w6.heap.size w7.heap.size c t z (.slice aox na capx) (.slice aoy nb capy) na nb sa sb w w8) := (HK7.out.dr hw)
  have HRU8 : Hid (w8.ownsRow w.heap.size 48 8 a na ((secL na sa).flatMap S8.v)) := (ownG_on HRU7.out (hw.below _))
  have HRV8 : Hid (w8.ownsRow w2.heap.size 48 8 b nb ((secL nb sb).flatMap S8.v)) := (ownG_on HRV7.out (hw.below _))
  clear hw
  go_wp2_with fail
  refine (HSMb.out _ _ _ _ _ (by have := HRV8.out; rw [secL_flat] at this; exact this) HK8.out.ry).mono ?_
  rintro e w9 ⟨rfl, hw⟩
  have HK9 : Hid (K5 w.heap.size w1.heap.size w2.heap.size w3.heap.size w4.heap.size w5.heap.size w6.heap.size w7.heap.size c t z (.slice aox na capx) (.slice aoy nb capy) na nb sa sb w w9) := (HK8.out.dr hw)
  have HRU9 : Hid (w9.ownsRow w.heap.size 48 8 a na ((secL na sa).flatMap S8.v)) := (ownG_on HRU8.out (hw.below _))
  have HRV9 : Hid (w9.ownsRow w2.heap.size 48 8 b nb ((secL nb sb).flatMap S8.v)) := (ownG_on HRV8.out (hw.below _))
  clear hw
  go_wp2_with fail
  refine (mark5_c a (secL na sa) 71 _ w.heap.size (by rw [secL_len]; exact HRU9.out) (by have := HK9.out.ord; have := HK9.out.big; omega) (by rw [secL_len]; have := hla4.out; omega) (by decide) (by decide)).mono ?_
  rintro e w10 ⟨rfl, lu, hlu, hmu, hou, hgu⟩
  rw [secL_len] at hlu hou
  have HK10 : Hid (K5 w.heap.size w1.heap.size w2.heap.size w3.heap.size w4.heap.size w5.heap.size w6.heap.size w7.heap.size c t z (.slice aox na capx) (.slice aoy nb capy) na nb sa sb w w10) := HK9.out.grown hgu (fun k hk => .inl (HU.out k hk))
  have HRU10 : Hid (w10.ownsRow w.heap.size 48 8 a na (lu.flatMap S8.v)) := hou
  have HRV10 : Hid (w10.ownsRow w2.heap.size 48 8 b nb ((secL nb sb).flatMap S8.v)) := kept5 HRV9.out hgu (fun k hk hB e => by have := HU.out k e; have := HS.out; omega)
  have HMU : Hid (lu.length = na ∧ Mk8 71 lu) := ⟨hlu, hmu⟩
  clear hlu hmu hou hgu
  go_wp2_with fail
  refine (HSMb.out _ _ _ _ _ (by have := HRV10.out; rw [secL_flat] at this; exact this) HK10.out.ry).mono ?_
  rintro e w11 ⟨rfl, hw⟩
  have HK11 : Hid (K5 w.heap.size w1.heap.size w2.heap.size w3.heap.size w4.heap.size w5.heap.size w6.heap.size w7.heap.size c t z (.slice aox na capx) (.slice aoy nb capy) na nb sa sb w w11) := (HK10.out.dr hw)
  have HRU11 : Hid (w11.ownsRow w.heap.size 48 8 a na (lu.flatMap S8.v)) := (ownG_on HRU10.out (hw.below _))
  have HRV11 : Hid (w11.ownsRow w2.heap.size 48 8 b nb ((secL nb sb).flatMap S8.v)) := (ownG_on HRV10.out (hw.below _))
  clear hw
  go_wp2_with fail
  refine (HSMa.out _ _ _ _ _ HK11.out.rc HK11.out.rx).mono ?_
  rintro e w12 ⟨rfl, hw⟩
  have HK12 : Hid (K5 w.heap.size w1.heap.size w2.heap.size w3.heap.size w4.heap.size w5.heap.size w6.heap.size w7.heap.size c t z (.slice aox na capx) (.slice aoy nb capy) na nb sa sb w w12) := (HK11.out.dr hw)
  have HRU12 : Hid (w12.ownsRow w.heap.size 48 8 a na (lu.flatMap S8.v)) := (ownG_on HRU11.out (hw.below _))
  have HRV12 : Hid (w12.ownsRow w2.heap.size 48 8 b nb ((secL nb sb).flatMap S8.v)) := (ownG_on HRV11.out (hw.below _))
  clear hw
  go_wp2_with fail
  refine (HSMb.out _ _ _ _ _ HK12.out.rt HK12.out.ry).mono ?_
  rintro e w13 ⟨rfl, hw⟩
  have HK13 : Hid (K5 w.heap.size w1.heap.size w2.heap.size w3.heap.size w4.heap.size w5.heap.size w6.heap.size w7.heap.size c t z (.slice aox na capx) (.slice aoy nb capy) na nb sa sb w w13) := (HK12.out.dr hw)
  have HRU13 : Hid (w13.ownsRow w.heap.size 48 8 a na (lu.flatMap S8.v)) := (ownG_on HRU12.out (hw.below _))
  have HRV13 : Hid (w13.ownsRow w2.heap.size 48 8 b nb ((secL nb sb).flatMap S8.v)) := (ownG_on HRV12.out (hw.below _))
  clear hw
  go_wp2_with fail
  refine (HSMa.out _ _ _ _ _ HK13.out.rz HK13.out.rx).mono ?_
  rintro e w14 ⟨rfl, hw⟩
  have HK14 : Hid (K5 w.heap.size w1.heap.size w2.heap.size w3.heap.size w4.heap.size w5.heap.size w6.heap.size w7.heap.size c t z (.slice aox na capx) (.slice aoy nb capy) na nb sa sb w w14) := (HK13.out.dr hw)
  have HRU14 : Hid (w14.ownsRow w.heap.size 48 8 a na (lu.flatMap S8.v)) := (ownG_on HRU13.out (hw.below _))
  have HRV14 : Hid (w14.ownsRow w2.heap.size 48 8 b nb ((secL nb sb).flatMap S8.v)) := (ownG_on HRV13.out (hw.below _))
  clear hw
  go_wp2_with fail
  refine (mark5_c b (secL nb sb) 72 _ w2.heap.size (by rw [secL_len]; exact HRV14.out) (by have := HK14.out.ord; have := HK14.out.big; omega) (by rw [secL_len]; have := hlb4.out; omega) (by decide) (by decide)).mono ?_
  rintro e w15 ⟨rfl, lv, hlv, hmv, hov, hgv⟩
  rw [secL_len] at hlv hov
  have HK15 : Hid (K5 w.heap.size w1.heap.size w2.heap.size w3.heap.size w4.heap.size w5.heap.size w6.heap.size w7.heap.size c t z (.slice aox na capx) (.slice aoy nb capy) na nb sa sb w w15) := HK14.out.grown hgv (fun k hk => .inr (.inl (HV.out k hk)))
  have HRV15 : Hid (w15.ownsRow w2.heap.size 48 8 b nb (lv.flatMap S8.v)) := hov
  have HRU15 : Hid (w15.ownsRow w.heap.size 48 8 a na (lu.flatMap S8.v)) := kept5 HRU14.out hgv (fun k hk hB e => by have := HU.out k hk; have := HV.out k e; have := HS.out; omega)
  have HMV : Hid (lv.length = nb ∧ Mk8 72 lv) := ⟨hlv, hmv⟩
  clear hlv hmv hov hgv
  go_wp2_with fail
  refine (HSMa.out _ _ _ _ _ HK15.out.rc HK15.out.rx).mono ?_
  rintro e w16 ⟨rfl, hw⟩
  have HK16 : Hid (K5 w.heap.size w1.heap.size w2.heap.size w3.heap.size w4.heap.size w5.heap.size w6.heap.size w7.heap.size c t z (.slice aox na capx) (.slice aoy nb capy) na nb sa sb w w16) := (HK15.out.dr hw)
  have HRU16 : Hid (w16.ownsRow w.heap.size 48 8 a na (lu.flatMap S8.v)) := (ownG_on HRU15.out (hw.below _))
  have HRV16 : Hid (w16.ownsRow w2.heap.size 48 8 b nb (lv.flatMap S8.v)) := (ownG_on HRV15.out (hw.below _))
  clear hw
  go_wp2_with fail
  refine (HSMb.out _ _ _ _ _ HK16.out.rt HK16.out.ry).mono ?_
  rintro e w17 ⟨rfl, hw⟩
  have HK17 : Hid (K5 w.heap.size w1.heap.size w2.heap.size w3.heap.size w4.heap.size w5.heap.size w6.heap.size w7.heap.size c t z (.slice aox na capx) (.slice aoy nb capy) na nb sa sb w w17) := (HK16.out.dr hw)
  have HRU17 : Hid (w17.ownsRow w.heap.size 48 8 a na (lu.flatMap S8.v)) := (ownG_on HRU16.out (hw.below _))
  have HRV17 : Hid (w17.ownsRow w2.heap.size 48 8 b nb (lv.flatMap S8.v)) := (ownG_on HRV16.out (hw.below _))
  clear hw
  go_wp2_with fail
  refine (HSMa.out _ _ _ _ _ HK17.out.rz HK17.out.rx).mono ?_
  rintro e w18 ⟨rfl, hw⟩
  have HK18 : Hid (K5 w.heap.size w1.heap.size w2.heap.size w3.heap.size w4.heap.size w5.heap.size w6.heap.size w7.heap.size c t z (.slice aox na capx) (.slice aoy nb capy) na nb sa sb w w18) := (HK17.out.dr hw)
  have HRU18 : Hid (w18.ownsRow w.heap.size 48 8 a na (lu.flatMap S8.v)) := (ownG_on HRU17.out (hw.below _))
  have HRV18 : Hid (w18.ownsRow w2.heap.size 48 8 b nb (lv.flatMap S8.v)) := (ownG_on HRV17.out (hw.below _))
  clear hw
  go_wp2_with fail
  refine (grown5_c a lu 71 _ w.heap.size (by rw [HMU.out.1]; exact HRU18.out) HMU.out.2 (by have := HK18.out.ord; have := HK18.out.big; omega) (by rw [HMU.out.1]; have := hla4.out; omega)).mono ?_
  rw [HMU.out.1]
  rintro e w19 ⟨pv, lp, rfl, hlp, hmp, hop, hgp, hbp⟩
  have HK19 : Hid (K5 w.heap.size w1.heap.size w2.heap.size w3.heap.size w4.heap.size w5.heap.size w6.heap.size w7.heap.size c t z (.slice aox na capx) (.slice aoy nb capy) na nb sa sb w w19) := HK18.out.grown hgp (fun k hk => .inl (HU.out k hk))
  have HRV19 : Hid (w19.ownsRow w2.heap.size 48 8 b nb (lv.flatMap S8.v)) := kept5 HRV18.out hgp (fun k hk hB e => by have := HU.out k e; have := HS.out; omega)
  have HPB : Hid (∀ i, pv.ownBlock = some i → (w.heap.size ≤ i ∧ i < w1.heap.size) ∨ w7.heap.size ≤ i) := fun i hi => by
    rcases hbp i hi with h | h
    · exact .inl (HU.out i h)
    · exact .inr (Nat.le_trans HK18.out.big h)
  obtain ⟨aop, capp, hpe, -⟩ := ownG_form 8 hop
  have HMP : Hid (lp.length = na + 64 ∧ Mk8 71 lp) := ⟨hlp, hmp⟩
  have HRP19 : Hid (w19.ownsRow w.heap.size 48 8 pv (na + 64) (lp.flatMap S8.v)) := hop
  clear hlp hmp hop hgp hbp
  go_wp2_with fail
  refine (grown5_c b lv 72 _ w2.heap.size (by rw [HMV.out.1]; exact HRV19.out) HMV.out.2 (by have := HK19.out.ord; have := HK19.out.big; omega) (by rw [HMV.out.1]; have := hlb4.out; omega)).mono ?_
  rw [HMV.out.1]
  rintro e w20 ⟨qv, lq, rfl, hlq, hmq, hoq, hgq, hbq⟩
  have HK20 : Hid (K5 w.heap.size w1.heap.size w2.heap.size w3.heap.size w4.heap.size w5.heap.size w6.heap.size w7.heap.size c t z (.slice aox na capx) (.slice aoy nb capy) na nb sa sb w w20) := HK19.out.grown hgq (fun k hk => .inr (.inl (HV.out k hk)))
  have HRP20 : Hid (w20.ownsRow w.heap.size 48 8 pv (na + 64) (lp.flatMap S8.v)) := kept5 HRP19.out hgq (fun k hk hB e => by
    have h1 := HV.out k e
    have h2 := HS.out
    rcases HPB.out k hk with h | h <;> omega)
  obtain ⟨aoq, capq, hqe, -⟩ := ownG_form 8 hoq
  have HMQ : Hid (lq.length = nb + 64 ∧ Mk8 72 lq) := ⟨hlq, hmq⟩
  have HRQ20 : Hid (w20.ownsRow w2.heap.size 48 8 qv (nb + 64) (lq.flatMap S8.v)) := hoq
  clear hlq hmq hoq hgq hbq HPB
  subst hpe hqe
  go_wp2_with fail
  refine (HTa.out _ (HX.out.kept HK20.out.low)).mono ?_
  rintro e w21 ⟨hbn, again, rfl, hon⟩
  have HK21 : Hid (K5 w.heap.size w1.heap.size w2.heap.size w3.heap.size w4.heap.size w5.heap.size w6.heap.size w7.heap.size c t z (.slice aox na capx) (.slice aoy nb capy) na nb sa sb w w21) := HK20.out.grown (grownG_below hbn) (fun k hk => by cases hk)
  have HRP21 : Hid (w21.ownsRow w.heap.size 48 8 (.slice aop (na + 64) capp) (na + 64) (lp.flatMap S8.v)) := ownG_on HRP20.out hbn
  have HRQ21 : Hid (w21.ownsRow w2.heap.size 48 8 (.slice aoq (nb + 64) capq) (nb + 64) (lq.flatMap S8.v)) := ownG_on HRQ20.out hbn
  obtain ⟨hg, hhg⟩ : ∃ hg, hg = w20.heap.size := ⟨_, rfl⟩
  rw [← hhg] at hon
  have HRG21 : Hid (SecsIn hg w21 again na sa) := hon
  clear hon hhg hbn
  go_wp2_with fail
  refine (HSMa.out _ _ _ _ _ HK21.out.rc HK21.out.rx).mono ?_
  rintro e w22 ⟨rfl, hw⟩
  have HK22 : Hid (K5 w.heap.size w1.heap.size w2.heap.size w3.heap.size w4.heap.size w5.heap.size w6.heap.size w7.heap.size c t z (.slice aox na capx) (.slice aoy nb capy) na nb sa sb w w22) := (HK21.out.dr hw)
  have HRP22 : Hid (w22.ownsRow w.heap.size 48 8 (.slice aop (na + 64) capp) (na + 64) (lp.flatMap S8.v)) := (ownG_on HRP21.out (hw.below _))
  have HRQ22 : Hid (w22.ownsRow w2.heap.size 48 8 (.slice aoq (nb + 64) capq) (nb + 64) (lq.flatMap S8.v)) := (ownG_on HRQ21.out (hw.below _))
  have HRG22 : Hid (SecsIn hg w22 again na sa) := (ownG_on HRG21.out (hw.below _))
  clear hw
  go_wp2_with fail
  refine (HSMa.out _ _ _ _ _ HRG22.out HK22.out.rx).mono ?_
  rintro e w23 ⟨rfl, hw⟩
  have HK23 : Hid (K5 w.heap.size w1.heap.size w2.heap.size w3.heap.size w4.heap.size w5.heap.size w6.heap.size w7.heap.size c t z (.slice aox na capx) (.slice aoy nb capy) na nb sa sb w w23) := (HK22.out.dr hw)
  have HRP23 : Hid (w23.ownsRow w.heap.size 48 8 (.slice aop (na + 64) capp) (na + 64) (lp.flatMap S8.v)) := (ownG_on HRP22.out (hw.below _))
  have HRQ23 : Hid (w23.ownsRow w2.heap.size 48 8 (.slice aoq (nb + 64) capq) (nb + 64) (lq.flatMap S8.v)) := (ownG_on HRQ22.out (hw.below _))
  have HRG23 : Hid (SecsIn hg w23 again na sa) := (ownG_on HRG22.out (hw.below _))
  clear hw
  have hfin : ((na : Int) + 64 + ((nb : Int) + 64) == (na : Int) + (nb : Int) + 128) = true := beq_iff_eq.2 (by omega)
  have hla5 := hla4.out
  have hlb5 := hlb4.out
  go_wp2_with fail
  refine (marked5_c _ lp 71 _ w.heap.size (by rw [HMP.out.1]; exact HRP23.out) HMP.out.2 (by rw [HMP.out.1]; omega) (by decide) (by decide)).mono ?_
  rintro e wA ⟨rfl, hw⟩
  subst hw
  go_wp2_with fail
  refine (marked5_c _ lq 72 _ w2.heap.size (by rw [HMQ.out.1]; exact HRQ23.out) HMQ.out.2 (by rw [HMQ.out.1]; omega) (by decide) (by decide)).mono ?_
  rintro e wA ⟨rfl, hw⟩
  subst hw
  go_wp2
  go_ret
  exact ⟨rfl, HK23.out.low⟩
end Go.Proofs.YtoikagccopglkaaDoor
