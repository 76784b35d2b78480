-- Proof of the given statement about TextFresh, second form. The frame follows the guide's toy for such a statement; the walk and the lemmas are ours.
import Derived.Test.YthdgkghefjnfgaaRows
import Derived.Test.YthdgkghefjnfgaaWLen
import Derived.WalkKit
import Derived.ProofKit
import Derived.OpenShut
import Derived.ShutString
import Derived.JoinedCond
import Derived.Deep.RegionWith
namespace Go.Proofs.Ythdgkghefjnfgaa.textFresh
open Go.ChangeShapes Go.WideShapes Go.ChangeAt Go.RowKit
open Go.ChangeMaps (open_string shut_string)
set_option linter.unusedVariables false

theorem own : ownKnob Try.prog.godebug = none := by kernel_rfl
theorem short {H : Type} {a0 : ByteArray} {a1 : ByteArray} (hk : Rows.uptoSmall H [.lit (.string a0.data.toList), .lit (.string a1.data.toList)] = true) : a0.size ≤ 1048576 ∧ a1.size ≤ 1048576 := by
  have h : Rows.uptoBulkAll [DataW.lit (H := H) (.string a0.data.toList), .lit (.string a1.data.toList)] ≤ 1048576 := of_decide_eq_true hk
  simp only [Rows.uptoBulkAll, Rows.uptoBulk] at h
  have e0 : a0.data.toList.length = a0.size := by rw [Array.length_toList]; rfl
  have e1 : a1.data.toList.length = a1.size := by rw [Array.length_toList]; rfl
  exact ⟨by omega, by omega⟩
def wl : WRes → List ByteArray
  | .inr ws => ws
  | .inl _ => []
/-- A new list. -/
def New (L : List ByteArray) (w : World) (e : Ending) (w' : World) : Prop :=
  Below w.heap.size w w' ∧ ∃ (v : Value) (p c : Int), e = .returned (.tuple #[v, .int .i64 p, .int .i64 c]) ∧ w'.ownsRow w.heap.size 9 1 v L.length (strV L)
theorem new_of {r : WRes} {w : World} {e : Ending} {w' : World} (h : WordsGave r w e w') : New (wl r) w e w' := by
  obtain ⟨hb, h⟩ := h
  refine ⟨hb, ?_⟩
  cases r with
  | inr ws => obtain ⟨v, he, ho⟩ := h; exact ⟨v, 0, 0, he, ho⟩
  | inl pc => obtain ⟨p, c⟩ := pc; obtain ⟨_, _, he⟩ := h; exact ⟨_, p, c, he, World.ownsRow_nil _ _ _ _⟩
theorem kept' {W W' : World} {B : Nat} {v : Value} {n : Nat} {xs : List Value} {r : Option Nat} (h : W.ownsRow B 9 1 v n xs) (hg : W.grownBy W' r) (hne : ∀ k, v.ownBlock = some k → B ≤ k → r ≠ some k) : W'.ownsRow B 9 1 v n xs := by
  refine h.kept hg ?_
  rcases e : v.ownBlock with _ | k
  · exact .inl rfl
  · exact .inr (fun e' => hne k e (h.lt k e).1 e'.symm)
structure K5 (h0 h1 h2 h3 h4 h5 h6 h7 : Nat) (x y ww t z : Value) (La Lb : List ByteArray) (w0 W : World) : Prop where
  ord : h0 = w0.heap.size ∧ h0 ≤ h1 ∧ h1 ≤ h2 ∧ h2 ≤ h3 ∧ h3 ≤ h4 ∧ h4 ≤ h5 ∧ h5 ≤ h6 ∧ h6 ≤ h7
  big : h7 ≤ W.heap.size
  low : Below h0 w0 W
  rx : W.ownsRow h0 9 1 x La.length (strV La)
  bx : ∀ k, x.ownBlock = some k → k < h1
  ry : W.ownsRow h1 9 1 y Lb.length (strV Lb)
  cy : ∀ k, y.ownBlock = some k → k < h2
  rw : W.ownsRow h3 9 1 ww La.length (strV La)
  bw : ∀ k, ww.ownBlock = some k → k < h4
  rt : W.ownsRow h5 9 1 t Lb.length (strV Lb)
  bt : ∀ k, t.ownBlock = some k → k < h6
  rz : W.ownsRow h6 9 1 z La.length (strV La)
  bz : ∀ k, z.ownBlock = some k → k < h7
variable {h0 h1 h2 h3 h4 h5 h6 h7 : Nat} {x y ww t z : Value} {La Lb : List ByteArray} {w0 W W' : World}
theorem K5.grown {r : Option Nat} (h : K5 h0 h1 h2 h3 h4 h5 h6 h7 x y ww t z La Lb w0 W) (hg : W.grownBy W' r) (hr : ∀ k, r = some k → (h2 ≤ k ∧ k < h3) ∨ (h4 ≤ k ∧ k < h5) ∨ h7 ≤ k) : K5 h0 h1 h2 h3 h4 h5 h6 h7 x y ww t z La Lb w0 W' := by
  obtain ⟨o0, o1, o2, o3, o4, o5, o6, o7⟩ := h.ord
  have hb := h.big
  refine ⟨h.ord, Nat.le_trans h.big hg.size, h.low.grown hg (by omega) (fun k hk => by rcases hr k hk with h | h | h <;> omega), kept' h.rx hg ?_, h.bx, kept' h.ry hg ?_, h.cy, kept' h.rw hg ?_, h.bw, kept' h.rt hg ?_, h.bt, kept' h.rz hg ?_, h.bz⟩
  · intro k hk hB e; have := h.bx k hk; rcases hr k e with h | h | h <;> omega
  · intro k hk hB e; have := h.cy k hk; rcases hr k e with h | h | h <;> omega
  · intro k hk hB e; have := h.bw k hk; rcases hr k e with h | h | h <;> omega
  · intro k hk hB e; have := h.bt k hk; rcases hr k e with h | h | h <;> omega
  · intro k hk hB e; have := h.bz k hk; rcases hr k e with h | h | h <;> omega
theorem K5.drew (h : K5 h0 h1 h2 h3 h4 h5 h6 h7 x y ww t z La Lb w0 W) (n : Nat) : K5 h0 h1 h2 h3 h4 h5 h6 h7 x y ww t z La Lb w0 (W.drewN n) :=
  ⟨h.ord, h.big, below_drewN h.low n, h.rx, h.bx, h.ry, h.cy, h.rw, h.bw, h.rt, h.bt, h.rz, h.bz⟩
theorem grown_of_below {a b : World} (h : Below a.heap.size a b) : a.grownBy b none := ⟨h.os, h.tape, h.output, h.size, fun k hk _ => h.block k hk⟩
theorem own_below' {B : Nat} {v : Value} {n : Nat} {xs : List Value} (h : W.ownsRow B 9 1 v n xs) (hb : Below W.heap.size W W') : W'.ownsRow B 9 1 v n xs := kept' h (grown_of_below hb) (fun k _ _ e => by cases e)
set_option maxRecDepth 100000 in
set_option maxHeartbeats 4000000 in
theorem walk (a0 : ByteArray) (a1 : ByteArray) (w0 : a0.size ≤ maxLen) (w1 : a1.size ≤ maxLen) (l0 : a0.size ≤ 1048576) (l1 : a1.size ≤ 1048576) (w : World) :
    Calls Try.prog 4 #[.string a0, .string a1] w fun e w' => e = .returned (.bool true) ∧ Below w.heap.size w w' := by
  have HLEN : ∀ s : ByteArray, s.size ≤ 1048576 → (wl (wordsL (lst s))).length ≤ 1048577 := fun s hs => by
    rcases hr : wordsL (lst s) with ⟨q, c⟩ | ws
    · simp [wl]
    · have := words_len s ws hr; simp only [wl]; omega
  have hla := HLEN a0 l0
  have hlb := HLEN a1 l1
  have HTa : Hid (∀ w, Calls Try.prog 6 #[.string a0] w (New (wl (wordsL (lst a0))) w)) := fun w => (words_c a0 w (by omega)).mono fun e w' h => new_of h
  have HTb : Hid (∀ w, Calls Try.prog 6 #[.string a1] w (New (wl (wordsL (lst a1))) w)) := fun w => (words_c a1 w (by omega)).mono fun e w' h => new_of h
  have HRa : Hid (∀ w, Calls Try.prog 7 #[.string a0] w (New (wl (wordsL (lst a0))) w)) := fun w => (rwords_c a0 w (by omega)).mono fun e w' h => new_of h
  have HRb : Hid (∀ w, Calls Try.prog 7 #[.string a1] w (New (wl (wordsL (lst a1))) w)) := fun w => (rwords_c a1 w (by omega)).mono fun e w' h => new_of h
  obtain ⟨La, hLa⟩ : ∃ La, La = wl (wordsL (lst a0)) := ⟨_, rfl⟩
  obtain ⟨Lb, hLb⟩ : ∃ Lb, Lb = wl (wordsL (lst a1)) := ⟨_, rfl⟩
  rw [← hLa] at hla HTa HRa
  rw [← hLb] at hlb HTb HRb
  clear hLa hLb HLEN w0 w1 l0 l1
  have HSM : Hid (∀ (va vb : Value) (L : List ByteArray) (w' : World), L.length ≤ 4194304 → RowS w' va L → RowS w' vb L → Calls Try.prog 8 #[va, vb] w' fun e w'' => e = .returned (.bool true) ∧ ∃ n, w'' = w'.drewN n) := fun va vb L w' hL h1 h2 => by
    have := same_c va vb L L w' h1 h2 hL hL
    rwa [decide_eq_true (rfl : L = L)] at this
  have hla4 : La.length ≤ 4194304 := by omega
  have hlb4 : Lb.length ≤ 4194304 := by omega
  go_enter Try.func4, Try.ntmps4
  go_wp2_with fail
  refine (HRa.out _).mono ?_
  rintro e w1 ⟨hb1, x, p1, c1, rfl, ho1⟩
  have s1 := hb1.size
  obtain ⟨aox, capx, hx, -⟩ := own_form ho1
  go_wp2_with fail
  refine (HRb.out _).mono ?_
  rintro e w2 ⟨hb2, y, p2, c2, rfl, ho2⟩
  have s2 := hb2.size
  obtain ⟨aoy, capy, hy, -⟩ := own_form ho2
  go_wp2_with fail
  refine (HTa.out _).mono ?_
  rintro e w3 ⟨hb3, u, p3, c3, rfl, ho3⟩
  have s3 := hb3.size
  go_wp2_with fail
  refine (HTa.out _).mono ?_
  rintro e w4 ⟨hb4, ww, p4, c4, rfl, ho4⟩
  have s4 := hb4.size
  go_wp2_with fail
  refine (HTb.out _).mono ?_
  rintro e w5 ⟨hb5, v, p5, c5, rfl, ho5⟩
  have s5 := hb5.size
  go_wp2_with fail
  refine (HTb.out _).mono ?_
  rintro e w6 ⟨hb6, t, p6, c6, rfl, ho6⟩
  have s6 := hb6.size
  go_wp2_with fail
  refine (HTa.out _).mono ?_
  rintro e w7 ⟨hb7, z, p7, c7, rfl, ho7⟩
  have s7 := hb7.size
  have K : K5 w.heap.size w1.heap.size w2.heap.size w3.heap.size w4.heap.size w5.heap.size w6.heap.size w7.heap.size x y ww t z La Lb w w7 := ⟨⟨rfl, s1, s2, s3, s4, s5, s6, s7⟩, Nat.le_refl _, ((((((hb1.trans (hb2.mono (by omega))).trans (hb3.mono (by omega))).trans (hb4.mono (by omega))).trans (hb5.mono (by omega))).trans (hb6.mono (by omega))).trans (hb7.mono (by omega))), (own_below' (own_below' (own_below' (own_below' (own_below' (own_below' ho1 hb2) hb3) hb4) hb5) hb6) hb7), (fun k hk => (ho1.lt k hk).2), (own_below' (own_below' (own_below' (own_below' (own_below' ho2 hb3) hb4) hb5) hb6) hb7), (fun k hk => (ho2.lt k hk).2), (own_below' (own_below' (own_below' ho4 hb5) hb6) hb7), (fun k hk => (ho4.lt k hk).2), (own_below' ho6 hb7), (fun k hk => (ho6.lt k hk).2), ho7, (fun k hk => (ho7.lt k hk).2)⟩
  have ru : w7.ownsRow w2.heap.size 9 1 u La.length (strV La) := (own_below' (own_below' (own_below' (own_below' ho3 hb4) hb5) hb6) hb7)
  have rv : w7.ownsRow w4.heap.size 9 1 v Lb.length (strV Lb) := (own_below' (own_below' ho5 hb6) hb7)
  have HU : Hid (∀ k, u.ownBlock = some k → w2.heap.size ≤ k ∧ k < w3.heap.size) := fun k hk => ho3.lt k hk
  have HV : Hid (∀ k, v.ownBlock = some k → w4.heap.size ≤ k ∧ k < w5.heap.size) := fun k hk => ho5.lt k hk
  clear ho1 ho2 ho3 ho4 ho5 ho6 ho7 hb1 hb2 hb3 hb4 hb5 hb6 hb7 HRa HRb HTb
  subst hx hy
  have HK : Hid (K5 w.heap.size w1.heap.size w2.heap.size w3.heap.size w4.heap.size w5.heap.size w6.heap.size w7.heap.size (.slice aox La.length capx) (.slice aoy Lb.length capy) ww t z La Lb w w7) := K
  have HRU : Hid (w7.ownsRow w2.heap.size 9 1 u La.length (strV La)) := ru
  have HRV : Hid (w7.ownsRow w4.heap.size 9 1 v Lb.length (strV Lb)) := rv
  clear K ru rv
  go_wp2_with fail
  refine (HSM.out _ _ La _ hla4 (RowS.of_own HRU.out) (RowS.of_own HK.out.rx)).mono ?_
  rintro e w8 ⟨rfl, n8, hw⟩
  have HK8 : Hid (K5 w.heap.size w1.heap.size w2.heap.size w3.heap.size w4.heap.size w5.heap.size w6.heap.size w7.heap.size (.slice aox La.length capx) (.slice aoy Lb.length capy) ww t z La Lb w w8) := (by rw [hw]; exact HK.out.drew _)
  have HRU8 : Hid (w8.ownsRow w2.heap.size 9 1 u La.length (strV La)) := (by rw [hw]; exact HRU.out)
  have HRV8 : Hid (w8.ownsRow w4.heap.size 9 1 v Lb.length (strV Lb)) := (by rw [hw]; exact HRV.out)
  clear hw
  go_wp2_with fail
  refine (HSM.out _ _ Lb _ hlb4 (RowS.of_own HRV8.out) (RowS.of_own HK8.out.ry)).mono ?_
  rintro e w9 ⟨rfl, n9, hw⟩
  have HK9 : Hid (K5 w.heap.size w1.heap.size w2.heap.size w3.heap.size w4.heap.size w5.heap.size w6.heap.size w7.heap.size (.slice aox La.length capx) (.slice aoy Lb.length capy) ww t z La Lb w w9) := (by rw [hw]; exact HK8.out.drew _)
  have HRU9 : Hid (w9.ownsRow w2.heap.size 9 1 u La.length (strV La)) := (by rw [hw]; exact HRU8.out)
  have HRV9 : Hid (w9.ownsRow w4.heap.size 9 1 v Lb.length (strV Lb)) := (by rw [hw]; exact HRV8.out)
  clear hw
  go_wp2_with fail
  refine (HSM.out _ _ La _ hla4 (RowS.of_own HK9.out.rw) (RowS.of_own HK9.out.rx)).mono ?_
  rintro e w10 ⟨rfl, n10, hw⟩
  have HK10 : Hid (K5 w.heap.size w1.heap.size w2.heap.size w3.heap.size w4.heap.size w5.heap.size w6.heap.size w7.heap.size (.slice aox La.length capx) (.slice aoy Lb.length capy) ww t z La Lb w w10) := (by rw [hw]; exact HK9.out.drew _)
  have HRU10 : Hid (w10.ownsRow w2.heap.size 9 1 u La.length (strV La)) := (by rw [hw]; exact HRU9.out)
  have HRV10 : Hid (w10.ownsRow w4.heap.size 9 1 v Lb.length (strV Lb)) := (by rw [hw]; exact HRV9.out)
  clear hw
  go_wp2_with fail
  refine (HSM.out _ _ Lb _ hlb4 (RowS.of_own HK10.out.rt) (RowS.of_own HK10.out.ry)).mono ?_
  rintro e w11 ⟨rfl, n11, hw⟩
  have HK11 : Hid (K5 w.heap.size w1.heap.size w2.heap.size w3.heap.size w4.heap.size w5.heap.size w6.heap.size w7.heap.size (.slice aox La.length capx) (.slice aoy Lb.length capy) ww t z La Lb w w11) := (by rw [hw]; exact HK10.out.drew _)
  have HRU11 : Hid (w11.ownsRow w2.heap.size 9 1 u La.length (strV La)) := (by rw [hw]; exact HRU10.out)
  have HRV11 : Hid (w11.ownsRow w4.heap.size 9 1 v Lb.length (strV Lb)) := (by rw [hw]; exact HRV10.out)
  clear hw
  go_wp2_with fail
  refine (HSM.out _ _ La _ hla4 (RowS.of_own HK11.out.rz) (RowS.of_own HK11.out.rx)).mono ?_
  rintro e w12 ⟨rfl, n12, hw⟩
  have HK12 : Hid (K5 w.heap.size w1.heap.size w2.heap.size w3.heap.size w4.heap.size w5.heap.size w6.heap.size w7.heap.size (.slice aox La.length capx) (.slice aoy Lb.length capy) ww t z La Lb w w12) := (by rw [hw]; exact HK11.out.drew _)
  have HRU12 : Hid (w12.ownsRow w2.heap.size 9 1 u La.length (strV La)) := (by rw [hw]; exact HRU11.out)
  have HRV12 : Hid (w12.ownsRow w4.heap.size 9 1 v Lb.length (strV Lb)) := (by rw [hw]; exact HRV11.out)
  clear hw
  go_wp2_with fail
  refine (mark_c u La ⟨#[111, 110, 101]⟩ _ w2.heap.size HRU12.out (by have := HK12.out.ord; have := HK12.out.big; omega) hla4 (by decide)).mono ?_
  rintro e w13 ⟨rfl, lu, hlu, hmu, hou, hgu⟩
  have HK13 : Hid (K5 w.heap.size w1.heap.size w2.heap.size w3.heap.size w4.heap.size w5.heap.size w6.heap.size w7.heap.size (.slice aox La.length capx) (.slice aoy Lb.length capy) ww t z La Lb w w13) := HK12.out.grown hgu (fun k hk => .inl (HU.out k hk))
  have HRU13 : Hid (w13.ownsRow w2.heap.size 9 1 u La.length (strV lu)) := hou
  have HRV13 : Hid (w13.ownsRow w4.heap.size 9 1 v Lb.length (strV Lb)) := kept' HRV12.out hgu (fun k hk hB e => by have := HU.out k e; omega)
  have HMU : Hid (lu.length = La.length ∧ Marks ⟨#[111, 110, 101]⟩ lu) := ⟨hlu, hmu⟩
  clear hlu hmu hou hgu
  go_wp2_with fail
  refine (HSM.out _ _ Lb _ hlb4 (RowS.of_own HRV13.out) (RowS.of_own HK13.out.ry)).mono ?_
  rintro e w14 ⟨rfl, n14, hw⟩
  have HK14 : Hid (K5 w.heap.size w1.heap.size w2.heap.size w3.heap.size w4.heap.size w5.heap.size w6.heap.size w7.heap.size (.slice aox La.length capx) (.slice aoy Lb.length capy) ww t z La Lb w w14) := (by rw [hw]; exact HK13.out.drew _)
  have HRU14 : Hid (w14.ownsRow w2.heap.size 9 1 u La.length (strV lu)) := (by rw [hw]; exact HRU13.out)
  have HRV14 : Hid (w14.ownsRow w4.heap.size 9 1 v Lb.length (strV Lb)) := (by rw [hw]; exact HRV13.out)
  clear hw
  go_wp2_with fail
  refine (HSM.out _ _ La _ hla4 (RowS.of_own HK14.out.rw) (RowS.of_own HK14.out.rx)).mono ?_
  rintro e w15 ⟨rfl, n15, hw⟩
  have HK15 : Hid (K5 w.heap.size w1.heap.size w2.heap.size w3.heap.size w4.heap.size w5.heap.size w6.heap.size w7.heap.size (.slice aox La.length capx) (.slice aoy Lb.length capy) ww t z La Lb w w15) := (by rw [hw]; exact HK14.out.drew _)
  have HRU15 : Hid (w15.ownsRow w2.heap.size 9 1 u La.length (strV lu)) := (by rw [hw]; exact HRU14.out)
  have HRV15 : Hid (w15.ownsRow w4.heap.size 9 1 v Lb.length (strV Lb)) := (by rw [hw]; exact HRV14.out)
  clear hw
  go_wp2_with fail
  refine (HSM.out _ _ Lb _ hlb4 (RowS.of_own HK15.out.rt) (RowS.of_own HK15.out.ry)).mono ?_
  rintro e w16 ⟨rfl, n16, hw⟩
  have HK16 : Hid (K5 w.heap.size w1.heap.size w2.heap.size w3.heap.size w4.heap.size w5.heap.size w6.heap.size w7.heap.size (.slice aox La.length capx) (.slice aoy Lb.length capy) ww t z La Lb w w16) := (by rw [hw]; exact HK15.out.drew _)
  have HRU16 : Hid (w16.ownsRow w2.heap.size 9 1 u La.length (strV lu)) := (by rw [hw]; exact HRU15.out)
  have HRV16 : Hid (w16.ownsRow w4.heap.size 9 1 v Lb.length (strV Lb)) := (by rw [hw]; exact HRV15.out)
  clear hw
  go_wp2_with fail
  refine (HSM.out _ _ La _ hla4 (RowS.of_own HK16.out.rz) (RowS.of_own HK16.out.rx)).mono ?_
  rintro e w17 ⟨rfl, n17, hw⟩
  have HK17 : Hid (K5 w.heap.size w1.heap.size w2.heap.size w3.heap.size w4.heap.size w5.heap.size w6.heap.size w7.heap.size (.slice aox La.length capx) (.slice aoy Lb.length capy) ww t z La Lb w w17) := (by rw [hw]; exact HK16.out.drew _)
  have HRU17 : Hid (w17.ownsRow w2.heap.size 9 1 u La.length (strV lu)) := (by rw [hw]; exact HRU16.out)
  have HRV17 : Hid (w17.ownsRow w4.heap.size 9 1 v Lb.length (strV Lb)) := (by rw [hw]; exact HRV16.out)
  clear hw
  go_wp2_with fail
  refine (mark_c v Lb ⟨#[116, 119, 111]⟩ _ w4.heap.size HRV17.out (by have := HK17.out.ord; have := HK17.out.big; omega) hlb4 (by decide)).mono ?_
  rintro e w18 ⟨rfl, lv, hlv, hmv, hov, hgv⟩
  have HK18 : Hid (K5 w.heap.size w1.heap.size w2.heap.size w3.heap.size w4.heap.size w5.heap.size w6.heap.size w7.heap.size (.slice aox La.length capx) (.slice aoy Lb.length capy) ww t z La Lb w w18) := HK17.out.grown hgv (fun k hk => .inr (.inl (HV.out k hk)))
  have HRV18 : Hid (w18.ownsRow w4.heap.size 9 1 v Lb.length (strV lv)) := hov
  have HRU18 : Hid (w18.ownsRow w2.heap.size 9 1 u La.length (strV lu)) := kept' HRU17.out hgv (fun k hk hB e => by have := HU.out k hk; have := HV.out k e; omega)
  have HMV : Hid (lv.length = Lb.length ∧ Marks ⟨#[116, 119, 111]⟩ lv) := ⟨hlv, hmv⟩
  clear hlv hmv hov hgv
  go_wp2_with fail
  refine (grown_c u lu ⟨#[111, 110, 101]⟩ _ w2.heap.size (by rw [HMU.out.1]; exact HRU18.out) HMU.out.2 (by have := HK18.out.ord; have := HK18.out.big; omega) (by rw [HMU.out.1]; exact hla4) (by decide)).mono ?_
  rw [HMU.out.1]
  rintro e w19 ⟨pv, lp, rfl, hlp, hmp, hop, hgp, hbp⟩
  have HK19 : Hid (K5 w.heap.size w1.heap.size w2.heap.size w3.heap.size w4.heap.size w5.heap.size w6.heap.size w7.heap.size (.slice aox La.length capx) (.slice aoy Lb.length capy) ww t z La Lb w w19) := HK18.out.grown hgp (fun k hk => .inl (HU.out k hk))
  have HRV19 : Hid (w19.ownsRow w4.heap.size 9 1 v Lb.length (strV lv)) := kept' HRV18.out hgp (fun k hk hB e => by have := HU.out k e; omega)
  have HPB : Hid (∀ i, pv.ownBlock = some i → (w2.heap.size ≤ i ∧ i < w3.heap.size) ∨ w7.heap.size ≤ i) := fun i hi => by
    rcases hbp i hi with h | h
    · exact .inl (HU.out i h)
    · exact .inr (Nat.le_trans HK18.out.big h)
  obtain ⟨aop, capp, hpe, -⟩ := own_form hop
  have HMP : Hid (lp.length = La.length + 64 ∧ Marks ⟨#[111, 110, 101]⟩ lp) := ⟨hlp, hmp⟩
  have HRP19 : Hid (w19.ownsRow w2.heap.size 9 1 pv (La.length + 64) (strV lp)) := hop
  clear hlp hmp hop hgp hbp
  go_wp2_with fail
  refine (grown_c v lv ⟨#[116, 119, 111]⟩ _ w4.heap.size (by rw [HMV.out.1]; exact HRV19.out) HMV.out.2 (by have := HK19.out.ord; have := HK19.out.big; omega) (by rw [HMV.out.1]; exact hlb4) (by decide)).mono ?_
  rw [HMV.out.1]
  rintro e w20 ⟨qv, lq, rfl, hlq, hmq, hoq, hgq, hbq⟩
  have HK20 : Hid (K5 w.heap.size w1.heap.size w2.heap.size w3.heap.size w4.heap.size w5.heap.size w6.heap.size w7.heap.size (.slice aox La.length capx) (.slice aoy Lb.length capy) ww t z La Lb w w20) := HK19.out.grown hgq (fun k hk => .inr (.inl (HV.out k hk)))
  have HRP20 : Hid (w20.ownsRow w2.heap.size 9 1 pv (La.length + 64) (strV lp)) := kept' HRP19.out hgq (fun k hk hB e => by
    have h1 := HV.out k e
    rcases HPB.out k hk with h | h <;> omega)
  obtain ⟨aoq, capq, hqe, -⟩ := own_form hoq
  have HMQ : Hid (lq.length = Lb.length + 64 ∧ Marks ⟨#[116, 119, 111]⟩ lq) := ⟨hlq, hmq⟩
  have HRQ20 : Hid (w20.ownsRow w4.heap.size 9 1 qv (Lb.length + 64) (strV lq)) := hoq
  clear hlq hmq hoq hgq hbq HPB
  subst hpe hqe
  go_wp2_with fail
  refine (HTa.out _).mono ?_
  rintro e w21 ⟨hbn, again, pn, cn, rfl, hon⟩
  have HK21 : Hid (K5 w.heap.size w1.heap.size w2.heap.size w3.heap.size w4.heap.size w5.heap.size w6.heap.size w7.heap.size (.slice aox La.length capx) (.slice aoy Lb.length capy) ww t z La Lb w w21) := HK20.out.grown (grown_of_below hbn) (fun k hk => by cases hk)
  have HRP21 : Hid (w21.ownsRow w2.heap.size 9 1 (.slice aop (La.length + 64) capp) (La.length + 64) (strV lp)) := own_below' HRP20.out hbn
  have HRQ21 : Hid (w21.ownsRow w4.heap.size 9 1 (.slice aoq (Lb.length + 64) capq) (Lb.length + 64) (strV lq)) := own_below' HRQ20.out hbn
  obtain ⟨hg, hhg⟩ : ∃ hg, hg = w20.heap.size := ⟨_, rfl⟩
  rw [← hhg] at hon
  have HRG21 : Hid (w21.ownsRow hg 9 1 again La.length (strV La)) := hon
  clear hon hhg hbn
  go_wp2_with fail
  refine (HSM.out _ _ La _ hla4 (RowS.of_own HK21.out.rw) (RowS.of_own HK21.out.rx)).mono ?_
  rintro e w22 ⟨rfl, n22, hw⟩
  have HK22 : Hid (K5 w.heap.size w1.heap.size w2.heap.size w3.heap.size w4.heap.size w5.heap.size w6.heap.size w7.heap.size (.slice aox La.length capx) (.slice aoy Lb.length capy) ww t z La Lb w w22) := (by rw [hw]; exact HK21.out.drew _)
  have HRP22 : Hid (w22.ownsRow w2.heap.size 9 1 (.slice aop (La.length + 64) capp) (La.length + 64) (strV lp)) := (by rw [hw]; exact HRP21.out)
  have HRQ22 : Hid (w22.ownsRow w4.heap.size 9 1 (.slice aoq (Lb.length + 64) capq) (Lb.length + 64) (strV lq)) := (by rw [hw]; exact HRQ21.out)
  have HRG22 : Hid (w22.ownsRow hg 9 1 again La.length (strV La)) := (by rw [hw]; exact HRG21.out)
  clear hw
  go_wp2_with fail
  refine (HSM.out _ _ Lb _ hlb4 (RowS.of_own HK22.out.rt) (RowS.of_own HK22.out.ry)).mono ?_
  rintro e w23 ⟨rfl, n23, hw⟩
  have HK23 : Hid (K5 w.heap.size w1.heap.size w2.heap.size w3.heap.size w4.heap.size w5.heap.size w6.heap.size w7.heap.size (.slice aox La.length capx) (.slice aoy Lb.length capy) ww t z La Lb w w23) := (by rw [hw]; exact HK22.out.drew _)
  have HRP23 : Hid (w23.ownsRow w2.heap.size 9 1 (.slice aop (La.length + 64) capp) (La.length + 64) (strV lp)) := (by rw [hw]; exact HRP22.out)
  have HRQ23 : Hid (w23.ownsRow w4.heap.size 9 1 (.slice aoq (Lb.length + 64) capq) (Lb.length + 64) (strV lq)) := (by rw [hw]; exact HRQ22.out)
  have HRG23 : Hid (w23.ownsRow hg 9 1 again La.length (strV La)) := (by rw [hw]; exact HRG22.out)
  clear hw
  go_wp2_with fail
  refine (HSM.out _ _ La _ hla4 (RowS.of_own HK23.out.rz) (RowS.of_own HK23.out.rx)).mono ?_
  rintro e w24 ⟨rfl, n24, hw⟩
  have HK24 : Hid (K5 w.heap.size w1.heap.size w2.heap.size w3.heap.size w4.heap.size w5.heap.size w6.heap.size w7.heap.size (.slice aox La.length capx) (.slice aoy Lb.length capy) ww t z La Lb w w24) := (by rw [hw]; exact HK23.out.drew _)
  have HRP24 : Hid (w24.ownsRow w2.heap.size 9 1 (.slice aop (La.length + 64) capp) (La.length + 64) (strV lp)) := (by rw [hw]; exact HRP23.out)
  have HRQ24 : Hid (w24.ownsRow w4.heap.size 9 1 (.slice aoq (Lb.length + 64) capq) (Lb.length + 64) (strV lq)) := (by rw [hw]; exact HRQ23.out)
  have HRG24 : Hid (w24.ownsRow hg 9 1 again La.length (strV La)) := (by rw [hw]; exact HRG23.out)
  clear hw
  go_wp2_with fail
  refine (HSM.out _ _ La _ hla4 (RowS.of_own HRG24.out) (RowS.of_own HK24.out.rx)).mono ?_
  rintro e w25 ⟨rfl, n25, hw⟩
  have HK25 : Hid (K5 w.heap.size w1.heap.size w2.heap.size w3.heap.size w4.heap.size w5.heap.size w6.heap.size w7.heap.size (.slice aox La.length capx) (.slice aoy Lb.length capy) ww t z La Lb w w25) := (by rw [hw]; exact HK24.out.drew _)
  have HRP25 : Hid (w25.ownsRow w2.heap.size 9 1 (.slice aop (La.length + 64) capp) (La.length + 64) (strV lp)) := (by rw [hw]; exact HRP24.out)
  have HRQ25 : Hid (w25.ownsRow w4.heap.size 9 1 (.slice aoq (Lb.length + 64) capq) (Lb.length + 64) (strV lq)) := (by rw [hw]; exact HRQ24.out)
  have HRG25 : Hid (w25.ownsRow hg 9 1 again La.length (strV La)) := (by rw [hw]; exact HRG24.out)
  clear hw
  have hfin : ((La.length : Int) + 64 + ((Lb.length : Int) + 64) == (La.length : Int) + (Lb.length : Int) + 128) = true := beq_iff_eq.2 (by omega)
  go_wp2_with fail
  refine (marked_c _ lp ⟨#[111, 110, 101]⟩ _ w2.heap.size (by rw [HMP.out.1]; exact HRP25.out) HMP.out.2 (by rw [HMP.out.1]; omega) (by decide)).mono ?_
  rintro e wA ⟨rfl, hw⟩
  subst hw
  go_wp2_with fail
  refine (marked_c _ lq ⟨#[116, 119, 111]⟩ _ w4.heap.size (by rw [HMQ.out.1]; exact HRQ25.out) HMQ.out.2 (by rw [HMQ.out.1]; omega) (by decide)).mono ?_
  rintro e wB ⟨rfl, hw⟩
  subst hw
  go_wp2_with fail
  go_returns
  exact ⟨rfl, HK25.out.low⟩

theorem contract (H : Type) (enc : TypeId × Value → H) (W : World) (base : Nat) (args : Array Value) (ds gs : List (DataW H)) (before : List MemPlace)
    (hval : ∀ (j : Nat) t v, Try.f4.params[j]? = some t → args[j]? = some v → Value.okWide Try.prog W .any base t v)
    (hW : DataW.Whole enc Try.prog Try.f4.params.toList Rows.textFreshSpec.vars false W args.toList ds gs before) (hk : Rows.uptoSmall H (ds ++ gs) = true) :
    Calls Try.prog 4 args W fun e W' => ∃ v, e = .returned v ∧ Rows.textFreshSpec.post enc Try.prog Try.f4 false true false false W args v W' := by
  have hW' := hW
  obtain ⟨p, q, hA0, hV, rfl, hfz, hnd⟩ := hW
  have hA : DataW.TrodAll enc Try.prog W 0 (fun _ => true) true Try.f4.params.toList args.toList ds p := hA0
  rw [Try.params4] at hA hval
  obtain ⟨v0, vs0, d0, ds0, p0, q0, hargs, rfl, rfl, h0, r0⟩ := trodAll_cons hA
  obtain ⟨v1, vs1, d1, ds1, p1, q1, rfl, rfl, rfl, h1, r1⟩ := trodAll_cons r0
  obtain ⟨rfl, rfl, rfl⟩ := trodAll_nil r1
  obtain rfl : args = #[v0, v1] := by cases args; simp_all
  obtain ⟨rfl, rfl⟩ := trodVars_none hV
  obtain ⟨a0, rfl, rfl, rfl, w0⟩ := open_string Try.underlying9 (hval 0 9 v0 rfl rfl) h0
  obtain ⟨a1, rfl, rfl, rfl, w1⟩ := open_string Try.underlying9 (hval 1 9 v1 rfl rfl) h1
  clear hA0
  simp only [List.append_nil] at hW' hk
  obtain ⟨l0, l1⟩ := short hk
  refine (walk a0 a1 w0 w1 l0 l1 W).mono fun e W' ⟨he, hg⟩ => ?_
  subst he
  exact ⟨_, rfl, _, _, _, [], _, [], hW', trodAll_cons_mk (shut_bool Try.underlying4 _) trodAll_mk0, (trodAll_cons_mk (shut_string Try.underlying9 w0) (trodAll_cons_mk (shut_string Try.underlying9 w1) trodAll_mk0)), rfl, hg.frame _, fun h => by cases h⟩
set_option maxRecDepth 100000 in
theorem lifted (os : Os) (started : os.Started) (H : Type) (enc : TypeId × Value → H) (F : Stop.Interp) :
    ReturnsInHanded {} Try.checked os 4 .any ((Rows.OpenSpec.upto Rows.textFreshSpec).pre6 enc Try.prog Try.f4 Rows.textFreshUptoRow.domain false) (((Rows.OpenSpec.upto Rows.textFreshSpec).at F).post enc Try.prog Try.f4 false true false false) := by
  refine returnsInHanded_of_cond (C := Try.checked) (s := Rows.OpenSpec.upto Rows.textFreshSpec) (k := Rows.uptoSmall) rfl own started (by kernel_rfl) Try.func4
    (OpenSpec.witness (enc := enc) (C := Try.checked) (s := Rows.OpenSpec.upto Rows.textFreshSpec) (k := Rows.uptoSmall) rfl false ⟨#[], #[.string .empty, .string .empty], []⟩ 8 (by kernel_rfl) (by kernel_rfl) (by kernel_rfl)
      (x := ([.lit (.string []), .lit (.string [])], [], [])) (by kernel_rfl) rfl (by kernel_rfl)) ?_
  intro W base args ds gs before hval hW _ hk _
  exact contract H enc W base args ds gs before hval hW hk
theorem proved : Rows.TextFreshUptoSaid :=
  OpenClaim.holds_of_cond 4 Try.f4 rfl rfl rfl rfl rfl rfl rfl ⟨rfl, rfl, rfl, rfl, rfl⟩ rfl rfl rfl rfl rfl (by kernel_rfl) Try.func4 (by kernel_rfl)
    (of_decide_eq_true (by kernel_rfl)) (by unfold Func.isWrapper; first | (rw [if_pos (by decide +kernel)]; kernel_rfl) | (rw [if_neg (by decide +kernel)]; exact ⟨rfl, rfl⟩))
    (fun os started H enc _ F => lifted os started H enc F)
end Go.Proofs.Ythdgkghefjnfgaa.textFresh
namespace Go.Proofs.Ythdgkghefjnfgaa
theorem textFresh_holds : Rows.TextFreshUptoSaid := textFresh.proved
#print axioms textFresh_holds
end Go.Proofs.Ythdgkghefjnfgaa
