
-- slices' merge in place (2): a row against one element.
import Derived.Test.YtbmdclgndlddbaaSA
namespace Go.Proofs.Ytbmdclgndlddbaa
open Go.ChangeShapes Go.WideShapes Go.ChangeAt Go.RowKit Go.Sort Go.Shelf Go.Lib
set_option linter.unusedVariables false
set_option maxRecDepth 100000
set_option linter.unusedSimpArgs false
section
variable {P : Program} {α : Type} [Inhabited α] {enc : α → List Value} {k : Nat} {w0 : World} {blk off : Nat} {d0 : Array α}
/-- the search for the place of one element behind a row -/
def BiR (lt : α → α → Bool) (d : Array α) (a m i j : Nat) : Prop := a ≤ i ∧ i ≤ j ∧ j ≤ m ∧ (i = a ∨ lt d[m]! d[i - 1]! = false) ∧ (j = m ∨ lt d[m]! d[j]! = true)
set_option maxHeartbeats 4000000 in
set_option maxRecDepth 1000000 in
theorem sym_one_r (L : StL P k) (R : RowK enc k w0 blk off d0) {g : Nat} {cb : Array Value} {cf : α → α → Int} (eg : ∀ args w, (callFunc g args).run P w = .ok (.enter g args) w) (hcmp : CmpLays P g cb enc k cf blk off d0.size w0) {C Ro : α → α → Prop} (H : Cmp (ltOf cf) C Ro) (cap : Nat) (hsz : d0.size < 4611686018427387904)
    {A X Z : List α} {y : α} {a m b : Nat} {dk : Array α} {W : World} (hd : dk.toList = A ++ (X ++ (y :: Z))) (ha : A.length = a) (hm : a + X.length = m) (hx1 : 1 < X.length) (hb : m + 1 = b) (hX : X.Pairwise Ro) (hC : ∀ x ∈ X, C x y) (hW : SWK enc k w0 blk off dk W) (hs : dk.size = d0.size) :
    Calls P 27 #[.slice (some ⟨blk, off, none⟩) d0.size cap, .int .i64 a, .int .i64 m, .int .i64 b, .func (.func g) #[] cb] W fun e w' => e = .returned (.tuple #[]) ∧ ∃ d' : Array α, SWK enc k w0 blk off d' w' ∧ Mgd Ro A X [y] Z d' := by
  have mixed := L.mixed; have t0 := L.t0; have a0 := L.a0; have z0 := L.z0; have v0 := L.v0; have t3 := L.t3; have a3 := L.a3; have z3 := L.z3; have v3 := L.v3; have t4 := L.t4; have a4 := L.a4; have z4 := L.z4; have v4 := L.v4; have tU := L.tU; have aU := L.aU; have zU := L.zU; have vU := L.vU; have tS := L.tS; have aS := L.aS; have zS := L.zS; have vS := L.vS; have tC := L.tC; have aC := L.aC; have zC := L.zC; have vC := L.vC; have aE := L.aE; have zE := L.zE
  have uS := run_underlying L.tS
  have F := L.f37
  have hlen : dk.size = A.length + (X.length + (1 + Z.length)) := by rw [← Array.length_toList, hd]; simp only [List.length_append, List.length_cons]; omega
  have hbs : b ≤ d0.size := by omega
  have hy : dk[m]! = y := get_at (A := A ++ X) (Z := Z) (by rw [hd]; simp) (by rw [List.length_append, ha, hm])
  have gX : ∀ t x, X[t]? = some x → dk[a + t]! = x := fun t x hx => get_mid (A := A) (X := X) (Z := y :: Z) hd hx (by rw [ha])
  have HW : Aside (SWK enc k w0 blk off dk W) := hW
  have HR : Aside (RowK enc k w0 blk off d0) := R
  have HC : Aside _ := hcmp
  have HH : Aside _ := H
  have HY : Aside (X.Pairwise Ro ∧ ∀ x ∈ X, C x y) := ⟨hX, hC⟩
  have HD : Aside (dk.toList = A ++ (X ++ (y :: Z)) ∧ A.length = a ∧ a + X.length = m) := ⟨hd, ha, hm⟩
  have HX : Aside (dk[m]! = y ∧ ∀ t x, X[t]? = some x → dk[a + t]! = x) := ⟨hy, gX⟩
  have wm : IntKind.i64.wrap ((m : Int) - (a : Int)) = (m : Int) - (a : Int) := by rw [IntKind.wrap_i64]; omega
  have wm2 : ¬ (m : Int) - (a : Int) = 1 := by omega
  have wd : decide ((m : Int) - (a : Int) = 1) = false := decide_eq_false wm2
  have wd2 : ((m : Int) - (a : Int) == 1) = false := by simp; omega
  have wm3 : IntKind.i64.wrap ((b : Int) - (m : Int)) = 1 := by rw [IntKind.wrap_i64]; omega
  have wm4 : (b : Int) - (m : Int) = 1 := by omega
  have hB0 : Hid (BiR (ltOf cf) dk a m a m) := ⟨Nat.le_refl _, by omega, Nat.le_refl _, .inl rfl, .inl rfl⟩
  have hmb : a ≤ m := by omega
  have hmd : m < d0.size := by omega
  clear hd ha hm hx1 hb hX hC hy gX hW R hcmp H L hlen
  go_enter F, Try.ntmps27
  go_wp2
  go_loopw [14, 15] (fun vi vj wr => ∃ (i j : Nat), vi = .int .i64 i ∧ vj = .int .i64 j ∧ a ≤ i ∧ i ≤ j ∧ j ≤ m ∧ Aside (SWK enc k w0 blk off dk wr) ∧ Hid (BiR (ltOf cf) dk a m i j)) (fun vi vj _ => (intOf vj).toNat - (intOf vi).toNat)
  case atStart => exact ⟨a, m, rfl, rfl, Nat.le_refl _, hmb, Nat.le_refl _, HW, hB0⟩
  case round =>
    obtain ⟨i, j, rfl, rfl, hmi, hij, hjb, HWi, HB⟩ := hrel
    clear HW hB0
    by_cases hlt : i < j
    · have hltz : (i : Int) < (j : Int) := by omega
      have hwh := half_wrap (i := i) (j := j) (by omega)
      obtain ⟨h, hh⟩ : ∃ h, h = (i + j) / 2 := ⟨_, rfl⟩
      rw [← hh] at hwh
      have hh2 : ((i : Int) + (j : Int)) / 2 = (h : Int) := by omega
      have hih : i ≤ h := by omega
      have hhj : h < j := by omega
      have hz : (h : Int) < (d0.size : Int) := by omega
      have az : (m : Int) < (d0.size : Int) := by omega
      have h1z : (h : Int) + 1 < 4611686018427387904 := by omega
      clear hh
      cases hL : ltOf cf dk[m]! dk[h]! with
      | true =>
        have HBN : Hid (BiR (ltOf cf) dk a m i h) := ⟨hmi, hih, by omega, HB.out.2.2.2.1, .inr hL⟩
        obtain ⟨xh, hxh⟩ : ∃ y, y = dk[h]! := ⟨_, rfl⟩
        obtain ⟨ym, hym⟩ : ∃ y, y = dk[m]! := ⟨_, rfl⟩
        have l1 := HWi.out.ld HR.out hs P h (by omega)
        have l2 := HWi.out.ld HR.out hs P m (by omega)
        rw [← hxh] at l1
        rw [← hym] at l2
        have hc := HWi.out.cmp HC.out hs ym xh
        have hv : cf ym xh < 0 := by rw [hxh, hym]; exact of_decide_eq_true hL
        have hd : decide (cf ym xh < 0) = true := decide_eq_true hv
        clear hxh hym hL
        go_wp2_with fail
        go_quiet_grown (first | (go_at_fn g; refine Calls.grown_of (hc _ _)))
        have S2 : Aside (SWK enc k w0 blk off dk (grow (wr.drewN nq) osq)) := HWi.out.grown nq osq
        clear l1 l2 hc HWi
        generalize grow (wr.drewN nq) osq = w2 at S2 ⊢
        clear nq osq
        go_wp2
        go_roundw
        case rel => exact ⟨i, h, rfl, rfl, hmi, by omega, by omega, S2, HBN⟩
        case measure => simp [intOf]; omega
      | false =>
        have HBN : Hid (BiR (ltOf cf) dk a m (h + 1) j) := ⟨by omega, by omega, hjb, .inr (by rw [Nat.add_sub_cancel]; exact hL), HB.out.2.2.2.2⟩
        obtain ⟨xh, hxh⟩ : ∃ y, y = dk[h]! := ⟨_, rfl⟩
        obtain ⟨ym, hym⟩ : ∃ y, y = dk[m]! := ⟨_, rfl⟩
        have l1 := HWi.out.ld HR.out hs P h (by omega)
        have l2 := HWi.out.ld HR.out hs P m (by omega)
        rw [← hxh] at l1
        rw [← hym] at l2
        have hc := HWi.out.cmp HC.out hs ym xh
        have hv : ¬ cf ym xh < 0 := by rw [hxh, hym]; exact of_decide_eq_false hL
        have hd : decide (cf ym xh < 0) = false := decide_eq_false hv
        clear hxh hym hL
        go_wp2_with fail
        go_quiet_grown (first | (go_at_fn g; refine Calls.grown_of (hc _ _)))
        have S2 : Aside (SWK enc k w0 blk off dk (grow (wr.drewN nq) osq)) := HWi.out.grown nq osq
        clear l1 l2 hc HWi
        generalize grow (wr.drewN nq) osq = w2 at S2 ⊢
        clear nq osq
        go_wp2
        go_roundw
        case rel => exact ⟨h + 1, j, by go_num, rfl, by omega, by omega, hjb, S2, HBN⟩
        case measure => simp [intOf]; omega
    · obtain rfl : i = j := by omega
      have hltz : ¬ (i : Int) < (i : Int) := by omega
      obtain ⟨t, ht⟩ : ∃ t, t = i - a := ⟨_, rfl⟩
      have HF : Aside (t ≤ X.length ∧ (X.take t ++ y :: X.drop t).Pairwise Ro) := by
        obtain ⟨q1, q2, q3, q4, q5⟩ := HB.out
        obtain ⟨g1, g2⟩ := HX.out
        obtain ⟨c1, c2, c3⟩ := HD.out
        have ht2 : t ≤ X.length := by omega
        refine ⟨ht2, one_right HH.out HY.out.1 HY.out.2 ht2 ?_ ?_⟩
        · rcases q4 with q | q
          · exact .inl (by omega)
          · by_cases h0 : t = 0
            · exact .inl h0
            · obtain ⟨x, hx⟩ : ∃ x, X[t - 1]? = some x := ⟨_, List.getElem?_eq_getElem (by omega)⟩
              have := g2 _ _ hx
              rw [show a + (t - 1) = i - 1 from by omega] at this
              rw [this, g1] at q
              exact .inr ⟨x, hx, q⟩
        · rcases q5 with q | q
          · exact .inl (by omega)
          · by_cases h0 : t = X.length
            · exact .inl h0
            · obtain ⟨x, hx⟩ : ∃ x, X[t]? = some x := ⟨_, List.getElem?_eq_getElem (by omega)⟩
              have := g2 _ _ hx
              rw [show a + t = i from by omega] at this
              rw [this, g1] at q
              exact .inr ⟨x, hx, q⟩
      have HM0 : Hid (MvL A y X Z X.length dk) := by
        have := HD.out.1
        show MvL _ _ _ _ _ _
        unfold MvL; rw [List.take_length, List.drop_length]; simpa using this
      have hit : i = a + t := by omega
      obtain ⟨n, hn⟩ : ∃ n, n = X.length := ⟨_, rfl⟩
      have hal := HD.out.2.1
      have hml : m = a + n := by have := HD.out.2.2; omega
      have hty : t ≤ n := by have := HF.out.1; omega
      have HAL : Aside (A.length = a ∧ n = X.length) := ⟨hal, hn⟩
      rw [← hn] at HM0
      subst hit
      clear HB hal HX HY HC HH HD ht hn wm wm2 wm3 wm4
      go_wp2
      go_loopw [17] (fun vk wr => ∃ (s : Nat) (ds : Array α), vk = .int .i64 ((a : Int) + (s : Int)) ∧ t ≤ s ∧ s ≤ n ∧ ds.size = d0.size ∧ Aside (SWK enc k w0 blk off ds wr) ∧ Hid (MvL A y X Z s ds)) (fun vk _ => (intOf vk).toNat - a)
      case atStart => exact ⟨n, dk, by first | rfl | (rw [hml]; simp), hty, Nat.le_refl _, hs, HWi, HM0⟩
      case round =>
        obtain ⟨s, ds, rfl, hst, hsn, hss, HWs, HMs⟩ := hrel
        clear HWi HM0
        by_cases hlt : t < s
        · obtain ⟨s, rfl⟩ : ∃ r, s = r + 1 := ⟨s - 1, by omega⟩
          have hz1 : (a : Int) + (t : Int) < (a : Int) + ((s : Int) + 1) := by omega
          have HN : MvL A y X Z s (swp ds (a + s + 1) (a + s)) := by
            have := mvL_step HMs.out (by have := HAL.out.2; omega)
            rw [HAL.out.1] at this; exact this
          have wb : IntKind.i64.wrap ((a : Int) + ((s : Int) + 1) - 1) = (a : Int) + (s : Int) := by rw [IntKind.wrap_i64]; omega
          have wb2 : (a : Int) + ((s : Int) + 1) - 1 = (a : Int) + (s : Int) := by omega
          have wb3 : IntKind.i64.wrap ((a : Int) + (s : Int)) = (a : Int) + (s : Int) := by rw [IntKind.wrap_i64]; omega
          have za : (a : Int) + (s : Int) < (d0.size : Int) := by omega
          have zb : (a : Int) + ((s : Int) + 1) < (d0.size : Int) := by omega
          have za0 : (0 : Int) ≤ (a : Int) + (s : Int) := by omega
          have zb0 : (0 : Int) ≤ (a : Int) + ((s : Int) + 1) := by omega
          have ea : ((a : Int) + (s : Int)).toNat = a + s := by omega
          have eb : ((a : Int) + ((s : Int) + 1)).toNat = a + s + 1 := by omega
          have hAi : a + s < ds.size := by omega
          have hBi : a + s + 1 < ds.size := by omega
          have lb := HWs.out.ld1 HR.out hss P (a + s + 1) hBi
          have la := HWs.out.ld1 HR.out hss P (a + s) hAi
          have s1 := HWs.out.st1 HR.out hss P (a + s + 1) hBi ds[a + s]!
          have s2 := HWs.out.st2 HR.out hss P (a + s + 1) (a + s) hBi hAi ds[a + s]! ds[a + s + 1]!
          have HSP := hidK (HWs.out.swapped HR.out (a + s + 1) (a + s) hBi hAi)
          have HNN := hidK HN
          obtain ⟨cA, hcA⟩ : ∃ c, c = enc ds[a + s]! := ⟨_, rfl⟩
          obtain ⟨cB, hcB⟩ : ∃ c, c = enc ds[a + s + 1]! := ⟨_, rfl⟩
          have hlA : cA.length = k := by rw [hcA]; exact HR.out.hk _
          have hlB : cB.length = k := by rw [hcB]; exact HR.out.hk _
          rw [← hcA] at la s1 s2 HSP
          rw [← hcB] at lb s2 HSP
          clear HN hcA hcB
          go_wp2_with fail
          go_big_region_o
          all_goals go_wp2
          go_roundw
          case rel => exact ⟨s, swp ds (a + s + 1) (a + s), by go_num, by omega, by omega, by rw [swp_size]; exact hss, HSP, HNN⟩
          case measure => simp [intOf]; omega
        · obtain rfl : s = t := by omega
          have hz1 : ¬ (a : Int) + (s : Int) < (a : Int) + (s : Int) := by omega
          go_wp2
          (try simp only [Exit.inBlock, Exit.then]); refine bodyPost_ret (results_none rfl _ _ _) rfl ?_
          refine ⟨rfl, ds, HWs.out, X.take s ++ y :: X.drop s, ?_, ?_, HF.out.2⟩
          · have := HMs.out
            unfold MvL at this
            rw [this]; simp
          · have : (X.take s ++ y :: X.drop s).Perm (y :: X) := by
              refine List.perm_middle.trans ?_
              rw [List.take_append_drop]
            exact this.trans (List.perm_append_comm (l₁ := [y]) (l₂ := X))
end
end Go.Proofs.Ytbmdclgndlddbaa
