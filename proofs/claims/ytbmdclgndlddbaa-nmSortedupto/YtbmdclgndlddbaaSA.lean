
-- slices' merge in place (1): one element against a row.
import Derived.Test.YtbmdclgndlddbaaSR
namespace Go.Proofs.Ytbmdclgndlddbaa
open Go.ChangeShapes Go.WideShapes Go.ChangeAt Go.RowKit Go.Sort Go.Shelf Go.Lib
set_option linter.unusedVariables false
set_option maxRecDepth 100000
set_option linter.unusedSimpArgs false
section
variable {P : Program} {α : Type} [Inhabited α] {enc : α → List Value} {k : Nat} {w0 : World} {blk off : Nat} {d0 : Array α}
/-- the search for the place of one element before a row -/
def BiL (lt : α → α → Bool) (d : Array α) (a m b i j : Nat) : Prop := m ≤ i ∧ i ≤ j ∧ j ≤ b ∧ (i = m ∨ lt d[i - 1]! d[a]! = true) ∧ (j = b ∨ lt d[j]! d[a]! = false)
theorem half_wrap {i j : Nat} (h : i + j < 9223372036854775808) : IntKind.i64.wrap (IntKind.u64.wrap (IntKind.i64.wrap ((i : Int) + (j : Int))) / 2) = (((i + j) / 2 : Nat) : Int) := by
  rw [IntKind.wrap_i64, IntKind.wrap_u64, IntKind.wrap_i64]; omega
set_option maxHeartbeats 4000000 in
set_option maxRecDepth 1000000 in
theorem sym_one_l (L : StL P k) (R : RowK enc k w0 blk off d0) {g : Nat} {cb : Array Value} {cf : α → α → Int} (eg : ∀ args w, (callFunc g args).run P w = .ok (.enter g args) w) (hcmp : CmpLays P g cb enc k cf blk off d0.size w0) {C Ro : α → α → Prop} (H : Cmp (ltOf cf) C Ro) (cap : Nat) (hsz : d0.size < 4611686018427387904)
    {A Y Z : List α} {x : α} {a m b : Nat} {dk : Array α} {W : World} (hd : dk.toList = A ++ (x :: (Y ++ Z))) (ha : A.length = a) (hm : a + 1 = m) (hb : m + Y.length = b) (hY : Y.Pairwise Ro) (hC : ∀ y ∈ Y, C x y) (hW : SWK enc k w0 blk off dk W) (hs : dk.size = d0.size) :
    Calls P 27 #[.slice (some ⟨blk, off, none⟩) d0.size cap, .int .i64 a, .int .i64 m, .int .i64 b, .func (.func g) #[] cb] W fun e w' => e = .returned (.tuple #[]) ∧ ∃ d' : Array α, SWK enc k w0 blk off d' w' ∧ Mgd Ro A [x] Y Z d' := by
  have mixed := L.mixed; have t0 := L.t0; have a0 := L.a0; have z0 := L.z0; have v0 := L.v0; have t3 := L.t3; have a3 := L.a3; have z3 := L.z3; have v3 := L.v3; have t4 := L.t4; have a4 := L.a4; have z4 := L.z4; have v4 := L.v4; have tU := L.tU; have aU := L.aU; have zU := L.zU; have vU := L.vU; have tS := L.tS; have aS := L.aS; have zS := L.zS; have vS := L.vS; have tC := L.tC; have aC := L.aC; have zC := L.zC; have vC := L.vC; have aE := L.aE; have zE := L.zE
  have uS := run_underlying L.tS
  have F := L.f37
  have hlen : dk.size = A.length + (1 + (Y.length + Z.length)) := by rw [← Array.length_toList, hd]; simp only [List.length_append, List.length_cons]; omega
  have hbs : b ≤ d0.size := by omega
  have hx : dk[a]! = x := get_at (A := A) (Z := Y ++ Z) hd ha.symm
  have gY : ∀ t y, Y[t]? = some y → dk[m + t]! = y := fun t y hy => get_mid (A := A ++ [x]) (Z := Z) (by rw [hd]; simp) hy (by rw [List.length_append, ha]; simp; omega)
  have HW : Aside (SWK enc k w0 blk off dk W) := hW
  have HR : Aside (RowK enc k w0 blk off d0) := R
  have HC : Aside _ := hcmp
  have HH : Aside _ := H
  have HY : Aside (Y.Pairwise Ro ∧ ∀ y ∈ Y, C x y) := ⟨hY, hC⟩
  have HD : Aside (dk.toList = A ++ (x :: (Y ++ Z)) ∧ A.length = a ∧ m + Y.length = b) := ⟨hd, ha, hb⟩
  have HX : Aside (dk[a]! = x ∧ ∀ t y, Y[t]? = some y → dk[m + t]! = y) := ⟨hx, gY⟩
  have HL : Aside (StL P k) := L
  have wm : IntKind.i64.wrap ((m : Int) - (a : Int)) = 1 := by rw [IntKind.wrap_i64]; omega
  have wm2 : (m : Int) - (a : Int) = 1 := by omega
  have hB0 : Hid (BiL (ltOf cf) dk a m b m b) := ⟨Nat.le_refl _, by omega, Nat.le_refl _, .inl rfl, .inl rfl⟩
  have hmb : m ≤ b := by omega
  clear hd ha hb hY hC hx gY hW R hcmp H L hlen
  go_enter F, Try.ntmps27
  go_wp2
  go_loopw [10, 11] (fun vi vj wr => ∃ (i j : Nat), vi = .int .i64 i ∧ vj = .int .i64 j ∧ m ≤ i ∧ i ≤ j ∧ j ≤ b ∧ Aside (SWK enc k w0 blk off dk wr) ∧ Hid (BiL (ltOf cf) dk a m b i j)) (fun vi vj _ => (intOf vj).toNat - (intOf vi).toNat)
  case atStart => exact ⟨m, b, rfl, rfl, Nat.le_refl _, hmb, Nat.le_refl _, HW, hB0⟩
  case round =>
    obtain ⟨i, j, rfl, rfl, hmi, hij, hjb, HWi, HB⟩ := hrel
    clear HW hB0
    by_cases hlt : i < j
    · have hltz : (i : Int) < (j : Int) := by omega
      have hwh := half_wrap (i := i) (j := j) (by omega)
      obtain ⟨h, hh⟩ : ∃ h, h = (i + j) / 2 := ⟨_, rfl⟩
      rw [← hh] at hwh
      have hh2 : ((i : Int) + (j : Int)) / 2 = (h : Int) := by omega
      have hih : i ≤ h := by omega
      have hhj : h < j := by omega
      have hz : (h : Int) < (d0.size : Int) := by omega
      have az : (a : Int) < (d0.size : Int) := by omega
      have h1z : (h : Int) + 1 < 4611686018427387904 := by omega
      clear hh
      cases hL : ltOf cf dk[h]! dk[a]! with
      | true =>
        have HBN : Hid (BiL (ltOf cf) dk a m b (h + 1) j) := ⟨by omega, by omega, hjb, .inr (by rw [Nat.add_sub_cancel]; exact hL), HB.out.2.2.2.2⟩
        obtain ⟨yh, hyh⟩ : ∃ y, y = dk[h]! := ⟨_, rfl⟩
        obtain ⟨xa, hxa⟩ : ∃ y, y = dk[a]! := ⟨_, rfl⟩
        have l1 := HWi.out.ld HR.out hs P h (by omega)
        have l2 := HWi.out.ld HR.out hs P a (by omega)
        rw [← hyh] at l1
        rw [← hxa] at l2
        have hc := HWi.out.cmp HC.out hs yh xa
        have hv : cf yh xa < 0 := by rw [hyh, hxa]; exact of_decide_eq_true hL
        have hd : decide (cf yh xa < 0) = true := decide_eq_true hv
        clear hyh hxa hL
        go_wp2_with fail
        go_quiet_grown (first | (go_at_fn g; refine Calls.grown_of (hc _ _)))
        have S2 : Aside (SWK enc k w0 blk off dk (grow (wr.drewN nq) osq)) := HWi.out.grown nq osq
        clear l1 l2 hc HWi
        generalize grow (wr.drewN nq) osq = w2 at S2 ⊢
        clear nq osq
        go_wp2
        go_roundw
        case rel => exact ⟨h + 1, j, by go_num, rfl, by omega, by omega, hjb, S2, HBN⟩
        case measure => simp [intOf]; omega
      | false =>
        have HBN : Hid (BiL (ltOf cf) dk a m b i h) := ⟨hmi, hih, by omega, HB.out.2.2.2.1, .inr hL⟩
        obtain ⟨yh, hyh⟩ : ∃ y, y = dk[h]! := ⟨_, rfl⟩
        obtain ⟨xa, hxa⟩ : ∃ y, y = dk[a]! := ⟨_, rfl⟩
        have l1 := HWi.out.ld HR.out hs P h (by omega)
        have l2 := HWi.out.ld HR.out hs P a (by omega)
        rw [← hyh] at l1
        rw [← hxa] at l2
        have hc := HWi.out.cmp HC.out hs yh xa
        have hv : ¬ cf yh xa < 0 := by rw [hyh, hxa]; exact of_decide_eq_false hL
        have hd : decide (cf yh xa < 0) = false := decide_eq_false hv
        clear hyh hxa hL
        go_wp2_with fail
        go_quiet_grown (first | (go_at_fn g; refine Calls.grown_of (hc _ _)))
        have S2 : Aside (SWK enc k w0 blk off dk (grow (wr.drewN nq) osq)) := HWi.out.grown nq osq
        clear l1 l2 hc HWi
        generalize grow (wr.drewN nq) osq = w2 at S2 ⊢
        clear nq osq
        go_wp2
        go_roundw
        case rel => exact ⟨i, h, rfl, rfl, hmi, by omega, by omega, S2, HBN⟩
        case measure => simp [intOf]; omega
    · obtain rfl : i = j := by omega
      have hltz : ¬ (i : Int) < (i : Int) := by omega
      obtain ⟨t, ht⟩ : ∃ t, t = i - m := ⟨_, rfl⟩
      have HF : Aside (t ≤ Y.length ∧ (Y.take t ++ x :: Y.drop t).Pairwise Ro) := by
        obtain ⟨q1, q2, q3, q4, q5⟩ := HB.out
        obtain ⟨g1, g2⟩ := HX.out
        obtain ⟨c1, c2, c3⟩ := HD.out
        have ht2 : t ≤ Y.length := by omega
        refine ⟨ht2, one_left HH.out HY.out.1 HY.out.2 ht2 ?_ ?_⟩
        · rcases q4 with q | q
          · exact .inl (by omega)
          · by_cases h0 : t = 0
            · exact .inl h0
            · obtain ⟨y, hy⟩ : ∃ y, Y[t - 1]? = some y := ⟨_, List.getElem?_eq_getElem (by omega)⟩
              have := g2 _ _ hy
              rw [show m + (t - 1) = i - 1 from by omega] at this
              rw [this, g1] at q
              exact .inr ⟨y, hy, q⟩
        · rcases q5 with q | q
          · exact .inl (by omega)
          · by_cases h0 : t = Y.length
            · exact .inl h0
            · obtain ⟨y, hy⟩ : ∃ y, Y[t]? = some y := ⟨_, List.getElem?_eq_getElem (by omega)⟩
              have := g2 _ _ hy
              rw [show m + t = i from by omega] at this
              rw [this, g1] at q
              exact .inr ⟨y, hy, q⟩
      have HM0 : Hid (MvR A x Y Z 0 dk) := by
        have := HD.out.1
        show MvR _ _ _ _ _ _
        unfold MvR; simpa using this
      have hit : i = m + t := by omega
      have hal := HD.out.2.1
      have hty : t ≤ Y.length := HF.out.1
      have HAL : Aside (A.length = a ∧ t ≤ Y.length) := ⟨hal, hty⟩
      subst hit
      have wi : IntKind.i64.wrap ((m : Int) + (t : Int) - 1) = (a : Int) + (t : Int) := by rw [IntKind.wrap_i64]; omega
      have wi3 : IntKind.i64.wrap ((a : Int) + (t : Int)) = (a : Int) + (t : Int) := by rw [IntKind.wrap_i64]; omega
      have wi2 : (m : Int) + (t : Int) - 1 = (a : Int) + (t : Int) := by omega
      clear HB hal hty HX HY HC HH HD ht wm wm2
      go_wp2
      go_loopw [13] (fun vk wr => ∃ (s : Nat) (ds : Array α), vk = .int .i64 ((a : Int) + (s : Int)) ∧ s ≤ t ∧ ds.size = d0.size ∧ Aside (SWK enc k w0 blk off ds wr) ∧ Hid (MvR A x Y Z s ds)) (fun vk _ => a + t - (intOf vk).toNat)
      case atStart => exact ⟨0, dk, by simp, Nat.zero_le _, hs, HWi, HM0⟩
      case round =>
        obtain ⟨s, ds, rfl, hst, hss, HWs, HMs⟩ := hrel
        clear HWi HM0
        by_cases hlt : s < t
        · have hz1 : (a : Int) + (s : Int) < (a : Int) + (t : Int) := by omega
          have hty : t ≤ Y.length := HAL.out.2
          have HN : MvR A x Y Z (s + 1) (swp ds (a + s) (a + s + 1)) := by
            have := mvR_step HMs.out (by omega)
            rw [HAL.out.1] at this; exact this
          have wb : IntKind.i64.wrap ((a : Int) + (s : Int) + 1) = (a : Int) + (s : Int) + 1 := by rw [IntKind.wrap_i64]; omega
          have za : (a : Int) + (s : Int) < (d0.size : Int) := by omega
          have zb : (a : Int) + (s : Int) + 1 < (d0.size : Int) := by omega
          have za0 : (0 : Int) ≤ (a : Int) + (s : Int) := by omega
          have zb0 : (0 : Int) ≤ (a : Int) + (s : Int) + 1 := by omega
          have ea : ((a : Int) + (s : Int)).toNat = a + s := by omega
          have eb : ((a : Int) + (s : Int) + 1).toNat = a + s + 1 := by omega
          have hAi : a + s < ds.size := by omega
          have hBi : a + s + 1 < ds.size := by omega
          have lb := HWs.out.ld1 HR.out hss P (a + s + 1) hBi
          have la := HWs.out.ld1 HR.out hss P (a + s) hAi
          have s1 := HWs.out.st1 HR.out hss P (a + s) hAi ds[a + s + 1]!
          have s2 := HWs.out.st2 HR.out hss P (a + s) (a + s + 1) hAi hBi ds[a + s + 1]! ds[a + s]!
          have HSP := hidK (HWs.out.swapped HR.out (a + s) (a + s + 1) hAi hBi)
          have HNN := hidK HN
          obtain ⟨cA, hcA⟩ : ∃ c, c = enc ds[a + s]! := ⟨_, rfl⟩
          obtain ⟨cB, hcB⟩ : ∃ c, c = enc ds[a + s + 1]! := ⟨_, rfl⟩
          have hlA : cA.length = k := by rw [hcA]; exact HR.out.hk _
          have hlB : cB.length = k := by rw [hcB]; exact HR.out.hk _
          rw [← hcA] at la s2 HSP
          rw [← hcB] at lb s1 s2 HSP
          clear HN hcA hcB hty
          go_wp2_with fail
          go_big_region_o
          all_goals go_wp2
          go_roundw
          case rel => exact ⟨s + 1, swp ds (a + s) (a + s + 1), by go_num, by omega, by rw [swp_size]; exact hss, HSP, HNN⟩
          case measure => simp [intOf]; omega
        · obtain rfl : s = t := by omega
          have hz1 : ¬ (a : Int) + (s : Int) < (a : Int) + (s : Int) := by omega
          go_wp2
          (try simp only [Exit.inBlock, Exit.then]); refine bodyPost_ret (results_none rfl _ _ _) rfl ?_
          refine ⟨rfl, ds, HWs.out, Y.take s ++ x :: Y.drop s, ?_, ?_, HF.out.2⟩
          · have := HMs.out
            unfold MvR at this
            rw [this]; simp
          · refine List.perm_middle.trans ?_
            rw [List.take_append_drop]; exact List.Perm.refl _
end
end Go.Proofs.Ytbmdclgndlddbaa
