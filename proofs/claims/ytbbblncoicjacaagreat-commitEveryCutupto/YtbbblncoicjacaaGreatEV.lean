
-- CommitEveryCut's walk.
import Derived.Test.YtbbblncoicjacaaGreatEW
namespace Go.Proofs.YtbbblncoicjacaaGreat
open Go.ChangeShapes Go.WideShapes Go.ChangeAt Go.RowKit
set_option linter.unusedVariables false
set_option linter.unusedSimpArgs false
set_option maxRecDepth 100000
variable {PS : (Nat → Prop) → Nat → St → World → Prop}
set_option maxHeartbeats 16000000 in
theorem everyCut_w (C : PC PS) (fv : Value) (l : List Fil) (nm : ByteArray) (m0 m1 m2 m3 : Int) (da : ByteArray) (cv : Value) (cuts : List Int) (w : World)
    (hf : RowF w fv l) (hl : 3 * l.length ≤ 1048576) (hz : sizeF l ≤ 1048576) (hda : da.size ≤ 1048576) (hnm : nm.size ≤ 1048576)
    (hc : RowI w cv cuts) (hcb : cuts ≠ [] → ∀ k, cv.ownBlock = some k → k < w.heap.size) (hcl : cuts.length ≤ 1048576) :
    Calls Tryz.prog 6 #[fv, .agg #[.string nm, .int .i64 m0, .int .i64 m1, .int .i64 m2, .int .i64 m3, .string da], cv] w fun e w' => e = .returned (.bool true) ∧ Below w.heap.size w w' := by
  obtain ⟨X, hX⟩ : ∃ X, X = xBox nm m0 m1 m2 m3 da := ⟨_, rfl⟩
  have hbA : Below w.heap.size w (w.alloc X) := (Below.refl _ w).alloc (Nat.le_refl _) X
  have hsA : (w.alloc X).heap.size = w.heap.size + 1 := by simp
  have hfA := hf.on hbA
  obtain ⟨fa, fc, hfv⟩ := form_row hf
  obtain ⟨ca, cl, cc, hcv⟩ : ∃ a b d, cv = .slice a b d := by
    rcases hc with ⟨_, a, b, h⟩ | ⟨b, off, cap, h, _⟩ <;> exact ⟨_, _, _, h⟩
  obtain ⟨B, hBe⟩ : ∃ B, B = w.heap.size + 1 := ⟨_, rfl⟩
  have HFN : Hid (∀ W, Calls Tryz.prog 20 #[.string nm] W fun e w' => e = .returned (.bool (okName nm)) ∧ w' = W) := fun W => lawName_c nm W (by omega)
  have HSZ : Hid (∀ W, Below B (w.alloc X) W → Calls Tryz.prog 10 #[fv] W fun e w' => e = .returned (.int .i64 (sizeF l)) ∧ w' = W) := fun W hb => size_c fv l W (hfA.on (by rw [hBe, ← hsA] at hb; exact hb)) (by omega) (by omega)
  have HPC : Hid (∀ W, Calls Tryz.prog 21 #[.string da] W fun e w' => e = .returned (.int .i64 (nP da)) ∧ w' = W) := fun W => pieces_c da W (by omega)
  have HXB : Hid (∀ W, Below B (w.alloc X) W → W.cell? ⟨w.heap.size, 0, none⟩ = some (.string nm) ∧ W.cell? ⟨w.heap.size, 1, none⟩ = some (.int .i64 m0) ∧ W.cell? ⟨w.heap.size, 2, none⟩ = some (.int .i64 m1) ∧ W.cell? ⟨w.heap.size, 3, none⟩ = some (.int .i64 m2) ∧ W.cell? ⟨w.heap.size, 4, none⟩ = some (.int .i64 m3) ∧ W.cell? ⟨w.heap.size, 5, none⟩ = some (.string da)) := fun W hb => by rw [hBe, hX] at hb; exact xbox_cells hb
  have HEND : Hid (∀ W, Below B (w.alloc X) W → Below w.heap.size w W) := fun W hb => hbA.trans (hb.mono (by omega))
  have HBB : Hid (∀ W, Below B (w.alloc X) W → B ≤ W.heap.size) := fun W hb => by have := hb.size; omega
  have HRND : Hid (∀ (W : World) (k : Nat) (n : Int) (cap : Nat), Below B (w.alloc X) W → 1 ≤ k → l.length ≤ 60 → da.size ≤ 2000 → cap = sizeF l + da.size + 1 → cap ≤ 1048576 → nm ≠ tmpB → okName nm = true →
      ∃ s L A E v2, Rnd PS nm m0 m1 m2 m3 da cap fv cv k n W.heap.size W L A E (decide (k ≤ 5 + nP da)) s v2 (v2.restart n cuts) ∧ L.length ≤ 64 ∧ A.length ≤ 64 ∧ E = (if k < 5 + nP da then 41 else if k = 5 + nP da then 160 else 0) ∧ (A = L ∨ A = newF L (nm, (m0, m1, m2, m3), da)) ∧ (5 + nP da < k → A = newF L (nm, (m0, m1, m2, m3), da)) ∧ (k < 5 + nP da → A = L)) := fun W k n cap hb hk h1 h2 h3 h4 h5 h6 => by
    have hbw := hbA.trans (hb.mono (by omega))
    have hs := hbw.size
    exact round_is C nm m0 m1 m2 m3 da l cap fv cv cuts k hk n W.heap.size W rfl (hfA.on (by rw [hBe, ← hsA] at hb; exact hb)) h1 hz h2 h3 h4 h5 h6 (RowI.on (B := w.heap.size) hc hbw hcb) (fun hne i hi => by have := hcb hne i hi; omega) hcl
  have HWO : Hid (∀ W v (M : List Fil), RowF W v M → M.length ≤ 64 → Calls Tryz.prog 19 #[v, .string nm] W fun e w' => ∃ v', e = .returned v' ∧ RowF w' v' (othersF M nm) ∧ Below W.heap.size W w') := fun W v M hr hm => by
    refine (withoutF_c v M nm W hr (by omega)).mono ?_
    rintro e w' ⟨v', rfl, h1, h2⟩
    exact ⟨v', rfl, h1.row, h2⟩
  have HSA : Hid (∀ W v v' (M M' : List Fil), RowF W v M → RowF W v' M' → M.length ≤ 64 → M'.length ≤ 64 → Calls Tryz.prog 16 #[v, v'] W fun e w' => e = .returned (.bool (decide (M = M'))) ∧ Below W.heap.size W w') := fun W v v' M M' h1 h2 h3 h4 => sameF_c v v' M M' W h1 h2 (by omega) (by omega)
  have HHA : Hid (∀ W v (M : List Fil), RowF W v M → M.length ≤ 64 → Calls Tryz.prog 18 #[v, .agg #[.string nm, .int .i64 m0, .int .i64 m1, .int .i64 m2, .int .i64 m3, .string da]] W fun e w' => e = .returned (.bool (hasF M (nm, (m0, m1, m2, m3), da))) ∧ Below W.heap.size W w') := fun W v M hr hm => hasF_c v M nm m0 m1 m2 m3 da W hr (by omega)
  have HNUM : Hid (sizeF l ≤ 1048576 ∧ da.size ≤ 1048576 ∧ 3 * l.length ≤ 1048576) := ⟨hz, hda, hl⟩
  obtain ⟨LN, hLN⟩ : ∃ LN, LN = l.length := ⟨_, rfl⟩
  rw [← hLN] at hfv HRND HNUM
  obtain ⟨kN, hkN⟩ : ∃ kN, kN = okName nm := ⟨_, rfl⟩
  rw [← hkN] at HFN HRND
  obtain ⟨Z, hZ⟩ : ∃ Z, Z = sizeF l := ⟨_, rfl⟩
  rw [← hZ] at HSZ HRND HNUM
  obtain ⟨NP, hNP⟩ : ∃ NP, NP = nP da := ⟨_, rfl⟩
  have hNPl : NP ≤ 2049 := by rw [hNP]; unfold nP; omega
  rw [← hNP] at HPC HRND
  subst hfv; subst hcv
  have HXE : Hid (X = .cells #[.string nm, .int .i64 m0, .int .i64 m1, .int .i64 m2, .int .i64 m3, .string da] 26) := hX
  have HB0 : Hid (Below B (w.alloc X) (w.alloc X)) := Below.refl _ _
  clear hf hfA hc hsA hz hl hBe hcb hcl hX hbA hLN hkN hZ hNP hda hnm
  go_enter Tryz.func6, Tryz.ntmps6
  go_upto_region 1 with fail
  rw [← HXE.out]
  obtain ⟨x0, x1, x2, x3, x4, x5⟩ := HXB.out _ HB0.out
  obtain ⟨W1, hW1⟩ : ∃ W1, W1 = w.alloc X := ⟨_, rfl⟩
  rw [← hW1] at x0 x1 x2 x3 x4 x5 HSZ HXB HEND HBB HRND HB0 ⊢
  clear hW1 HXE
  go_upto_region 2 with (go_at_call 20; refine (HFN.out _).mono ?_; rintro e w2 ⟨rfl, hw2⟩; subst w2)
  obtain ⟨n1, n2, n3⟩ := HNUM.out
  go_cut [8] from 25 to 31 (fun s wx => s = .int .i64 ((Z : Int) + (da.size : Int) + 1) ∧ ∃ W, wx = W ∧ Below W1.heap.size W1 W)
  case first =>
    have bz : (Z : Int) + (da.size : Int) ≤ 2097152 := by omega
    have bz0 : (0 : Int) ≤ (Z : Int) + (da.size : Int) := by omega
    have bz1 : (Z : Int) + (da.size : Int) + 1 ≤ 2097153 := by omega
    have HZ1 : Hid (∀ W, Below W1.heap.size W1 W → Calls Tryz.prog 10 #[.slice fa LN fc] W fun e w' => e = .returned (.int .i64 (Z : Int)) ∧ w' = W) := fun W hb => HSZ.out W (HB0.out.trans (hb.mono (HBB.out _ HB0.out)))
    clear HSZ HXB HEND HBB HRND HFN HWO HSA HHA HPC
    go_quiet ((go_at_call 10; exact Calls.quiet_of_same (HZ1.out _ (by first | exact Below.refl _ _ | exact belDrewN (Below.refl _ _) _))))
    go_wp2
    go_meet
    case rel => exact ⟨rfl, _, rfl, belDrewN (Below.refl _ _) nq⟩
  case rest =>
    obtain ⟨hs2, W2, hw2, hb2⟩ := hcut
    rw [hw2]
    subst hs2
    clear hw2 x0 x1 x2 x3 x4 x5
    have hB2 := HB0.out.trans (hb2.mono (HBB.out _ HB0.out))
    obtain ⟨x0, x1, x2, x3, x4, x5⟩ := HXB.out _ hB2
    have hE2 := HEND.out _ hB2
    clear hb2
    cases kN
    · go_wp2
      go_ret
      exact ⟨rfl, hE2⟩
    · by_cases p2 : nm = tmpB
      · have x0' : W2.cell? ⟨w.heap.size, 0, none⟩ = some (.string ⟨#[97, 114, 46, 116, 109, 112, 126]⟩) := by rw [x0, p2]; rfl
        clear x0 p2
        go_wp2
        go_ret
        exact ⟨rfl, hE2⟩
      · have hbt : (nm.toList == [97, 114, 46, 116, 109, 112, 126]) = false := by
          have : tmpB.toList = [97, 114, 46, 116, 109, 112, 126] := by rw [ByteArray.toList_eq]; rfl
          rw [← this, beq_toList]; exact decide_eq_false p2
        have hbt2 : ¬ nm.toList = [97, 114, 46, 116, 109, 112, 126] := by simpa using hbt
        have HP2 := hidK p2
        clear p2
        by_cases p3 : (2000 : Int) < (da.size : Int)
        · have b3 : decide ((2000 : Int) < (da.size : Int)) = true := decide_eq_true p3
          go_wp2
          go_ret
          exact ⟨rfl, hE2⟩
        · have b3 : decide ((2000 : Int) < (da.size : Int)) = false := decide_eq_false p3
          by_cases p4 : (60 : Int) < (LN : Int)
          · have b4 : decide ((60 : Int) < (LN : Int)) = true := decide_eq_true p4
            go_wp2
            go_ret
            exact ⟨rfl, hE2⟩
          · have b4 : decide ((60 : Int) < (LN : Int)) = false := decide_eq_false p4
            by_cases p5 : (1048576 : Int) < (Z : Int) + (da.size : Int) + 1
            · have b5 : decide ((1048576 : Int) < (Z : Int) + (da.size : Int) + 1) = true := decide_eq_true p5
              go_wp2
              go_ret
              exact ⟨rfl, hE2⟩
            · have b5 : decide ((1048576 : Int) < (Z : Int) + (da.size : Int) + 1) = false := decide_eq_false p5
              have HR2 : Hid (∀ (W : World) (k : Nat) (n : Int), Below B W1 W → 1 ≤ k → ∃ s L A E v2, Rnd PS nm m0 m1 m2 m3 da (Z + da.size + 1) (.slice fa LN fc) (.slice ca cl cc) k n W.heap.size W L A E (decide (k ≤ 5 + NP)) s v2 (v2.restart n cuts) ∧ L.length ≤ 64 ∧ A.length ≤ 64 ∧ E = (if k < 5 + NP then 41 else if k = 5 + NP then 160 else 0) ∧ (A = L ∨ A = newF L (nm, (m0, m1, m2, m3), da)) ∧ (5 + NP < k → A = newF L (nm, (m0, m1, m2, m3), da)) ∧ (k < 5 + NP → A = L)) := fun W k n hb hk => HRND.out W k n (Z + da.size + 1) hb hk (by omega) (by omega) rfl (by omega) HP2.out rfl
              go_upto_region 6 with (go_at_call 21; refine (HPC.out _).mono ?_; rintro e w3 ⟨rfl, hw3⟩; subst w3)
              have HB2 := hidK hB2
              clear HRND HSZ HFN hB2 hE2 x0 x1 x2 x3 x4 x5 hbt hbt2 HP2 b3 b4 b5 HPC
              go_wp2_with fail
              go_loopw [10] (fun i wx => ∃ k : Nat, i = .int .i64 k ∧ 1 ≤ k ∧ k ≤ 7 + NP ∧ Below B W1 wx) (fun i _ => 8 + NP - (intOf i).toNat)
              case atStart => exact ⟨1, rfl, Nat.le_refl _, by omega, HB2.out⟩
              case round =>
                obtain ⟨k, rfl, hk1, hk7, hBk⟩ := hrel
                by_cases hk : k ≤ 6 + NP
                case neg =>
                  have bk : ¬ ((k : Int) ≤ 5 + (NP : Int) + 1) := by omega
                  have bk2 : decide ((k : Int) ≤ 5 + (NP : Int) + 1) = false := decide_eq_false bk
                  have hfin := HEND.out _ hBk
                  clear HR2 HWO HSA HHA HXB HEND HBB
                  go_wp2
                  go_ret
                  exact ⟨rfl, hfin⟩
                case pos =>
                  have bk : (k : Int) ≤ 5 + (NP : Int) + 1 := by omega
                  have bk2 : decide ((k : Int) ≤ 5 + (NP : Int) + 1) = true := decide_eq_true bk
                  have HBk := hidK hBk
                  clear hBk
                  go_wp2_with fail
                  go_loopw [11] (fun i wx => ∃ d : Nat, i = .int .i64 d ∧ d ≤ 4 ∧ Below B W1 wx) (fun i _ => 4 - (intOf i).toNat)
                  case atStart => exact ⟨0, rfl, Nat.zero_le _, HBk.out⟩
                  case round =>
                    obtain ⟨d, rfl, hd4, hBd⟩ := hrel
                    by_cases hd : d < 4
                    case neg =>
                      obtain rfl : d = 4 := by omega
                      go_wp2
                      exact ⟨⟨k + 1, by go_num, by omega, by omega, hBd⟩, by simp [intOf]; omega⟩
                    case pos =>
                      have bd : (d : Int) < 4 := by omega
                      have bd2 : decide ((d : Int) < 4) = true := decide_eq_true bd
                      obtain ⟨s, L, A, E, v2, R, hLl, hAl, hE, hA1, hA2, hA3⟩ := HR2.out wr k (d : Int) hBd hk1
                      have hcp : (((Z + da.size + 1 : Nat)) : Int) = (Z : Int) + (da.size : Int) + 1 := by push_cast; rfl
                      have HSC := hidK R.scene
                      rw [hcp] at HSC
                      have HV1 := hidK R.view1
                      have HAR := hidK R.arm
                      have HRE := hidK R.repl
                      have HDN := hidK R.down
                      have HRS := hidK R.rest
                      have HV2 := hidK R.view2
                      have HCO : Hid (∀ W op nm ev, ErrIs W wr.heap.size op nm E ev → Calls Tryz.prog 13 #[ev] W fun r w' => r = .returned (.int .i64 E) ∧ w' = W) := fun W op nm ev h => code_c wr.heap.size op nm E ev W h
                      have HBX : Hid (∀ W, Below wr.heap.size wr W → Below B W1 W) := fun W hb => hBd.trans (hb.mono (HBB.out _ hBd))
                      have hOth : othersF A nm = othersF L nm := that_eq_others (x := (nm, (m0, m1, m2, m3), da)) hA1
                      obtain ⟨tO, htO⟩ : ∃ tO, tO = decide (A = L) := ⟨_, rfl⟩
                      obtain ⟨hO, hhO⟩ : ∃ hO, hO = hasF A (nm, (m0, m1, m2, m3), da) := ⟨_, rfl⟩
                      have hNF : A = newF L (nm, (m0, m1, m2, m3), da) → hO = true := fun h => by rw [hhO, h]; exact newF_has L _
                      have hTL : A = L → tO = true := fun h => by rw [htO]; exact decide_eq_true h
                      have HLL : Hid (L.length ≤ 64 ∧ A.length ≤ 64 ∧ (othersF A nm).length ≤ 64 ∧ (othersF L nm).length ≤ 64) := ⟨hLl, hAl, Nat.le_trans (List.length_filter_le _ _) hAl, Nat.le_trans (List.length_filter_le _ _) hLl⟩
                      have HTO := hidK htO
                      have HHO := hidK hhO
                      have HOTH := hidK hOth
                      have HCASE : Hid ((tO = true ∨ hO = true) ∧ (5 + NP < k → hO = true) ∧ (k < 5 + NP → tO = true)) := ⟨by rcases hA1 with h | h; exact .inl (hTL h); exact .inr (hNF h), fun h => hNF (hA2 h), fun h => hTL (hA3 h)⟩
                      have HE := hidK hE
                      obtain ⟨LL, hLL⟩ : ∃ LL, LL = L.length := ⟨_, rfl⟩
                      obtain ⟨AL, hAL⟩ : ∃ AL, AL = A.length := ⟨_, rfl⟩
                      rw [← hLL] at HV1
                      rw [← hAL] at HV2
                      obtain ⟨DD, hDD⟩ : ∃ DD, DD = decide (k ≤ 5 + NP) := ⟨_, rfl⟩
                      rw [← hDD] at HDN
                      have HDD := hidK hDD
                      clear R hLl hAl hE hA1 hA2 hA3 hcp hOth htO hhO hNF hTL hLL hAL hDD HR2 HBk
                      go_upto_region 19 with (first
                        | (go_at_call 7; refine HSC.out.mono ?_; rintro e w4 ⟨q, rfl, hL4, hb4⟩)
                        | (go_at_call 9; refine (HV1.out q _ hL4 hb4).mono ?_; rintro e w5 ⟨ao, cap, j, rfl, hL5, hb5⟩; have hB5 := hb4.trans hb5)
                        | (go_at_call 11; refine (HAR.out q j _ w5 hL5 hB5).mono ?_; rintro e w6 ⟨rfl, hL6, hb6⟩; have hB6 := hB5.trans hb6))
                      obtain ⟨x0, x1, x2, x3, x4, x5⟩ := HXB.out _ (HBX.out w6 hB6)
                      clear HSC HV1 HAR hL4 hb4 hL5 hb5 hB5 hb6
                      go_upto_region 24 with (first
                        | (go_at_call 12; refine (HRE.out q _ _ hL6 hB6).mono ?_; rintro e w7 ⟨ev, rfl, ⟨op, enm, he7⟩, hL7, hb7⟩; have hB7 := hB6.trans hb7)
                        | (go_at_call 13; refine (HCO.out _ op enm ev he7).mono ?_; rintro e w8 ⟨rfl, hw8⟩; subst w8)
                        | (go_at_call 14; refine (HDN.out q _ _ hL7).mono ?_; rintro e w9 ⟨rfl, hw9⟩; subst w9)
                        | (go_at_call 15; refine (HRS.out q _ _ hL7 hB7).mono ?_; rintro e w10 ⟨rfl, hL10, hb10⟩; have hB10 := hB7.trans hb10)
                        | (go_at_call 9; refine (HV2.out q _ _ hL10 hB10).mono ?_; rintro e w11 ⟨ao2, cap2, j2, rfl, hL11, hb11⟩; have hB11 := hB10.trans hb11))
                      obtain ⟨y0, y1, y2, y3, y4, y5⟩ := HXB.out _ (HBX.out w11 hB11)
                      have rA : RowF w11 (.slice ao2 AL cap2) A := hL11.row (r := (.slice ao2 AL cap2, A)) (by simp)
                      have rL : RowF w11 (.slice ao LL cap) L := hL11.row (r := (.slice ao LL cap, L)) (by simp)
                      have HRA : Hid (RowF w11 (.slice ao2 AL cap2) A ∧ RowF w11 (.slice ao LL cap) L ∧ Below B W1 w11) := ⟨rA, rL, HBX.out w11 hB11⟩
                      clear rA rL hL11 hb11 hB11 hL10 hb10 hB10 hL7 hb7 hB7 hL6 hB6 he7 HRE HCO HDN HRS HV2 x0 x1 x2 x3 x4 x5 HBX
                      go_cut [19] from 106 to 114 (fun s wx => s = .bool true ∧ ∃ W, wx = W ∧ Below w11.heap.size w11 W)
                      case first =>
                        have HW1 : Hid (∀ W, Below w11.heap.size w11 W → Calls Tryz.prog 19 #[.slice ao2 AL cap2, .string nm] W fun e w' => ∃ v', e = .returned v' ∧ RowF w' v' (othersF A nm) ∧ Below w11.heap.size w11 w') := fun W hb => by
                          refine (HWO.out W _ A (HRA.out.1.on hb) HLL.out.2.1).mono ?_
                          rintro e w' ⟨v', rfl, h1, h2⟩
                          exact ⟨v', rfl, h1, hb.trans (h2.mono hb.size)⟩
                        have HW2 : Hid (∀ Wa W va, Below w11.heap.size w11 Wa → Below Wa.heap.size Wa W → RowF Wa va (othersF A nm) → Calls Tryz.prog 19 #[.slice ao LL cap, .string nm] W fun e w' => ∃ v', e = .returned v' ∧ RowF w' v' (othersF L nm) ∧ RowF w' va (othersF A nm) ∧ Below w11.heap.size w11 w') := fun Wa W va hb1 hb hr => by
                          have hbb : Below w11.heap.size w11 W := hb1.trans (hb.mono hb1.size)
                          refine (HWO.out W _ L (HRA.out.2.1.on hbb) HLL.out.1).mono ?_
                          rintro e w' ⟨v', rfl, h1, h2⟩
                          exact ⟨v', rfl, h1, (hr.on hb).on h2, hbb.trans (h2.mono hbb.size)⟩
                        have HS2 : Hid (∀ Wa W v v', Below w11.heap.size w11 Wa → Below Wa.heap.size Wa W → RowF Wa v (othersF A nm) → RowF Wa v' (othersF L nm) → Calls Tryz.prog 16 #[v, v'] W fun e w' => e = .returned (.bool true) ∧ Below w11.heap.size w11 w') := fun Wa W v v' hb1 hb h1 h2 => by
                          refine (HSA.out W v v' _ _ (h1.on hb) (h2.on hb) HLL.out.2.2.1 HLL.out.2.2.2).mono ?_
                          rintro e w' ⟨rfl, hb2⟩
                          have hbb : Below w11.heap.size w11 W := hb1.trans (hb.mono hb1.size)
                          exact ⟨by rw [decide_eq_true HOTH.out], hbb.trans (hb2.mono hbb.size)⟩
                        have hr0 : Below w11.heap.size w11 w11 := Below.refl _ _
                        clear HWO HSA HHA HXB HEND HBB
                        go_region_with (first
                          | (go_at_call_of 19 ao2; refine (HW1.out _ ?_).mono ?_; go_grown; rintro e wa ⟨va, rfl, ra, ba⟩; have ya := cell_onG y0 ba)
                          | (go_at_call_of 19 ao; refine (HW2.out wa _ va ba ?_ ra).mono ?_; go_grown; rintro e wb ⟨vb, rfl, rb, rab, bb⟩)
                          | (go_at_call 16; refine (HS2.out wb _ va vb bb ?_ rab rb).mono ?_; go_grown; rintro e wc ⟨rfl, bc⟩))
                        all_goals
                          go_wp2
                          go_meet
                          case rel => exact ⟨rfl, _, rfl, by first | exact bc | exact bc.drew | exact bc.trans (by go_grown)⟩
                      case rest =>
                        obtain ⟨hs8, W8, hw8, hb8⟩ := hcut
                        rw [hw8]
                        subst hs8
                        clear hw8 y0 y1 y2 y3 y4 y5
                        have hB8 := HRA.out.2.2.trans (hb8.mono (HBB.out _ HRA.out.2.2))
                        have rA8 := HRA.out.1.on hb8
                        have rL8 := HRA.out.2.1.on hb8
                        have HS3 : Hid (Calls Tryz.prog 16 #[.slice ao2 AL cap2, .slice ao LL cap] W8 fun e w' => e = .returned (.bool tO) ∧ RowF w' (.slice ao2 AL cap2) A ∧ Below B W1 w') := by
                          refine (HSA.out W8 _ _ A L rA8 rL8 HLL.out.2.1 HLL.out.1).mono ?_
                          rintro e w' ⟨rfl, hb⟩
                          exact ⟨by rw [HTO.out], rA8.on hb, hB8.trans (hb.mono (HBB.out _ hB8))⟩
                        have HH3 : Hid (∀ W, RowF W (.slice ao2 AL cap2) A → Below B W1 W → Calls Tryz.prog 18 #[.slice ao2 AL cap2, .agg #[.string nm, .int .i64 m0, .int .i64 m1, .int .i64 m2, .int .i64 m3, .string da]] W fun e w' => e = .returned (.bool hO) ∧ Below B W1 w') := fun W h1 h3 => by
                          refine (HHA.out W _ A h1 HLL.out.2.1).mono ?_
                          rintro e w' ⟨rfl, hb⟩
                          exact ⟨by rw [HHO.out], h3.trans (hb.mono (HBB.out _ h3))⟩
                        clear rA8 rL8 hb8 hB8 HWO HSA HHA HTO HHO HOTH HRA
                        go_upto_region 26 with (go_at_call 16; refine HS3.out.mono ?_; rintro e w12 ⟨rfl, rA12, hB12⟩)
                        obtain ⟨y0, y1, y2, y3, y4, y5⟩ := HXB.out w12 hB12
                        go_upto_region 27 with (go_at_call 18; refine (HH3.out _ rA12 hB12).mono ?_; rintro e w13 ⟨rfl, hB13⟩)
                        clear y0 y1 y2 y3 y4 y5 rA12 hB12 HS3 HH3
                        obtain ⟨q1, q2, q3⟩ := HCASE.out
                        rcases Nat.lt_trichotomy k (5 + NP) with ht | ht | ht
                        · have hEv : E = 41 := by rw [HE.out, if_pos ht]
                          have hD : DD = true := by rw [HDD.out]; exact decide_eq_true (by omega)
                          have hT := q3 ht
                          subst hEv; subst hD; subst hT
                          have c1 : (k : Int) ≤ 5 + (NP : Int) := by omega
                          have c2 : ¬ (5 + (NP : Int) < (k : Int)) := by omega
                          have c3 : (k : Int) < 5 + (NP : Int) := by omega
                          have c4 : ((k : Int) == 5 + (NP : Int)) = false := by simp; omega
                          have b1 : decide ((k : Int) ≤ 5 + (NP : Int)) = true := decide_eq_true c1
                          have b2 : decide (5 + (NP : Int) < (k : Int)) = false := decide_eq_false c2
                          have b3 : decide ((k : Int) < 5 + (NP : Int)) = true := decide_eq_true c3
                          clear q1 q2 q3 HCASE HE HDD HLL
                          cases hO
                          all_goals
                            go_wp2
                            exact ⟨⟨d + 1, by go_num, by omega, hB13⟩, by simp [intOf]; omega⟩
                        · have hEv : E = 160 := by rw [HE.out, if_neg (by omega), if_pos ht]
                          have hD : DD = true := by rw [HDD.out]; exact decide_eq_true (by omega)
                          subst hEv; subst hD
                          have c1 : (k : Int) ≤ 5 + (NP : Int) := by omega
                          have c2 : ¬ (5 + (NP : Int) < (k : Int)) := by omega
                          have c3 : ¬ ((k : Int) < 5 + (NP : Int)) := by omega
                          have c4 : ((k : Int) == 5 + (NP : Int)) = true := by simp; omega
                          have b1 : decide ((k : Int) ≤ 5 + (NP : Int)) = true := decide_eq_true c1
                          have b2 : decide (5 + (NP : Int) < (k : Int)) = false := decide_eq_false c2
                          have b3 : decide ((k : Int) < 5 + (NP : Int)) = false := decide_eq_false c3
                          have HKE := hidK ht
                          clear q2 q3 HCASE HE HDD HLL ht
                          cases tO
                          · have hT : hO = true := by
                              rcases q1 with h | h
                              · cases h
                              · exact h
                            subst hT
                            clear q1
                            go_wp2
                            exact ⟨⟨d + 1, by go_num, by omega, hB13⟩, by simp [intOf]; omega⟩
                          · clear q1
                            cases hO
                            all_goals
                              go_wp2
                              exact ⟨⟨d + 1, by go_num, by omega, hB13⟩, by simp [intOf]; omega⟩
                        · have hEv : E = 0 := by rw [HE.out, if_neg (by omega), if_neg (by omega)]
                          have hD : DD = false := by rw [HDD.out]; exact decide_eq_false (by omega)
                          have hT := q2 ht
                          subst hEv; subst hD; subst hT
                          have c1 : ¬ ((k : Int) ≤ 5 + (NP : Int)) := by omega
                          have c2 : 5 + (NP : Int) < (k : Int) := by omega
                          have c3 : ¬ ((k : Int) < 5 + (NP : Int)) := by omega
                          have c4 : ((k : Int) == 5 + (NP : Int)) = false := by simp; omega
                          have b1 : decide ((k : Int) ≤ 5 + (NP : Int)) = false := decide_eq_false c1
                          have b2 : decide (5 + (NP : Int) < (k : Int)) = true := decide_eq_true c2
                          have b3 : decide ((k : Int) < 5 + (NP : Int)) = false := decide_eq_false c3
                          clear q1 q2 q3 HCASE HE HDD HLL
                          cases tO
                          all_goals
                            go_wp2
                            exact ⟨⟨d + 1, by go_num, by omega, hB13⟩, by simp [intOf]; omega⟩
end Go.Proofs.YtbbblncoicjacaaGreat
