import Derived.Test.YtggnjgmjfenibaaGreatDoorRBz

-- The document's Told.
namespace Go.Proofs.YtggnjgmjfenibaaGreatDoor
open Go.RowKit
set_option linter.unusedVariables false
set_option maxRecDepth 100000
set_option maxHeartbeats 8000000 in
theorem rtold_c (G : Nat → Prop) (r : Nat) (v : Vs) (nm data : ByteArray) (m0 m1 m2 m3 : Int) (w : World) (kk : Nat) (h : RV G r v w) (hv : Vf v kk) (hk : kk + nP data + 8 < 2097151) (hd : data.size ≤ 140737488355328) (hnm : nm.size ≤ 140737488355328) :
    Calls Tryz.prog 23 #[.pointer (some ⟨r, 0, none⟩), .string nm, .string data, .agg #[.int .i64 m0, .int .i64 m1, .int .i64 m2, .int .i64 m3]] w fun e w' => ∃ G', e = .returned (.tuple #[.int .i64 ((v.replace nm data m0 m1 m2 m3).1.1 : Int), .int .i64 ((v.replace nm data m0 m1 m2 m3).1.2 : Int)]) ∧ Rb G r (v.replace nm data m0 m1 m2 m3).2 w G' w' := by
  obtain ⟨X, hX⟩ : ∃ X, X = Obj.cells #[.int .i64 m0, .int .i64 m1, .int .i64 m2, .int .i64 m3] 30 := ⟨_, rfl⟩
  have hbA : Below w.heap.size w (w.alloc X) := (Below.refl _ w).alloc (Nat.le_refl _) X
  have hR0 : Rb G r v w G (w.alloc X) := (Rb.refl h).below hbA
  have hnG : ¬ G w.heap.size := fun hg => by have := h.low _ hg; omega
  have HXE := hidK hX
  have hcn := hv.cnt
  have HFN : Hid (∀ W, Calls Tryz.prog 51 #[.string nm] W fun e w' => e = .returned (.bool (okName nm)) ∧ w' = W) := fun W => fileName_c nm W
  by_cases h1 : nm = tmpB
  · have hr : v.replace nm data m0 m1 m2 m3 = ((161, 1), v) := by unfold Vs.replace; rw [if_pos h1]
    rw [hr]
    have HR0 := hidK hR0
    have h1' : nm = ⟨#[97, 114, 46, 116, 109, 112, 126]⟩ := h1
    subst h1'
    clear hr h hv hk hd hbA hR0 hX hcn h1 HFN hnG hnm
    go_enter Tryz.func23, Tryz.ntmps23
    go_wp2
    go_returns
    exact ⟨G, rfl, by rw [← HXE.out]; exact HR0.out⟩
  · have htl : tmpB.toList = [97, 114, 46, 116, 109, 112, 126] := by rw [ByteArray.toList_eq]; rfl
    have bq : (nm.toList == [97, 114, 46, 116, 109, 112, 126]) = false := by rw [← htl, beq_toList]; exact decide_eq_false h1
    have bq2 : ¬ nm.toList = [97, 114, 46, 116, 109, 112, 126] := by simpa using bq
    by_cases h2 : okName nm = false
    · have hr : v.replace nm data m0 m1 m2 m3 = ((32, 1), v) := by unfold Vs.replace; rw [if_neg h1, if_pos h2]
      rw [hr]
      have HR0 := hidK hR0
      rw [h2] at HFN
      clear hr h hv hk hd hbA hR0 hX hcn h1 htl h2 hnG
      go_enter Tryz.func23, Tryz.ntmps23
      go_wp2_with (go_at_call 51; refine (HFN.out _).mono ?_; rintro e w1 ⟨rfl, hw1⟩; subst w1)
      go_returns
      exact ⟨G, rfl, by rw [← HXE.out]; exact HR0.out⟩
    · have h2' : okName nm = true := by simpa using h2
      rw [h2'] at HFN
      obtain ⟨⟨e1, v1⟩, hs1⟩ : ∃ s, s = v.syncDir := ⟨_, rfl⟩
      have hv1 : Vf v1 (kk + 1) := by have := hv.syncDir; rw [← hs1] at this; exact this
      have HS1 : Hid (Calls Tryz.prog 46 #[.pointer (some ⟨r, 0, none⟩)] (w.alloc X) fun e w' => e = .returned (.int .i64 (e1 : Int)) ∧ ∃ G', Rb G r v1 w G' w') := by
        refine (rSyncDir_c G r v (w.alloc X) hR0.vol hv.wf (by omega)).mono ?_
        rintro e w' ⟨rfl, hd⟩
        rw [← hs1] at hd ⊢
        exact ⟨rfl, _, hR0.did hd⟩
      by_cases h3 : e1 = 0
      case neg =>
        have hr : v.replace nm data m0 m1 m2 m3 = ((e1, 2), v1) := by unfold Vs.replace; rw [if_neg h1, if_neg h2, ← hs1, if_pos h3]
        rw [hr]
        have b0 : ((e1 : Int) == 0) = false := by simp; omega
        have b0' : ¬ ((e1 : Int) = 0) := by omega
        clear hr h hv hk hd hbA hR0 hX hcn h1 htl h2 h2' h3 hs1 hv1 hnG
        go_enter Tryz.func23, Tryz.ntmps23
        go_wp2_with (first
          | (go_at_call 51; refine (HFN.out _).mono ?_; rintro e w1 ⟨rfl, hw1⟩; subst w1)
          | (go_at_call 46; rw [← HXE.out]; refine HS1.out.mono ?_; rintro e w2 ⟨rfl, G', hb2⟩))
        go_returns
        exact ⟨G', rfl, hb2⟩
      case pos =>
        subst h3
        have HS1x : Hid (Calls Tryz.prog 46 #[.pointer (some ⟨r, 0, none⟩)] (w.alloc X) fun e w' => e = .returned (.int .i64 0) ∧ ∃ G', Rb G r v1 w G' w' ∧ w'.heap[w.heap.size]? = some X) := by
          refine (rSyncDir_c G r v (w.alloc X) hR0.vol hv.wf (by omega)).mono ?_
          rintro e w' ⟨rfl, hd⟩
          rw [← hs1] at hd ⊢
          refine ⟨rfl, _, hR0.did hd, ?_⟩
          rw [hd.2.block _ (by simp) hnG]; exact heap_alloc_new w X
        have HWR : Hid (∀ G' W, Rb G r v1 w G' W → Calls Tryz.prog 52 #[.pointer (some ⟨r, 0, none⟩), .string data, .agg #[.int .i64 m0, .int .i64 m1, .int .i64 m2, .int .i64 m3]] W fun e w' => ∃ G2 a, e = .returned (.tuple #[.int .i64 ((v1.written data m0 m1 m2 m3).1.1 : Int), .int .i64 (a : Int)]) ∧ ((v1.written data m0 m1 m2 m3).1.1 ≠ 0 → a = ((v1.written data m0 m1 m2 m3).1.2 : Int)) ∧ Rb G r (v1.written data m0 m1 m2 m3).2 w G2 w') := fun G' W hb => by
          refine (rwritten_c G' r v1 data m0 m1 m2 m3 W (kk + 1) hb.vol hv1 (by omega) hd).mono ?_
          rintro e w' ⟨G2, a, rfl, h5, h6⟩
          exact ⟨G2, a, rfl, h5, hb.turn h6.vol h6.kept h6.sub h6.sup⟩
        have hv2 := hv1.written (by omega) data m0 m1 m2 m3
        have hre : v.replace nm data m0 m1 m2 m3 = Vs.lastly (v1.exch nm data m0 m1 m2 m3) := by unfold Vs.replace; rw [if_neg h1, if_neg h2, ← hs1, if_neg (by simp)]
        unfold Vs.exch at hre
        obtain ⟨⟨⟨E, A⟩, v2⟩, hwt⟩ : ∃ c, c = v1.written data m0 m1 m2 m3 := ⟨_, rfl⟩
        rw [← hwt] at HWR hv2 hre
        simp only at HWR
        have hc2 := hv2.cnt
        have HRM : Hid (∀ v' G' W, Vf v' (kk + 1 + nP data + 2 + 1) → Rb G r v' w G' W → Calls Tryz.prog 54 #[.pointer (some ⟨r, 0, none⟩), .string ⟨#[97, 114, 46, 116, 109, 112, 126]⟩] W fun e w' => ∃ z : Nat, e = .returned (.int .i64 (z : Int)) ∧ ∃ G2, Rb G r (v'.remove tmpB).2 w G2 w') := fun v' G' W hf hb => by
          refine (rRemove_c G' r v' tmpB W hb.vol hf.wf (by have := hf.cnt; omega)).mono ?_
          rintro e w' ⟨rfl, hd⟩
          exact ⟨_, rfl, _, hb.did hd⟩
        have HXC : Hid (∀ W : World, W.heap[w.heap.size]? = some X → W.cell? ⟨w.heap.size, 0, none⟩ = some (.int .i64 m0) ∧ W.cell? ⟨w.heap.size, 1, none⟩ = some (.int .i64 m1) ∧ W.cell? ⟨w.heap.size, 2, none⟩ = some (.int .i64 m2) ∧ W.cell? ⟨w.heap.size, 3, none⟩ = some (.int .i64 m3)) := fun W hh => by
          rw [hX] at hh
          refine ⟨?_, ?_, ?_, ?_⟩ <;> (rw [Lib.cell_of_heap hh]; rfl)
        by_cases hE : E = 0
        case neg =>
          have hr : v.replace nm data m0 m1 m2 m3 = ((E, A), (v2.remove tmpB).2) := by
            rw [hre]
            have e1 : Vs.named ((E, A), v2) nm = ((E, A), v2) := by unfold Vs.named; rw [if_pos hE]
            rw [e1]
            have e2 : Vs.undone ((E, A), v2) = ((E, A), (v2.remove tmpB).2) := by unfold Vs.undone; rw [if_pos hE]
            rw [e2]
            unfold Vs.lastly; rw [if_pos hE]
          rw [hr]
          have b0 : ((E : Int) == 0) = false := by simp; omega
          have b0' : ¬ ((E : Int) = 0) := by omega
          have HV2 : Hid (Vf v2 (kk + 1 + nP data + 2 + 1)) := hv2.mono (by omega)
          have HWR2 : Hid (∀ G' W, Rb G r v1 w G' W → Calls Tryz.prog 52 #[.pointer (some ⟨r, 0, none⟩), .string data, .agg #[.int .i64 m0, .int .i64 m1, .int .i64 m2, .int .i64 m3]] W fun e w' => ∃ G2, e = .returned (.tuple #[.int .i64 (E : Int), .int .i64 (A : Int)]) ∧ Rb G r v2 w G2 w') := fun G' W hb => by
            refine (HWR.out G' W hb).mono ?_
            rintro e w' ⟨G2, a, rfl, h5, h6⟩
            rw [h5 hE]; exact ⟨G2, rfl, h6⟩
          clear hr h hv hk hd hbA hR0 hX hcn h1 htl h2 h2' hs1 hv1 hnG HS1 HWR hre hwt hE hv2 hc2
          go_enter Tryz.func23, Tryz.ntmps23
          go_upto_region 9 with (first
            | (go_at_call 51; refine (HFN.out _).mono ?_; rintro e w1 ⟨rfl, hw1⟩; subst w1)
            | (go_at_call 46; rw [← HXE.out]; refine HS1x.out.mono ?_; rintro e w2 ⟨rfl, G', hb2, hx2⟩))
          obtain ⟨x0, x1, x2, x3⟩ := HXC.out w2 hx2
          go_upto_region 10 with (go_at_call 52; refine (HWR2.out G' _ hb2).mono ?_; rintro e w3 ⟨G3, rfl, hb3⟩)
          clear x0 x1 x2 x3 hb2 hx2 HWR2 HS1x HFN
          go_wp2_with (go_at_call 54; refine (HRM.out v2 G3 _ HV2.out hb3).mono ?_; rintro e w4 ⟨z, rfl, G4, hb4⟩)
          go_returns
          exact ⟨G4, rfl, hb4⟩
        case pos =>
          subst hE
          obtain ⟨⟨R, v3⟩, hrn⟩ : ∃ c, c = v2.rename tmpB nm := ⟨_, rfl⟩
          have hv3 : Vf v3 (kk + 1 + nP data + 2 + 1) := by have := hv2.rename (by omega) tmpB nm; rw [← hrn] at this; exact this
          have HRN : Hid (∀ G' W, Rb G r v2 w G' W → Calls Tryz.prog 53 #[.pointer (some ⟨r, 0, none⟩), .string ⟨#[97, 114, 46, 116, 109, 112, 126]⟩, .string nm] W fun e w' => e = .returned (.int .i64 (R : Int)) ∧ ∃ G2, Rb G r v3 w G2 w') := fun G' W hb => by
            refine (rRename_c G' r v2 tmpB nm W hb.vol hv2.wf (by have : v2.cnt ≤ _ := hv2.cnt; omega)).mono ?_
            rintro e w' ⟨rfl, hd⟩
            rw [← hrn] at hd ⊢
            exact ⟨rfl, _, hb.did hd⟩
          have HWR2 : Hid (∀ G' W, Rb G r v1 w G' W → Calls Tryz.prog 52 #[.pointer (some ⟨r, 0, none⟩), .string data, .agg #[.int .i64 m0, .int .i64 m1, .int .i64 m2, .int .i64 m3]] W fun e w' => ∃ G2 a, e = .returned (.tuple #[.int .i64 0, .int .i64 a]) ∧ Rb G r v2 w G2 w') := fun G' W hb => by
            refine (HWR.out G' W hb).mono ?_
            rintro e w' ⟨G2, a, rfl, h5, h6⟩
            exact ⟨G2, a, rfl, h6⟩
          have hnmd : Vs.named ((0, A), v2) nm = ((R, 6), v3) := by unfold Vs.named; rw [if_neg (by simp), ← hrn]
          rw [hnmd] at hre
          by_cases hR : R = 0
          case neg =>
            have hr : v.replace nm data m0 m1 m2 m3 = ((R, 6), (v3.remove tmpB).2) := by
              rw [hre]
              have e2 : Vs.undone ((R, 6), v3) = ((R, 6), (v3.remove tmpB).2) := by unfold Vs.undone; rw [if_pos hR]
              rw [e2]
              unfold Vs.lastly; rw [if_pos hR]
            rw [hr]
            have b0 : ((R : Int) == 0) = false := by simp; omega
            have b0' : ¬ ((R : Int) = 0) := by omega
            have HV3 := hidK hv3
            clear hr h hv hk hd hbA hR0 hX hcn h1 htl h2 h2' hs1 hv1 hnG HS1 HWR hre hwt hv2 hc2 hR hv3 hnmd hrn
            go_enter Tryz.func23, Tryz.ntmps23
            go_upto_region 9 with (first
              | (go_at_call 51; refine (HFN.out _).mono ?_; rintro e w1 ⟨rfl, hw1⟩; subst w1)
              | (go_at_call 46; rw [← HXE.out]; refine HS1x.out.mono ?_; rintro e w2 ⟨rfl, G', hb2, hx2⟩))
            obtain ⟨x0, x1, x2, x3⟩ := HXC.out w2 hx2
            go_upto_region 10 with (go_at_call 52; refine (HWR2.out G' _ hb2).mono ?_; rintro e w3 ⟨G3, a3, rfl, hb3⟩)
            clear x0 x1 x2 x3 hb2 hx2 HWR2 HS1x HFN
            go_wp2_with (first
              | (go_at_call 53; refine (HRN.out G3 _ hb3).mono ?_; rintro e w4 ⟨rfl, G4, hb4⟩)
              | (go_at_call 54; refine (HRM.out v3 G4 _ HV3.out hb4).mono ?_; rintro e w5 ⟨z, rfl, G5, hb5⟩))
            go_returns
            exact ⟨G5, rfl, hb5⟩
          case pos =>
            subst hR
            obtain ⟨⟨S, v4⟩, hsd⟩ : ∃ c, c = v3.syncDir := ⟨_, rfl⟩
            have HS2 : Hid (∀ G' W, Rb G r v3 w G' W → Calls Tryz.prog 46 #[.pointer (some ⟨r, 0, none⟩)] W fun e w' => e = .returned (.int .i64 (S : Int)) ∧ ∃ G2, Rb G r v4 w G2 w') := fun G' W hb => by
              refine (rSyncDir_c G' r v3 W hb.vol hv3.wf (by have := hv3.cnt; omega)).mono ?_
              rintro e w' ⟨rfl, hd⟩
              rw [← hsd] at hd ⊢
              exact ⟨rfl, _, hb.did hd⟩
            have hr : v.replace nm data m0 m1 m2 m3 = if S ≠ 0 then ((160, 7), v4) else ((0, 0), v4) := by
              rw [hre]
              have e2 : Vs.undone ((0, 6), v3) = ((0, 6), v3) := by unfold Vs.undone; rw [if_neg (by simp)]
              rw [e2]
              unfold Vs.lastly; rw [if_neg (by simp), ← hsd]
            rw [hr]
            clear hr h hv hk hd hbA hR0 hX hcn h1 htl h2 h2' hs1 hv1 hnG HS1 HWR hre hwt hv2 hc2 hv3 hnmd hrn hsd HRM
            by_cases hS : S = 0
            · subst hS
              rw [if_neg (by simp)]
              go_enter Tryz.func23, Tryz.ntmps23
              go_upto_region 9 with (first
                | (go_at_call 51; refine (HFN.out _).mono ?_; rintro e w1 ⟨rfl, hw1⟩; subst w1)
                | (go_at_call 46; rw [← HXE.out]; refine HS1x.out.mono ?_; rintro e w2 ⟨rfl, G', hb2, hx2⟩))
              obtain ⟨x0, x1, x2, x3⟩ := HXC.out w2 hx2
              go_upto_region 10 with (go_at_call 52; refine (HWR2.out G' _ hb2).mono ?_; rintro e w3 ⟨G3, a3, rfl, hb3⟩)
              clear x0 x1 x2 x3 hb2 hx2 HWR2 HS1x HFN
              go_wp2_with (first
                | (go_at_call 53; refine (HRN.out G3 _ hb3).mono ?_; rintro e w4 ⟨rfl, G4, hb4⟩)
                | (go_at_call 46; refine (HS2.out G4 _ hb4).mono ?_; rintro e w5 ⟨rfl, G5, hb5⟩))
              go_returns
              exact ⟨G5, rfl, hb5⟩
            · rw [if_pos hS]
              have b0 : ((S : Int) == 0) = false := by simp; omega
              have b0' : ¬ ((S : Int) = 0) := by omega
              clear hS
              go_enter Tryz.func23, Tryz.ntmps23
              go_upto_region 9 with (first
                | (go_at_call 51; refine (HFN.out _).mono ?_; rintro e w1 ⟨rfl, hw1⟩; subst w1)
                | (go_at_call 46; rw [← HXE.out]; refine HS1x.out.mono ?_; rintro e w2 ⟨rfl, G', hb2, hx2⟩))
              obtain ⟨x0, x1, x2, x3⟩ := HXC.out w2 hx2
              go_upto_region 10 with (go_at_call 52; refine (HWR2.out G' _ hb2).mono ?_; rintro e w3 ⟨G3, a3, rfl, hb3⟩)
              clear x0 x1 x2 x3 hb2 hx2 HWR2 HS1x HFN
              go_wp2_with (first
                | (go_at_call 53; refine (HRN.out G3 _ hb3).mono ?_; rintro e w4 ⟨rfl, G4, hb4⟩)
                | (go_at_call 46; refine (HS2.out G4 _ hb4).mono ?_; rintro e w5 ⟨rfl, G5, hb5⟩))
              go_returns
              exact ⟨G5, rfl, hb5⟩
end Go.Proofs.YtggnjgmjfenibaaGreatDoor
