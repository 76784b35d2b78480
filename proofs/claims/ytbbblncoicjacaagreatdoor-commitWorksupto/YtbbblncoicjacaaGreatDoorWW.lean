
-- CommitWorks' walk.
import Derived.Test.YtbbblncoicjacaaGreatDoorLW
import Derived.Test.YtbbblncoicjacaaGreatDoorXW
import Derived.Test.YtbbblncoicjacaaGreatDoorOW
import Derived.Deep.CutRange
namespace Go.Proofs.YtbbblncoicjacaaGreatDoor
open Go.ChangeShapes Go.WideShapes Go.ChangeAt Go.RowKit
set_option linter.unusedVariables false
set_option linter.unusedSimpArgs false
set_option maxRecDepth 100000
variable {PS : (Nat → Prop) → Nat → St → World → Prop}
theorem lw_load (C : PC PS) (B q : Nat) (v : Vs) (rows : Rws) (nm da : ByteArray) (w : World) (h : Lw PS B q v rows w) (hB : B ≤ w.heap.size) (hw : Wf v.st) (hn : v.cnt ≤ 4194304) (v' : Vs) (hr : v.read nm = ((da, 0), v')) :
    Calls Tryz.prog 12 #[.pointer (some ⟨q, 0, none⟩), .string nm] w fun e w' => e = .returned (.tuple #[.string da, .bool true, .nilIface]) ∧ Lw PS B q v' rows w' ∧ Below B w w' := by
  have HRD : Hid (Calls Tryz.prog 26 #[.pointer (some ⟨q, 0, none⟩), .string nm] w fun e w' => e = .returned (.tuple #[.string da, .nilIface]) ∧ Lw PS B q v' rows w' ∧ Below B w w') := by
    obtain ⟨G, h1, h2, h3⟩ := h
    refine (fRead_c C G q v nm w h1 hw hn).mono ?_
    rintro e w' ⟨ev, rfl, he, hd⟩
    rw [hr] at he hd ⊢
    rw [he.nil]
    exact ⟨rfl, lw_did h2 hB h3 h1 hd⟩
  clear h hB hw hn hr
  go_enter Tryz.func12, Tryz.ntmps12
  go_wp2_with (go_at_call 26; refine HRD.out.mono ?_; rintro e w1 ⟨rfl, h1, h2⟩)
  go_returns
  exact ⟨rfl, h1, h2⟩
theorem lw_stat (C : PC PS) (B q : Nat) (v : Vs) (rows : Rws) (nm : ByteArray) (E : Nat) (w : World) (h : Lw PS B q v rows w) (hB : B ≤ w.heap.size) (hw : Wf v.st) (hn : v.cnt ≤ 4194304) (v' : Vs) (x : ByteArray × Bd) (hr : v.stat nm = ((x, E), v')) :
    Calls Tryz.prog 13 #[.pointer (some ⟨q, 0, none⟩), .string nm] w fun e w' => ∃ ev d0 d1 d2 d3 d4 d5, e = .returned (.tuple #[.agg #[.int .i64 d0, .int .i64 d1, .int .i64 d2, .int .i64 d3, .string d4, .int .i64 d5], ev]) ∧ ErrIs w' B ⟨#[115, 116, 97, 116]⟩ nm E ev ∧ Lw PS B q v' rows w' ∧ Below B w w' := by
  obtain ⟨G, h1, h2, h3⟩ := h
  refine (fStat_c C G q v nm w h1 hw hn).mono ?_
  rintro e w' ⟨ev, rfl, he, hd⟩
  unfold stV
  rw [hr] at he hd ⊢
  exact ⟨ev, _, _, _, _, _, _, rfl, he.low hB, lw_did h2 hB h3 h1 hd⟩
set_option maxHeartbeats 16000000 in
theorem works_w (C : PC PS) (c : Int) (fv : Value) (l : List Fil) (nm : ByteArray) (m0 m1 m2 m3 : Int) (da : ByteArray) (w : World)
    (hf : RowF w fv l) (hl : 3 * l.length ≤ 1048576) (hz : sizeF l ≤ 1048576) (hda : da.size ≤ 1048576) (hnm : nm.size ≤ 1048576) :
    Calls Tryz.prog 3 #[.int .i64 c, fv, .agg #[.string nm, .int .i64 m0, .int .i64 m1, .int .i64 m2, .int .i64 m3, .string da]] w fun e w' => e = .returned (.bool true) ∧ Below w.heap.size w w' := by
  obtain ⟨X, hX⟩ : ∃ X, X = xBox nm m0 m1 m2 m3 da := ⟨_, rfl⟩
  have hbA : Below w.heap.size w (w.alloc X) := (Below.refl _ w).alloc (Nat.le_refl _) X
  have hsA : (w.alloc X).heap.size = w.heap.size + 1 := by simp
  have hfA := hf.on hbA
  obtain ⟨fa, fc, hfv⟩ := form_row hf
  obtain ⟨B, hBe⟩ : ∃ B, B = w.heap.size + 1 := ⟨_, rfl⟩
  have HXB : Hid (∀ W, Below B (w.alloc X) W → W.cell? ⟨w.heap.size, 0, none⟩ = some (.string nm) ∧ W.cell? ⟨w.heap.size, 1, none⟩ = some (.int .i64 m0) ∧ W.cell? ⟨w.heap.size, 2, none⟩ = some (.int .i64 m1) ∧ W.cell? ⟨w.heap.size, 3, none⟩ = some (.int .i64 m2) ∧ W.cell? ⟨w.heap.size, 4, none⟩ = some (.int .i64 m3) ∧ W.cell? ⟨w.heap.size, 5, none⟩ = some (.string da)) := fun W hb => by rw [hBe, hX] at hb; exact xbox_cells hb
  have HEND : Hid (∀ W, Below B (w.alloc X) W → Below w.heap.size w W) := fun W hb => hbA.trans (hb.mono (by omega))
  have HBB : Hid (∀ W, Below B (w.alloc X) W → B ≤ W.heap.size) := fun W hb => by have := hb.size; omega
  have HXE : Hid (X = .cells #[.string nm, .int .i64 m0, .int .i64 m1, .int .i64 m2, .int .i64 m3, .string da] 26) := hX
  have HFN : Hid (∀ W, Calls Tryz.prog 5 #[.string nm] W fun e w' => e = .returned (.bool (okName nm)) ∧ w' = W) := fun W => lawName_c nm W (by omega)
  by_cases hcc : c < 0 ∨ 1073741824 < c
  case pos =>
    have HSC : Hid (Calls Tryz.prog 4 #[.int .i64 c, fv] (w.alloc X) fun e w' => e = .returned (.pointer none) ∧ Below B (w.alloc X) w') := by
      refine (scene_no C c fv l (w.alloc X) hcc hfA).mono ?_
      rintro e w' ⟨rfl, hb⟩
      exact ⟨rfl, hb.mono (by omega)⟩
    have HG : Hid (∀ W, Calls Tryz.prog 6 #[.int .i64 c] W fun e w' => e = .returned (.bool false) ∧ w' = W) := fun W => by
      refine (good_c c W).mono ?_
      rintro e w' ⟨rfl, rfl⟩
      exact ⟨by rw [decide_eq_false (by omega)], rfl⟩
    subst hfv
    clear hf hfA hcc hbA hsA hX hBe
    go_enter Tryz.func3, Tryz.ntmps3
    go_upto_region 2 with (go_at_call 4; rw [← HXE.out]; refine HSC.out.mono ?_; rintro e w1 ⟨rfl, hB1⟩)
    obtain ⟨x0, x1, x2, x3, x4, x5⟩ := HXB.out w1 hB1
    go_upto_region 3 with (go_at_call 5; refine (HFN.out _).mono ?_; rintro e w2 ⟨rfl, hw2⟩; subst w2)
    go_wp2_with (go_at_call 6; refine (HG.out _).mono ?_; rintro e w3 ⟨rfl, hw3⟩; subst w3)
    go_ret
    exact ⟨rfl, HEND.out _ hB1⟩
  case neg =>
    obtain ⟨cn, rfl⟩ := Int.eq_ofNat_of_zero_le (show 0 ≤ c by omega)
    have hcn : cn ≤ 1073741824 := by omega
    obtain ⟨s, L, hS⟩ := is_scene cn hcn l (by omega)
    have hVF := Vf.scene cn hcn l (by omega)
    rw [hS.eq] at hVF
    have hsb : s.bodies.length < 2097151 := by have : s.bodies.length ≤ _ := hVF.bodies; omega
    have hnP : nP da ≤ 2049 := by unfold nP; omega
    have hLl : L.length ≤ 64 := hS.few
    have HG : Hid (∀ W, Calls Tryz.prog 6 #[.int .i64 (cn : Int)] W fun e w' => e = .returned (.bool true) ∧ w' = W) := fun W => by
      refine (good_c cn W).mono ?_
      rintro e w' ⟨rfl, rfl⟩
      exact ⟨by rw [decide_eq_true (by omega)], rfl⟩
    have HSC : Hid (Calls Tryz.prog 4 #[.int .i64 (cn : Int), fv] (w.alloc X) fun e w' => ∃ q, e = .returned (.pointer (some ⟨q, 0, none⟩)) ∧ Lw PS B q ⟨s, [], 0, false, 0⟩ [] w' ∧ Below B (w.alloc X) w') := by
      have := lw_scene C cn fv l (w.alloc X) hcn hfA (by omega) (fun x hx => by
        have : x.2.2.size ≤ sizeF l := size_mem hx
        omega)
      rw [hS.eq, hsA, ← hBe] at this
      exact this
    by_cases hbad : okName nm = false ∨ nm = tmpB
    case pos =>
      subst hfv
      clear hf hfA hcc hbA hsA hX hBe hS hVF hsb hnP hLl
      go_enter Tryz.func3, Tryz.ntmps3
      go_upto_region 2 with (go_at_call 4; rw [← HXE.out]; refine HSC.out.mono ?_; rintro e w1 ⟨q, rfl, hL1, hB1⟩)
      obtain ⟨x0, x1, x2, x3, x4, x5⟩ := HXB.out w1 hB1
      go_upto_region 3 with (go_at_call 5; refine (HFN.out _).mono ?_; rintro e w2 ⟨rfl, hw2⟩; subst w2)
      obtain ⟨kN, hkN⟩ : ∃ kN, kN = okName nm := ⟨_, rfl⟩
      rw [← hkN] at hbad ⊢
      clear hkN
      cases kN
      · clear hbad
        go_wp2_with (go_at_call 6; refine (HG.out _).mono ?_; rintro e w3 ⟨rfl, hw3⟩; subst w3)
        go_ret
        exact ⟨rfl, HEND.out _ hB1⟩
      · have p2 : nm = tmpB := by
          rcases hbad with h | h
          · cases h
          · exact h
        have y0' : w1.cell? ⟨w.heap.size, 0, none⟩ = some (.string ⟨#[97, 114, 46, 116, 109, 112, 126]⟩) := by rw [x0, p2]; rfl
        clear x0 p2 hbad
        go_wp2_with (go_at_call 6; refine (HG.out _).mono ?_; rintro e w3 ⟨rfl, hw3⟩; subst w3)
        go_ret
        exact ⟨rfl, HEND.out _ hB1⟩
    case neg =>
      have hok : okName nm = true := by
        cases h : okName nm
        · exact absurd (.inl h) hbad
        · rfl
      have hne : nm ≠ tmpB := fun h => hbad (.inr h)
      have htl : tmpB.toList = [97, 114, 46, 116, 109, 112, 126] := by rw [ByteArray.toList_eq]; rfl
      have bq : (nm.toList == [97, 114, 46, 116, 109, 112, 126]) = false := by rw [← htl, beq_toList]; exact decide_eq_false hne
      have bq2 : ¬ nm.toList = [97, 114, 46, 116, 109, 112, 126] := by simpa using bq
      obtain ⟨LL, hLL⟩ : ∃ LL, LL = L.length := ⟨_, rfl⟩
      obtain ⟨A, hA⟩ : ∃ A, A = newF L (nm, (m0, m1, m2, m3), da) := ⟨_, rfl⟩
      obtain ⟨AL, hAL⟩ : ∃ AL, AL = A.length := ⟨_, rfl⟩
      have HV1 : Hid (∀ q W, Lw PS B q ⟨s, [], 0, false, 0⟩ [] W → Below B (w.alloc X) W → Calls Tryz.prog 7 #[.pointer (some ⟨q, 0, none⟩)] W fun e w' => ∃ ao cap k, e = .returned (.tuple #[.slice ao LL cap, .bool true]) ∧ Lw PS B q ((Vs.mk s [] 0 false 0).ticks k) [(.slice ao LL cap, L)] w' ∧ Below B (w.alloc X) w') := fun q W hL hb => by
        rw [hLL]
        refine (lw_view C B q _ [] W hL (by have := hb.size; omega) hS.sc.wf hS.sc.dw (by show 0 ≤ _; omega) ⟨rfl, rfl⟩).mono ?_
        rintro e w' ⟨rv, k, rfl, hk, h1, h2⟩
        have hrow : seen s.bodies s.now = L := hS.sc.now
        have h1' : Lw PS B q ((Vs.mk s [] 0 false 0).ticks k) [(rv, L)] w' := by rw [← hrow]; exact h1
        obtain ⟨ao, cap, hrv⟩ := form_row (h1'.row (r := (rv, L)) (by simp))
        have hrv' : rv = .slice ao L.length cap := hrv
        subst hrv'
        exact ⟨ao, cap, k, rfl, h1', hb.trans h2⟩
      have HSZ : Hid (∀ W v, RowF W v L → Calls Tryz.prog 8 #[v] W fun e w' => e = .returned (.int .i64 (sizeF L)) ∧ w' = W) := fun W v hr => size_c v L W hr (by omega) (by have := hS.size; omega)
      have HF5 : Hid (sizeF L ≤ 1048576 ∧ da.size ≤ 1048576 ∧ cn ≤ 1073741824) := ⟨by have := hS.size; omega, hda, hcn⟩
      have HAR : Hid (∀ q k rows W, Lw PS B q ((Vs.mk s [] 0 false 0).ticks k) rows W → Below B (w.alloc X) W → Calls Tryz.prog 9 #[.pointer (some ⟨q, 0, none⟩), .slice none 0 0] W fun e w' => e = .returned (.tuple #[]) ∧ Lw PS B q ⟨s, [], 0, false, 0⟩ rows w' ∧ Below B (w.alloc X) w') := fun q k rows W hL hb => by
        refine (lw_arm C B q _ rows [] (.slice none 0 0) W hL (by have := hb.size; omega) (.inl ⟨rfl, _, _, rfl⟩) (fun h => absurd rfl h) (by simp)).mono ?_
        rintro e w' ⟨rfl, h1, h2⟩
        exact ⟨rfl, h1, hb.trans h2⟩
      obtain ⟨NP, hNP⟩ : ∃ NP, NP = nP da := ⟨_, rfl⟩
      have HPC : Hid (∀ W, Calls Tryz.prog 17 #[.string da] W fun e w' => e = .returned (.int .i64 (NP : Int)) ∧ w' = W) := fun W => by rw [hNP]; exact pieces_c da W (by omega)
      have HAll : Hid (sizeF L + da.size ≤ cn → L.length < 64 → ∃ s', Sc s' [A] ∧ (∀ q rows W, Lw PS B q ⟨s, [], 0, false, 0⟩ rows W → Below B (w.alloc X) W → Calls Tryz.prog 10 #[.pointer (some ⟨q, 0, none⟩), .string nm, .string da, .agg #[.int .i64 m0, .int .i64 m1, .int .i64 m2, .int .i64 m3]] W fun r w' => r = .returned .nilIface ∧ Lw PS B q ⟨s', [], 5 + NP, false, 0⟩ rows w' ∧ Below B (w.alloc X) w') ∧
          (∀ q rows W, Lw PS B q ⟨s', [], 5 + NP, false, 0⟩ rows W → Below B (w.alloc X) W → Calls Tryz.prog 12 #[.pointer (some ⟨q, 0, none⟩), .string nm] W fun e w' => e = .returned (.tuple #[.string da, .bool true, .nilIface]) ∧ Lw PS B q ⟨s', [], 5 + NP + 1, false, 0⟩ rows w' ∧ Below B (w.alloc X) w') ∧
          (∀ q rows k W, k ≤ 4190000 → Lw PS B q ⟨s', [], k, false, 0⟩ rows W → Below B (w.alloc X) W → Calls Tryz.prog 13 #[.pointer (some ⟨q, 0, none⟩), .string ⟨#[97, 114, 46, 116, 109, 112, 126]⟩] W fun e w' => ∃ ev d0 d1 d2 d3 d4 d5, e = .returned (.tuple #[.agg #[.int .i64 d0, .int .i64 d1, .int .i64 d2, .int .i64 d3, .string d4, .int .i64 d5], ev]) ∧ ErrIs w' B ⟨#[115, 116, 97, 116]⟩ tmpB 30 ev ∧ Lw PS B q ⟨s', [], k + 1, false, 0⟩ rows w' ∧ Below B (w.alloc X) w') ∧
          (∀ q rows W, Lw PS B q ⟨s', [], 5 + NP + 1, false, 0⟩ rows W → Below B (w.alloc X) W → Calls Tryz.prog 7 #[.pointer (some ⟨q, 0, none⟩)] W fun e w' => ∃ ao cap k, e = .returned (.tuple #[.slice ao AL cap, .bool true]) ∧ k ≤ 4190000 ∧ Lw PS B q ⟨s', [], k, false, 0⟩ ((.slice ao AL cap, A) :: rows) w' ∧ Below B (w.alloc X) w')) := fun hroom hfew => by
        obtain ⟨s', a, r1, r2, r3, r4⟩ := works_plain s cn L hS.sc hS.cap hsb nm da m0 m1 m2 m3 hne hok hroom hfew
        rw [← hA] at r2
        rw [← hNP] at r1
        refine ⟨s', r2, fun q rows W h hb => ?_, fun q rows W h hb => ?_, fun q rows k W hk h hb => ?_, fun q rows W h hb => ?_⟩
        · have := lw_repl C B q _ rows nm da m0 m1 m2 m3 W _ h (by have := hb.size; omega) hVF (by omega) (by omega)
          rw [r1] at this
          refine this.mono ?_
          rintro r w' ⟨ev, rfl, ⟨op, en, he⟩, h1, h2⟩
          rw [he.nil]
          exact ⟨rfl, h1, hb.trans h2⟩
        · refine (lw_load C B q _ rows nm da W h (by have := hb.size; omega) r2.wf (by show 5 + NP ≤ _; omega) _ (r3 _)).mono ?_
          rintro r w' ⟨rfl, h1, h2⟩
          exact ⟨rfl, h1, hb.trans h2⟩
        · refine (lw_stat C B q _ rows tmpB 30 W h (by have := hb.size; omega) r2.wf (by show k ≤ _; omega) _ _ (r4 _)).mono ?_
          rintro r w' ⟨ev, d0, d1, d2, d3, d4, d5, rfl, he, h1, h2⟩
          exact ⟨ev, d0, d1, d2, d3, d4, d5, rfl, he, h1, hb.trans h2⟩
        · rw [hAL]
          refine (lw_view C B q _ rows W h (by have := hb.size; omega) r2.wf r2.dw (by show 5 + NP + 1 ≤ _; omega) ⟨rfl, rfl⟩).mono ?_
          rintro e w' ⟨rv, k, rfl, hk, h1, h2⟩
          have hrow : seen s'.bodies s'.now = A := r2.now
          have h1' : Lw PS B q ⟨s', [], 5 + NP + 1 + k, false, 0⟩ ((rv, A) :: rows) w' := by rw [← hrow]; exact h1
          obtain ⟨ao, cap, hrv⟩ := form_row (h1'.row (r := (rv, A)) (by simp))
          have hrv' : rv = .slice ao A.length cap := hrv
          subst hrv'
          exact ⟨ao, cap, _, rfl, by omega, h1', hb.trans h2⟩
      have HCA : Hid (∀ q v rows W, Lw PS B q v rows W → v.cnt = 5 + NP → Calls Tryz.prog 11 #[.pointer (some ⟨q, 0, none⟩)] W fun e w' => e = .returned (.int .i64 (5 + (NP : Int))) ∧ w' = W) := fun q v rows W h hc => by
        have := lw_calls B q v rows W h
        rw [hc] at this
        exact this
      have HCO : Hid (∀ W ev, ErrIs W B ⟨#[115, 116, 97, 116]⟩ tmpB 30 ev → Calls Tryz.prog 18 #[ev] W fun r w' => r = .returned (.int .i64 30) ∧ w' = W) := fun W ev h => code_c B _ tmpB 30 ev W h
      have HOT : Hid (othersF A nm = othersF L nm) := by rw [hA]; exact newF_others L (nm, (m0, m1, m2, m3), da)
      have HHS : Hid (hasF A (nm, (m0, m1, m2, m3), da) = true) := by rw [hA]; exact newF_has L _
      have HWO : Hid (∀ W v (M : List Fil), RowF W v M → M.length ≤ 64 → Calls Tryz.prog 15 #[v, .string nm] W fun e w' => ∃ v', e = .returned v' ∧ RowF w' v' (othersF M nm) ∧ Below W.heap.size W w') := fun W v M hr hm => by
        refine (withoutF_c v M nm W hr (by omega)).mono ?_
        rintro e w' ⟨v', rfl, h1, h2⟩
        exact ⟨v', rfl, h1.row, h2⟩
      have HSA : Hid (∀ W v v' (M M' : List Fil), RowF W v M → RowF W v' M' → M.length ≤ 64 → M'.length ≤ 64 → Calls Tryz.prog 14 #[v, v'] W fun e w' => e = .returned (.bool (decide (M = M'))) ∧ Below W.heap.size W w') := fun W v v' M M' h1 h2 h3 h4 => sameF_c v v' M M' W h1 h2 (by omega) (by omega)
      have HHA : Hid (∀ W v, A.length ≤ 64 → RowF W v A → Calls Tryz.prog 16 #[v, .agg #[.string nm, .int .i64 m0, .int .i64 m1, .int .i64 m2, .int .i64 m3, .string da]] W fun e w' => e = .returned (.bool true) ∧ Below W.heap.size W w') := fun W v hm hr => by
        have := hasF_c v A nm m0 m1 m2 m3 da W hr (by omega)
        rw [HHS.out] at this
        exact this
      have HLL : Hid (LL = L.length ∧ LL ≤ 64) := ⟨hLL, by omega⟩
      have HAL := hidK hAL
      have hNP1 : NP ≤ 2049 := by omega
      rw [hok] at HFN
      subst hfv
      clear hf hfA hcc hbA hsA hX hBe hS hVF hsb hnP hLl hLL hA hAL hNP hok hne htl hbad
      go_enter Tryz.func3, Tryz.ntmps3
      go_upto_region 2 with (go_at_call 4; rw [← HXE.out]; refine HSC.out.mono ?_; rintro e w1 ⟨q, rfl, hL1, hB1⟩)
      obtain ⟨x0, x1, x2, x3, x4, x5⟩ := HXB.out w1 hB1
      go_upto_region 3 with (go_at_call 5; refine (HFN.out _).mono ?_; rintro e w2 ⟨rfl, hw2⟩; subst w2)
      go_upto_region 7 with (go_at_call 7; refine (HV1.out q _ hL1 hB1).mono ?_; rintro e w4 ⟨ao, cap, k1, rfl, hL4, hB4⟩)
      clear x0 x1 x2 x3 x4 x5 HSC HV1 hL1 hB1 HFN HG
      obtain ⟨x0, x1, x2, x3, x4, x5⟩ := HXB.out w4 hB4
      go_upto_region 9 with fail
      obtain ⟨t, ht⟩ : ∃ t, t = decide ((cn : Int) < (sizeF L : Int) + (da.size : Int) ∨ (63 : Int) < (LL : Int)) := ⟨_, rfl⟩
      have HT := hidK ht
      clear ht
      go_cut [65] from 53 to 64 (fun s wx => s = .bool t ∧ ∃ W, wx = W ∧ Below w4.heap.size w4 W)
      case first =>
        have rL : RowF w4 (.slice ao LL cap) L := hL4.row (r := (.slice ao LL cap, L)) (by simp)
        have HZ1 : Hid (∀ W, Below w4.heap.size w4 W → Calls Tryz.prog 8 #[.slice ao LL cap] W fun e w' => e = .returned (.int .i64 (sizeF L)) ∧ w' = W) := fun W hb => HSZ.out W _ (rL.on hb)
        obtain ⟨z, hz⟩ : ∃ z, z = sizeF L := ⟨_, rfl⟩
        rw [← hz] at HZ1 HF5 HT
        clear hz HSZ HXB HEND HBB rL HAll HAR HCA HCO HOT HHS HWO HSA HHA HPC
        have bz : (z : Int) + (da.size : Int) ≤ 2097152 := by have := HF5.out; omega
        have bz0 : (0 : Int) ≤ (z : Int) + (da.size : Int) := by omega
        by_cases p3 : (cn : Int) < (z : Int) + (da.size : Int)
        case pos =>
          have b3 : decide ((cn : Int) < (z : Int) + (da.size : Int)) = true := decide_eq_true p3
          have ht : t = true := by rw [HT.out]; exact decide_eq_true (.inl p3)
          subst ht
          clear HT
          go_quiet ((go_at_call 8; exact Calls.quiet_of_same (HZ1.out _ (by first | exact Below.refl _ _ | exact belDrewN (Below.refl _ _) _))))
          go_wp2
          go_meet
          case rel => exact ⟨rfl, _, rfl, belDrewN (Below.refl _ _) nq⟩
        case neg =>
          have b3 : decide ((cn : Int) < (z : Int) + (da.size : Int)) = false := decide_eq_false p3
          by_cases p4 : (63 : Int) < (LL : Int)
          case pos =>
            have b4 : decide ((63 : Int) < (LL : Int)) = true := decide_eq_true p4
            have ht : t = true := by rw [HT.out]; exact decide_eq_true (.inr p4)
            subst ht
            clear HT
            go_quiet ((go_at_call 8; exact Calls.quiet_of_same (HZ1.out _ (by first | exact Below.refl _ _ | exact belDrewN (Below.refl _ _) _))))
            go_wp2
            go_meet
            case rel => exact ⟨rfl, _, rfl, belDrewN (Below.refl _ _) nq⟩
          case neg =>
            have b4 : decide ((63 : Int) < (LL : Int)) = false := decide_eq_false p4
            have ht : t = false := by rw [HT.out]; exact decide_eq_false (fun h => h.elim p3 p4)
            subst ht
            clear HT
            go_quiet ((go_at_call 8; exact Calls.quiet_of_same (HZ1.out _ (by first | exact Below.refl _ _ | exact belDrewN (Below.refl _ _) _))))
            go_wp2
            go_meet
            case rel => exact ⟨rfl, _, rfl, belDrewN (Below.refl _ _) nq⟩
      case rest =>
        obtain ⟨hs5, W5, hw5, hb5⟩ := hcut
        rw [hw5]
        subst hs5
        clear hw5 x0 x1 x2 x3 x4 x5 HSZ HF5
        have hB5 := hB4.trans (hb5.mono (HBB.out _ hB4))
        have hL5 := hL4.below C hb5
        clear hB4 hL4 hb5
        cases t
        case true =>
          go_wp2
          go_ret
          exact ⟨rfl, HEND.out _ hB5⟩
        case false =>
          have hnn : ¬ ((cn : Int) < (sizeF L : Int) + (da.size : Int) ∨ (63 : Int) < (LL : Int)) := of_decide_eq_false HT.out.symm
          obtain ⟨s', hsc, HR0, HL0, HT0, HW0⟩ := HAll.out (by omega) (by have := HLL.out.1; omega)
          have HRE := hidK HR0
          have HLD := hidK HL0
          have HST := hidK HT0
          have HVW := hidK HW0
          have hA64 : A.length ≤ 64 := by
            have h1 : seen s'.bodies s'.now = A := hsc.now
            rw [← h1]; unfold seen; rw [List.length_map]
            have h2 := without_len s'.now tmpB
            have h3 := now_len hsc.wf
            omega
          have HA64 := hidK hA64
          clear HR0 HL0 HT0 HW0 HAll hnn HT hsc hA64
          go_upto_region 12 with (go_at_call 9; refine (HAR.out q _ _ _ hL5 hB5).mono ?_; rintro e w6 ⟨rfl, hL6, hB6⟩)
          obtain ⟨x0, x1, x2, x3, x4, x5⟩ := HXB.out w6 hB6
          go_upto_region 13 with (go_at_call 10; refine (HRE.out q _ _ hL6 hB6).mono ?_; rintro e w7 ⟨rfl, hL7, hB7⟩)
          clear x0 x1 x2 x3 x4 x5 hL5 hB5 hL6 hB6
          obtain ⟨x0, x1, x2, x3, x4, x5⟩ := HXB.out w7 hB7
          go_upto_region 14 with (go_at_call 11; refine (HCA.out q _ _ _ hL7 rfl).mono ?_; rintro e w8 ⟨rfl, hw8⟩; subst w8)
          go_upto_region 15 with (go_at_call 12; refine (HLD.out q _ _ hL7 hB7).mono ?_; rintro e w9 ⟨rfl, hL9, hB9⟩)
          clear x0 x1 x2 x3 x4 x5 hL7 hB7
          go_upto_region 16 with (go_at_call 7; refine (HVW.out q _ _ hL9 hB9).mono ?_; rintro e w10 ⟨ao2, cap2, k2, rfl, hk2, hL10, hB10⟩)
          go_upto_region 17 with (go_at_call 13; refine (HST.out q _ k2 _ hk2 hL10 hB10).mono ?_; rintro e w11 ⟨ev, d0, d1, d2, d3, d4, d5, rfl, he11, hL11, hB11⟩)
          clear hL9 hB9 hL10 hB10 HAR HRE HCA HLD HVW HST
          obtain ⟨w12, hw12⟩ : ∃ w12, w12 = w11.alloc (.cells #[.int .i64 d0, .int .i64 d1, .int .i64 d2, .int .i64 d3, .string d4, .int .i64 d5] 42) := ⟨_, rfl⟩
          rw [← hw12]
          have hb12 : Below w11.heap.size w11 w12 := by rw [hw12]; exact (Below.refl _ _).alloc (Nat.le_refl _) _
          have hL12 := hL11.below C hb12
          have hB12 := hB11.trans (hb12.mono (HBB.out _ hB11))
          have he12 := he11.below hb12
          clear hw12 hb12 hL11 hB11 he11
          obtain ⟨y0, y1, y2, y3, y4, y5⟩ := HXB.out w12 hB12
          have rA : RowF w12 (.slice ao2 AL cap2) A := hL12.row (r := (.slice ao2 AL cap2, A)) (by simp)
          have rL : RowF w12 (.slice ao LL cap) L := hL12.row (r := (.slice ao LL cap, L)) (by simp)
          have oA : (othersF A nm).length ≤ 64 := Nat.le_trans (List.length_filter_le _ _) HA64.out
          have hL64 : L.length ≤ 64 := by have := HLL.out; omega
          have oL : (othersF L nm).length ≤ 64 := Nat.le_trans (List.length_filter_le _ _) hL64
          have HRA : Hid (RowF w12 (.slice ao2 AL cap2) A ∧ RowF w12 (.slice ao LL cap) L ∧ (othersF A nm).length ≤ 64 ∧ (othersF L nm).length ≤ 64 ∧ A.length ≤ 64 ∧ L.length ≤ 64 ∧ Below B (w.alloc X) w12 ∧ ErrIs w12 B ⟨#[115, 116, 97, 116]⟩ tmpB 30 ev) := ⟨rA, rL, oA, oL, HA64.out, hL64, hB12, he12⟩
          clear rA rL oA oL hL64 hL12 hB12 he12
          go_upto_region 17 with fail
          go_cut [21] from 96 to 104 (fun s wx => s = .bool true ∧ ∃ W, wx = W ∧ Below w12.heap.size w12 W)
          case first =>
            have HW1 : Hid (∀ W, Below w12.heap.size w12 W → Calls Tryz.prog 15 #[.slice ao2 AL cap2, .string nm] W fun e w' => ∃ v', e = .returned v' ∧ RowF w' v' (othersF A nm) ∧ Below w12.heap.size w12 w') := fun W hb => by
              refine (HWO.out W _ A (HRA.out.1.on hb) HRA.out.2.2.2.2.1).mono ?_
              rintro e w' ⟨v', rfl, h1, h2⟩
              exact ⟨v', rfl, h1, hb.trans (h2.mono hb.size)⟩
            have HW2 : Hid (∀ W1 W va, Below w12.heap.size w12 W1 → Below W1.heap.size W1 W → RowF W1 va (othersF A nm) → Calls Tryz.prog 15 #[.slice ao LL cap, .string nm] W fun e w' => ∃ v', e = .returned v' ∧ RowF w' v' (othersF L nm) ∧ RowF w' va (othersF A nm) ∧ Below w12.heap.size w12 w') := fun W1 W va hb1 hb hr => by
              have hbb : Below w12.heap.size w12 W := hb1.trans (hb.mono hb1.size)
              refine (HWO.out W _ L (HRA.out.2.1.on hbb) HRA.out.2.2.2.2.2.1).mono ?_
              rintro e w' ⟨v', rfl, h1, h2⟩
              exact ⟨v', rfl, h1, (hr.on hb).on h2, hbb.trans (h2.mono hbb.size)⟩
            have HS2 : Hid (∀ W1 W v v', Below w12.heap.size w12 W1 → Below W1.heap.size W1 W → RowF W1 v (othersF A nm) → RowF W1 v' (othersF L nm) → Calls Tryz.prog 14 #[v, v'] W fun e w' => e = .returned (.bool true) ∧ Below w12.heap.size w12 w') := fun W1 W v v' hb1 hb h1 h2 => by
              refine (HSA.out W v v' _ _ (h1.on hb) (h2.on hb) HRA.out.2.2.1 HRA.out.2.2.2.1).mono ?_
              rintro e w' ⟨rfl, hb2⟩
              have hbb : Below w12.heap.size w12 W := hb1.trans (hb.mono hb1.size)
              exact ⟨by rw [decide_eq_true HOT.out], hbb.trans (hb2.mono hbb.size)⟩
            have hr0 : Below w12.heap.size w12 w12 := Below.refl _ _
            clear HWO HSA HHA HXB HEND HBB HPC HCO HOT HHS HLL HAL HA64
            go_region_with (first
              | (go_at_call_of 15 ao2; refine (HW1.out _ ?_).mono ?_; go_grown; rintro e wa ⟨va, rfl, ra, ba⟩; have ya := cell_onG y0 ba)
              | (go_at_call_of 15 ao; refine (HW2.out wa _ va ba ?_ ra).mono ?_; go_grown; rintro e wb ⟨vb, rfl, rb, rab, bb⟩)
              | (go_at_call 14; refine (HS2.out wb _ va vb bb ?_ rab rb).mono ?_; go_grown; rintro e wc ⟨rfl, bc⟩))
            all_goals
              go_wp2
              go_meet
              case rel => exact ⟨rfl, _, rfl, by first | exact bc | exact bc.drew | exact bc.trans (by go_grown)⟩
          case rest =>
            obtain ⟨hs8, W8, hw8, hb8⟩ := hcut
            rw [hw8]
            subst hs8
            clear hw8 y0 y1 y2 y3 y4 y5 HWO HSA HOT HHS
            have hB8 := HRA.out.2.2.2.2.2.2.1.trans (hb8.mono (HBB.out _ HRA.out.2.2.2.2.2.2.1))
            have HH3 : Hid (Calls Tryz.prog 16 #[.slice ao2 AL cap2, .agg #[.string nm, .int .i64 m0, .int .i64 m1, .int .i64 m2, .int .i64 m3, .string da]] W8 fun e w' => e = .returned (.bool true) ∧ ErrIs w' B ⟨#[115, 116, 97, 116]⟩ tmpB 30 ev ∧ Below B (w.alloc X) w') := by
              refine (HHA.out W8 _ HA64.out (HRA.out.1.on hb8)).mono ?_
              rintro e w' ⟨rfl, hb⟩
              exact ⟨rfl, (HRA.out.2.2.2.2.2.2.2.below hb8).below hb, hB8.trans (hb.mono (HBB.out _ hB8))⟩
            obtain ⟨y0, y1, y2, y3, y4, y5⟩ := HXB.out W8 hB8
            clear HHA HRA hb8
            go_upto_region 19 with (go_at_call 16; refine HH3.out.mono ?_; rintro e w13 ⟨rfl, he13, hB13⟩)
            clear y0 y1 y2 y3 y4 y5 HH3 hB8
            obtain ⟨y0, y1, y2, y3, y4, y5⟩ := HXB.out w13 hB13
            have bP : (5 : Int) + (NP : Int) ≤ 4096 := by omega
            have bP0 : (0 : Int) ≤ (5 : Int) + (NP : Int) := by omega
            have bP1 : ((5 : Int) + (NP : Int) != (5 : Int) + (NP : Int)) = false := by simp
            have bD : (da.toList == da.toList) = true := by simp
            go_upto_region 21 with (go_at_call 17; refine (HPC.out _).mono ?_; rintro e w14 ⟨rfl, hw14⟩; subst w14)
            go_wp2_with (go_at_call 18; refine (HCO.out _ ev he13).mono ?_; rintro e w15 ⟨rfl, hw15⟩; subst w15)
            go_ret
            exact ⟨rfl, HEND.out _ hB13⟩
end Go.Proofs.YtbbblncoicjacaaGreatDoor
