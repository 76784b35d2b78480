
-- CommitLeftover's walk.
import Derived.Test.YtbbblncoicjacaaGreatLL
import Derived.Test.YtbbblncoicjacaaGreatXL
import Derived.Test.YtbbblncoicjacaaGreatOW
namespace Go.Proofs.YtbbblncoicjacaaGreat
open Go.ChangeShapes Go.WideShapes Go.ChangeAt Go.RowKit
set_option linter.unusedVariables false
set_option linter.unusedSimpArgs false
set_option maxRecDepth 100000
variable {PS : (Nat → Prop) → Nat → St → World → Prop}
theorem box6 {W : World} {b : Nat} {nm da : ByteArray} {m0 m1 m2 m3 : Int} {t : TypeId} {z : Nat × Nat} (h : W.heap[b]? = some (.cells #[.string nm, .int .i64 m0, .int .i64 m1, .int .i64 m2, .int .i64 m3, .string da] t z)) : W.cell? ⟨b, 0, none⟩ = some (.string nm) ∧ W.cell? ⟨b, 1, none⟩ = some (.int .i64 m0) ∧ W.cell? ⟨b, 2, none⟩ = some (.int .i64 m1) ∧ W.cell? ⟨b, 3, none⟩ = some (.int .i64 m2) ∧ W.cell? ⟨b, 4, none⟩ = some (.int .i64 m3) ∧ W.cell? ⟨b, 5, none⟩ = some (.string da) := by
  refine ⟨?_, ?_, ?_, ?_, ?_, ?_⟩ <;> (rw [Lib.cell_of_heap h]; rfl)
theorem seen_len {s : St} (h : Wf s) : (seen s.bodies s.now).length ≤ 64 := by
  unfold seen; rw [List.length_map]
  have h1 := without_len s.now tmpB
  have h2 := now_len h
  omega
/-- A view in the form that the walk wants. -/
theorem lx_seen (C : PC PS) (B q : Nat) (v : Vs) (p : Nat) (u : Vs) (rows : Rws) (W0 w : World) (N : List Fil) (hB0 : B = W0.heap.size) (h : Lx PS B q v p u rows w) (hb : Below B W0 w) (hw : Wf v.st) (hd : DW v.st) (hn : v.cnt = 0) (hc : v.calm) (hN : seen v.st.bodies v.st.now = N) :
    Calls Tryz.prog 9 #[.pointer (some ⟨q, 0, none⟩)] w fun e w' => ∃ ao cap k, e = .returned (.tuple #[.slice ao N.length cap, .bool true]) ∧ Lx PS B q (v.ticks k) p u ((.slice ao N.length cap, N) :: rows) w' ∧ Below B W0 w' := by
  refine (lx_view C B q v p u rows w h (by have := hb.size; omega) hw hd (by omega) hc).mono ?_
  rintro e w' ⟨rv, k, rfl, hk, h1, h2⟩
  rw [hN] at h1
  obtain ⟨ao, cap, hrv⟩ := form_row (h1.row (r := (rv, N)) (by simp))
  have hrv' : rv = .slice ao N.length cap := hrv
  subst hrv'
  exact ⟨ao, cap, k, rfl, h1, hb.trans h2⟩
theorem lx_same (C : PC PS) (B q : Nat) (v : Vs) (p : Nat) (u : Vs) (rows : Rws) (W0 w : World) (N : List Fil) (va vb : Value) (hB0 : B = W0.heap.size) (h : Lx PS B q v p u rows w) (hb : Below B W0 w) (ha : (va, N) ∈ rows) (hbm : (vb, N) ∈ rows) (hl : N.length ≤ 64) :
    Calls Tryz.prog 16 #[va, vb] w fun e w' => e = .returned (.bool true) ∧ Lx PS B q v p u rows w' ∧ Below B W0 w' := by
  refine (sameF_c va vb N N w (h.row ha) (h.row hbm) (by omega) (by omega)).mono ?_
  rintro e w' ⟨rfl, h2⟩
  exact ⟨by rw [decide_eq_true rfl], h.below C h2, hb.trans (h2.mono (by have := hb.size; omega))⟩
set_option maxHeartbeats 16000000 in
theorem leftover_w (C : PC PS) (c : Int) (fv : Value) (l : List Fil) (ln : ByteArray) (l0 l1 l2 l3 : Int) (lda : ByteArray) (nm : ByteArray) (m0 m1 m2 m3 : Int) (da : ByteArray) (pv : Value) (plan : List Flt) (n : Int) (cv : Value) (cuts : List Int) (w : World)
    (hf : RowF w fv l) (hl : 3 * l.length ≤ 1048576) (hz : sizeF l ≤ 1048576) (hlda : lda.size ≤ 1048576) (hda : da.size ≤ 1048576) (hnm : nm.size ≤ 1048576)
    (hp : RowP w pv plan) (hpb : plan ≠ [] → ∀ k, pv.ownBlock = some k → k < w.heap.size) (hpl : plan.length ≤ 1048576)
    (hc : RowI w cv cuts) (hcb : cuts ≠ [] → ∀ k, cv.ownBlock = some k → k < w.heap.size) (hcl : cuts.length ≤ 1048576) :
    Calls Tryz.prog 4 #[.int .i64 c, fv, .agg #[.string ln, .int .i64 l0, .int .i64 l1, .int .i64 l2, .int .i64 l3, .string lda], .agg #[.string nm, .int .i64 m0, .int .i64 m1, .int .i64 m2, .int .i64 m3, .string da], pv, .int .i64 n, cv] w fun e w' => e = .returned (.bool true) ∧ Below w.heap.size w w' := by
  obtain ⟨fa, fc, hfv⟩ := form_row hf
  obtain ⟨pa, pc, hpv⟩ := hp.form
  obtain ⟨ca, cl, cc, hcv⟩ : ∃ a b d, cv = .slice a b d := by
    rcases hc with ⟨_, a, b, h⟩ | ⟨b, off, cap, h, _⟩ <;> exact ⟨_, _, _, h⟩
  obtain ⟨Y, hY⟩ : ∃ Y : Obj, Y = .cells #[.string ⟨#[97, 114, 46, 116, 109, 112, 126]⟩, .int .i64 l0, .int .i64 l1, .int .i64 l2, .int .i64 l3, .string lda] 26 := ⟨_, rfl⟩
  obtain ⟨X, hX⟩ : ∃ X : Obj, X = .cells #[.string nm, .int .i64 m0, .int .i64 m1, .int .i64 m2, .int .i64 m3, .string da] 26 := ⟨_, rfl⟩
  obtain ⟨W0, hW0⟩ : ∃ W0, W0 = (w.alloc Y).alloc X := ⟨_, rfl⟩
  have hs0 : W0.heap.size = w.heap.size + 2 := by rw [hW0]; simp
  have hb0 : Below w.heap.size w W0 := by
    rw [hW0]; exact ((Below.refl _ w).alloc (Nat.le_refl _) Y).alloc (by simp) X
  have hYh : W0.heap[w.heap.size]? = some (.cells #[.string ⟨#[97, 114, 46, 116, 109, 112, 126]⟩, .int .i64 l0, .int .i64 l1, .int .i64 l2, .int .i64 l3, .string lda] 26 (0, 0)) := by
    rw [hW0]
    have h1 := heap_alloc_new w Y
    have h2 := ((Below.refl (w.heap.size + 1) (w.alloc Y)).alloc (by simp) X).block w.heap.size (by omega)
    rw [h2, h1, hY]
  have hXh : W0.heap[w.heap.size + 1]? = some (.cells #[.string nm, .int .i64 m0, .int .i64 m1, .int .i64 m2, .int .i64 m3, .string da] 26 (0, 0)) := by
    rw [hW0]
    have h1 := heap_alloc_new (w.alloc Y) X
    rw [World.size_alloc] at h1
    rw [h1, hX]
  obtain ⟨B, hBe⟩ : ∃ B, B = W0.heap.size := ⟨_, rfl⟩
  have HW0 : Hid (W0 = (w.alloc Y).alloc X) := hW0
  have HY := hidK hY
  have HX := hidK hX
  have HXB : Hid (∀ W, Below B W0 W → W.cell? ⟨w.heap.size + 1, 0, none⟩ = some (.string nm) ∧ W.cell? ⟨w.heap.size + 1, 1, none⟩ = some (.int .i64 m0) ∧ W.cell? ⟨w.heap.size + 1, 2, none⟩ = some (.int .i64 m1) ∧ W.cell? ⟨w.heap.size + 1, 3, none⟩ = some (.int .i64 m2) ∧ W.cell? ⟨w.heap.size + 1, 4, none⟩ = some (.int .i64 m3) ∧ W.cell? ⟨w.heap.size + 1, 5, none⟩ = some (.string da)) := fun W hb => box6 (by rw [hb.block _ (by omega)]; exact hXh)
  have HYB : Hid (∀ W, Below B W0 W → W.cell? ⟨w.heap.size, 0, none⟩ = some (.string ⟨#[97, 114, 46, 116, 109, 112, 126]⟩) ∧ W.cell? ⟨w.heap.size, 1, none⟩ = some (.int .i64 l0) ∧ W.cell? ⟨w.heap.size, 2, none⟩ = some (.int .i64 l1) ∧ W.cell? ⟨w.heap.size, 3, none⟩ = some (.int .i64 l2) ∧ W.cell? ⟨w.heap.size, 4, none⟩ = some (.int .i64 l3) ∧ W.cell? ⟨w.heap.size, 5, none⟩ = some (.string lda)) := fun W hb => box6 (by rw [hb.block _ (by omega)]; exact hYh)
  have HEND : Hid (∀ W, Below B W0 W → Below w.heap.size w W) := fun W hb => hb0.trans (hb.mono (by omega))
  have HBB : Hid (∀ W, Below B W0 W → B ≤ W.heap.size) := fun W hb => by have := hb.size; omega
  have HBE := hidK hBe
  have HR0 : Hid (∀ W, Below B W0 W → RowF W (.slice fa l.length fc) l) := fun W hb => by have := (hf.on hb0).on (hBe ▸ hb); rw [hfv] at this; exact this
  have HP : Hid (∀ W, Below B W0 W → RowP W pv plan) := fun W hb => RowP.on (B := w.heap.size) hp (hb0.trans (hb.mono (by omega))) hpb
  have HPB : Hid (plan ≠ [] → ∀ k, pv.ownBlock = some k → k < B) := fun hne k hk => by have := hpb hne k hk; omega
  have HC : Hid (∀ W, Below B W0 W → RowI W cv cuts) := fun W hb => RowI.on (B := w.heap.size) hc (hb0.trans (hb.mono (by omega))) hcb
  have HCB : Hid (cuts ≠ [] → ∀ k, cv.ownBlock = some k → k < B) := fun hne k hk => by have := hcb hne k hk; omega
  have HSZ : Hid (3 * l.length ≤ 1048576 ∧ sizeF l ≤ 1048576 ∧ lda.size ≤ 1048576 ∧ da.size ≤ 1048576 ∧ plan.length ≤ 1048576 ∧ cuts.length ≤ 1048576) := ⟨hl, hz, hlda, hda, hpl, hcl⟩
  obtain ⟨PL, hPL⟩ : ∃ PL, PL = plan.length := ⟨_, rfl⟩
  have HPL := hidK hPL
  rw [← hPL] at hpv
  have HPV := hidK hpv
  have HCV := hidK hcv
  obtain ⟨N0, hN0⟩ : ∃ N0, N0 = l.length := ⟨_, rfl⟩
  have HN0 := hidK hN0
  rw [← hN0] at hfv HR0
  subst hfv
  rw [hpv, hcv]
  have hN1 : 3 * N0 ≤ 1048576 := by omega
  clear hf hp hc hpb hcb hl hz hlda hda hnm hpl hcl hX hY hXh hYh hs0 hb0 hBe hW0 hPL hN0 hpv hcv
  go_enter Tryz.func4, Tryz.ntmps4
  go_upto_region 2 with fail
  rw [← HY.out, ← HX.out, ← HW0.out]
  clear HY HX HW0
  go_wp2
  go_loopw [15, 16] (fun o i wx => ∃ k : Nat, i = .int .i64 k ∧ k ≤ min 60 N0 ∧ OwnF B wx o (othersF (l.take k) tmpB) ∧ Below B W0 wx) (fun _ i _ => 60 - (intOf i).toNat)
  case atStart => exact ⟨0, rfl, Nat.zero_le _, ownF_nil _ _, Below.refl _ _⟩
  case round =>
    obtain ⟨k, rfl, hkn, hO, hB⟩ := hrel
    by_cases hk : k < min 60 N0
    · have kI : (k : Int) < (N0 : Int) := by omega
      have kS : (k : Int) < 60 := by omega
      have k0 : (0 : Int) ≤ (k : Int) := by omega
      have hkl : k < l.length := by have := HN0.out; omega
      obtain ⟨⟨nn, ⟨e0, e1, e2, e3⟩, dt⟩, hx⟩ : ∃ x, l[k]? = some x := ⟨_, List.getElem?_eq_getElem hkl⟩
      have HOT := hidK (others_take l tmpB k _ hx)
      have hll : (othersF (l.take k) tmpB).length ≤ 67108864 := by
        have h1 : (othersF (l.take k) tmpB).length ≤ (l.take k).length := List.length_filter_le _ _
        have h2 : (l.take k).length ≤ k := by rw [List.length_take]; omega
        omega
      obtain ⟨b1, o1, p1, q1, d0, d1, d2, d3, d4, d5⟩ := (HR0.out wr hB).fil hx
      injection q1 with q1 q1b q1c
      subst q1
      obtain ⟨M, hM⟩ : ∃ M, M = othersF (l.take k) tmpB := ⟨_, rfl⟩
      rw [← hM] at hO hll HOT
      clear hx hkl q1b q1c hM
      by_cases hne : nn = tmpB
      · have HH : Hid (othersF (l.take (k + 1)) tmpB = M) := by
          have := HOT.out; rw [if_pos hne, List.append_nil] at this; exact this
        have d0' : wr.cell? ⟨b1, o1 + k * 6, none⟩ = some (.string ⟨#[97, 114, 46, 116, 109, 112, 126]⟩) := by rw [d0, hne]; rfl
        clear hne HOT d0
        go_wp2
        refine ⟨⟨k + 1, by go_num, by omega, ?_, hB⟩, by simp [intOf]; omega⟩
        rw [HH.out]; exact hO
      · have HH : Hid (othersF (l.take (k + 1)) tmpB = M ++ [(nn, (e0, e1, e2, e3), dt)]) := by
          have := HOT.out; rw [if_neg hne] at this; exact this
        have htl : tmpB.toList = [97, 114, 46, 116, 109, 112, 126] := by rw [ByteArray.toList_eq]; rfl
        have bq : (nn.toList == [97, 114, 46, 116, 109, 112, 126]) = false := by rw [← htl, beq_toList]; exact decide_eq_false hne
        have bq2 : ¬ nn.toList = [97, 114, 46, 116, 109, 112, 126] := by simpa using bq
        have HO := hidK hO
        have HBB1 := hidK hB
        clear hne HOT hO hB htl
        go_wp2_with (refine wpF_one rfl (.tmp 48) (.tmp 53) rfl W0 B _ M nn e0 e1 e2 e3 dt rfl rfl HO.out hll (Nat.le_of_eq HBE.out) HBB1.out ?_; intro v' w' hO' hB')
        refine ⟨⟨k + 1, by go_num, by omega, ?_, hB'⟩, by simp [intOf]; omega⟩
        rw [HH.out]; exact hO'
    · go_upto_region 4 with fail
      go_cut [39] from 32 to 38 (fun s wx => s = .bool false ∧ wx = wr)
      case first =>
        by_cases h60 : k < N0
        · have kI : (k : Int) < (N0 : Int) := by omega
          have kS : ¬ ((k : Int) < 60) := by omega
          go_wp2
          go_meet
          case rel => exact ⟨rfl, rfl⟩
        · have kI : ¬ ((k : Int) < (N0 : Int)) := by omega
          go_wp2
          go_meet
          case rel => exact ⟨rfl, rfl⟩
      case rest =>
        obtain ⟨hs8, hw8⟩ := hcut
        rw [hw8]
        subst hs8
        clear hw8
        generalize hw1 : wr = w1 at *
        clear hw1
        obtain ⟨M, hM⟩ : ∃ M, M = othersF (l.take k) tmpB := ⟨_, rfl⟩
        rw [← hM] at hO
        have hMlen : M.length ≤ 60 := by
          rw [hM]
          have h1 : (othersF (l.take k) tmpB).length ≤ (l.take k).length := List.length_filter_le _ _
          have h2 : (l.take k).length ≤ k := by rw [List.length_take]; omega
          omega
        have hMsub : ∀ x ∈ M, x.2.2.size ≤ 1048576 := fun x hx => by
          rw [hM] at hx
          have h1 : x ∈ l.take k := (List.mem_filter.1 hx).1
          have h2 := size_mem (List.mem_of_mem_take h1)
          have := HSZ.out.2.1
          omega
        obtain ⟨oa, oc, hu⟩ := form_row hO.row
        obtain ⟨ML, hML⟩ : ∃ ML, ML = M.length := ⟨_, rfl⟩
        rw [← hML] at hu hMlen
        subst hu
        have HML := hidK hML
        have HMS := hidK hMsub
        have HMR : Hid (∀ W, Below w1.heap.size w1 W → RowF W (.slice oa ML oc) M) := fun W hb => hO.row.on hb
        have HB1 := hidK hB
        have hBs1 := HBB.out _ hB
        clear hM hML hMsub hO hB hk hkn HR0 HN0 hN1
        go_wp2
        go_loopw [17, 18] (fun o i wx => ∃ k : Nat, i = .int .i64 k ∧ k ≤ ML ∧ OwnF w1.heap.size wx o (M.take k) ∧ Below w1.heap.size w1 wx) (fun _ i _ => ML - (intOf i).toNat)
        case atStart => exact ⟨0, rfl, Nat.zero_le _, ownF_nil _ _, Below.refl _ _⟩
        case round =>
          obtain ⟨k, rfl, hkn, hO, hB⟩ := hrel
          by_cases hk : k < ML
          · have kI : (k : Int) < (ML : Int) := by omega
            have k0 : (0 : Int) ≤ (k : Int) := by omega
            have hkl : k < M.length := by have := HML.out; omega
            obtain ⟨⟨nn, ⟨e0, e1, e2, e3⟩, dt⟩, hx⟩ : ∃ x, M[k]? = some x := ⟨_, List.getElem?_eq_getElem hkl⟩
            have HH : Hid (M.take (k + 1) = M.take k ++ [(nn, (e0, e1, e2, e3), dt)]) := by
              show _ = _
              rw [List.take_add_one, hx]; rfl
            have hll : (M.take k).length ≤ 67108864 := by rw [List.length_take]; omega
            obtain ⟨b1, o1, p1, q1, d0, d1, d2, d3, d4, d5⟩ := (HMR.out wr hB).fil hx
            injection q1 with q1 q1b q1c
            subst q1
            have HO := hidK hO
            have HBB1 := hidK hB
            clear hO hB hkl q1b q1c hx
            go_wp2_with (refine wpF_one rfl (.tmp 61) (.tmp 66) rfl w1 w1.heap.size _ (M.take k) nn e0 e1 e2 e3 dt rfl rfl HO.out hll (Nat.le_refl _) HBB1.out ?_; intro v' w' hO' hB')
            refine ⟨⟨k + 1, by go_num, by omega, ?_, hB'⟩, by simp [intOf]; omega⟩
            rw [HH.out]; exact hO'
          · obtain rfl : k = ML := by omega
            have hall : M.take k = M := by rw [HML.out]; exact List.take_length
            rw [hall] at hO
            have HO := hidK hO
            have HBB1 := hidK hB
            have hll : M.length ≤ 67108864 := by have := HML.out; omega
            obtain ⟨y0, y1, y2, y3, y4, y5⟩ := HYB.out wr (HB1.out.trans (hB.mono hBs1))
            clear hO hB hall hk hkn
            go_upto_region 14 with (refine wpF_one rfl (.tmp 68) (.tmp 70) rfl w1 w1.heap.size _ M ⟨#[97, 114, 46, 116, 109, 112, 126]⟩ l0 l1 l2 l3 lda rfl rfl HO.out hll (Nat.le_refl _) HBB1.out ?_; intro bv w2 hO2 hB2)
            have hB02 := HB1.out.trans (hB2.mono hBs1)
            have HRM := hidK (HMR.out _ hB2)
            have HRB := hidK hO2.row
            clear y0 y1 y2 y3 y4 y5 HO HBB1 hll HMR HB1 hBs1 hO2 hB2 HYB
            have hz2 := HBB.out _ hB02
            by_cases hcc : c < 0 ∨ 1073741824 < c
            case pos =>
              have HS1 : Hid (∀ W v L, RowF W v L → Calls Tryz.prog 7 #[.int .i64 c, v] W fun e w' => e = .returned (.pointer none) ∧ Below W.heap.size W w') := fun W v L h => scene_no C c v L W hcc h
              have HG : Hid (∀ W, Calls Tryz.prog 8 #[.int .i64 c] W fun e w' => e = .returned (.bool false) ∧ w' = W) := fun W => by
                refine (good_c c W).mono ?_
                rintro e w' ⟨rfl, rfl⟩
                exact ⟨by rw [decide_eq_false (by omega)], rfl⟩
              clear hcc
              go_upto_region 15 with (go_at_call 7; refine (HS1.out _ _ M HRM.out).mono ?_; rintro e w3 ⟨rfl, hb3⟩)
              have HRB3 := hidK (HRB.out.on hb3)
              go_upto_region 16 with (go_at_call 7; refine (HS1.out _ _ _ HRB3.out).mono ?_; rintro e w4 ⟨rfl, hb4⟩)
              have hfin := HEND.out _ ((hB02.trans (hb3.mono hz2)).trans (hb4.mono (by have := hb3.size; omega)))
              go_wp2_with (go_at_call 8; refine (HG.out _).mono ?_; rintro e w5 ⟨rfl, hw5⟩; subst w5)
              go_ret
              exact ⟨rfl, hfin⟩
            case neg =>
              obtain ⟨cn, rfl⟩ := Int.eq_ofNat_of_zero_le (show 0 ≤ c by omega)
              have hcn : cn ≤ 1073741824 := by omega
              obtain ⟨hsl, hsz, hslda, hsda, hspl, hscl⟩ := HSZ.out
              have hMl := HML.out
              obtain ⟨s, s2, L, hS, hS2⟩ := two_scenes cn hcn M (tmpB, (l0, l1, l2, l3), lda) rfl (by omega)
              have hVF := Vf.scene cn hcn M (by omega)
              rw [hS.eq] at hVF
              have hVF2 := Vf.scene cn hcn (M ++ [(tmpB, (l0, l1, l2, l3), lda)]) (by simp; omega)
              rw [hS2.eq] at hVF2
              have hl2 : (M ++ [(tmpB, (l0, l1, l2, l3), lda)]).length = M.length + 1 := by simp
              rw [hl2] at hVF2
              have hsb : s.bodies.length < 2097151 := by have : s.bodies.length ≤ _ := hVF.bodies; omega
              have hsb2 : s2.bodies.length < 2097151 := by have : s2.bodies.length ≤ _ := hVF2.bodies; omega
              have hnow : seen s.bodies s.now = L := hS.sc.now
              have hnow2 : seen s2.bodies s2.now = L := hS2.sc.now
              have hLl : L.length < 64 := by
                have h1 := hS.len
                have h2 := without_len s.now tmpB
                rw [← hnow]; unfold seen; rw [List.length_map]; omega
              obtain ⟨E, V, U, N, A, g1, g2, g3, g4, g5, g6, g7, g8, g9, g10, g11, g12, g13, g14, g15, g16, g17⟩ := leftover_plain s s2 L hS.sc hS2.sc (hS.cap.trans hS2.cap.symm) hLl hsb hsb2 plan nm da m0 m1 m2 m3 n cuts
              have hNl : N.length ≤ 64 := by rw [← g13]; exact seen_len g9
              have hAl : A.length ≤ 64 := by
                have : seen (V.st.crash n cuts).bodies (V.st.crash n cuts).now = A := g16.now
                rw [← this]; exact seen_len g16.wf
              have hnP : nP da ≤ 2049 := by unfold nP; omega
              have hBe := HBE.out
              have HS1 : Hid (Calls Tryz.prog 7 #[.int .i64 (cn : Int), .slice oa k oc] w2 fun e w' => ∃ q, e = .returned (.pointer (some ⟨q, 0, none⟩)) ∧ Vol PS B q ⟨s, [], 0, false, 0⟩ w' ∧ RowF w' bv (M ++ [(tmpB, (l0, l1, l2, l3), lda)]) ∧ Below B W0 w') := by
                refine (scene_c C cn _ M w2 hcn HRM.out (by omega) (fun x hx => by have := HMS.out x hx; omega)).mono ?_
                rintro e w' ⟨q, rfl, ⟨G, h1, h2⟩, h3⟩
                rw [hS.eq] at h1
                exact ⟨q, rfl, ⟨G, h1, fun k hk => by have := h2 k hk; omega⟩, HRB.out.on h3, hB02.trans (h3.mono hz2)⟩
              have HS2 : Hid (∀ q W, Vol PS B q ⟨s, [], 0, false, 0⟩ W → RowF W bv (M ++ [(tmpB, (l0, l1, l2, l3), lda)]) → Below B W0 W → Calls Tryz.prog 7 #[.int .i64 (cn : Int), bv] W fun e w' => ∃ p, e = .returned (.pointer (some ⟨p, 0, none⟩)) ∧ Lx PS B q ⟨s, [], 0, false, 0⟩ p ⟨s2, [], 0, false, 0⟩ [] w' ∧ Below B W0 w') := fun q W hV hr hb => by
                have hbs := hb.size
                refine (lx_scene C B q _ cn bv _ W hV (by omega) hcn hr (by rw [hl2]; omega) (fun x hx => ?_)).mono ?_
                · rcases List.mem_append.1 hx with hx | hx
                  · have := HMS.out x hx; omega
                  · simp at hx; subst hx; show lda.size ≤ _; omega
                · rintro e w' ⟨p, rfl, h1, h2⟩
                  rw [hS2.eq] at h1
                  exact ⟨p, rfl, h1, hb.trans (h2.mono (by omega))⟩
              obtain ⟨LL, hLL⟩ : ∃ LL, LL = L.length := ⟨_, rfl⟩
              obtain ⟨NL, hNL⟩ : ∃ NL, NL = N.length := ⟨_, rfl⟩
              obtain ⟨AL, hAL⟩ : ∃ AL, AL = A.length := ⟨_, rfl⟩
              have HV1 : Hid (∀ q p W, Lx PS B q ⟨s, [], 0, false, 0⟩ p ⟨s2, [], 0, false, 0⟩ [] W → Below B W0 W → Calls Tryz.prog 9 #[.pointer (some ⟨q, 0, none⟩)] W fun e w' => ∃ ao cap k, e = .returned (.tuple #[.slice ao LL cap, .bool true]) ∧ Lx PS B q ((Vs.mk s [] 0 false 0).ticks k) p ⟨s2, [], 0, false, 0⟩ [(.slice ao LL cap, L)] w' ∧ Below B W0 w') := fun q p W h hb => by
                rw [hLL]; exact lx_seen C B q _ p _ [] W0 W L hBe h hb hS.sc.wf hS.sc.dw rfl ⟨rfl, rfl⟩ hnow
              have HV2 : Hid (∀ q p k rows W, Lx PS B q ((Vs.mk s [] 0 false 0).ticks k) p ⟨s2, [], 0, false, 0⟩ rows W → Below B W0 W → Calls Tryz.prog 9 #[.pointer (some ⟨p, 0, none⟩)] W fun e w' => ∃ ao cap k2, e = .returned (.tuple #[.slice ao LL cap, .bool true]) ∧ Lx PS B q ((Vs.mk s [] 0 false 0).ticks k) p ((Vs.mk s2 [] 0 false 0).ticks k2) ((.slice ao LL cap, L) :: rows) w' ∧ Below B W0 w') := fun q p k rows W h hb => by
                rw [hLL]
                refine (lx_seen C B p _ q _ rows W0 W L hBe h.swap hb hS2.sc.wf hS2.sc.dw rfl ⟨rfl, rfl⟩ hnow2).mono ?_
                rintro e w' ⟨ao, cap, k2, rfl, h1, h2⟩
                exact ⟨ao, cap, k2, rfl, h1.swap, h2⟩
              have HSM : Hid (∀ q v p u W a1 c1 a2 c2 rows, Lx PS B q v p u ((.slice a2 LL c2, L) :: (.slice a1 LL c1, L) :: rows) W → Below B W0 W → Calls Tryz.prog 16 #[.slice a1 LL c1, .slice a2 LL c2] W fun e w' => e = .returned (.bool true) ∧ Lx PS B q v p u ((.slice a2 LL c2, L) :: (.slice a1 LL c1, L) :: rows) w' ∧ Below B W0 w') := fun q v p u W a1 c1 a2 c2 rows h hb =>
                lx_same C B q v p u _ W0 W L _ _ hBe h hb (by simp) (by simp) (by omega)
              have HA1 : Hid (∀ q p k k2 rows W, Lx PS B q ((Vs.mk s [] 0 false 0).ticks k) p ((Vs.mk s2 [] 0 false 0).ticks k2) rows W → Below B W0 W → Calls Tryz.prog 11 #[.pointer (some ⟨q, 0, none⟩), pv] W fun e w' => e = .returned (.tuple #[]) ∧ Lx PS B q ⟨s, plan, 0, false, 0⟩ p ((Vs.mk s2 [] 0 false 0).ticks k2) [] w' ∧ Below B W0 w') := fun q p k k2 rows W h hb => by
                refine (lx_arm C B q _ p _ [] plan pv W (h.sub (fun r hr => by simp at hr)) (by have := hb.size; omega) (HP.out W hb) HPB.out (by omega)).mono ?_
                rintro e w' ⟨rfl, h1, h2⟩
                exact ⟨rfl, h1, hb.trans h2⟩
              have HA2 : Hid (∀ q p k2 W, Lx PS B q ⟨s, plan, 0, false, 0⟩ p ((Vs.mk s2 [] 0 false 0).ticks k2) [] W → Below B W0 W → Calls Tryz.prog 11 #[.pointer (some ⟨p, 0, none⟩), pv] W fun e w' => e = .returned (.tuple #[]) ∧ Lx PS B q ⟨s, plan, 0, false, 0⟩ p ⟨s2, plan, 0, false, 0⟩ [] w' ∧ Below B W0 w') := fun q p k2 W h hb => by
                refine (lx_arm C B p _ q _ [] plan pv W h.swap (by have := hb.size; omega) (HP.out W hb) HPB.out (by omega)).mono ?_
                rintro e w' ⟨rfl, h1, h2⟩
                exact ⟨rfl, h1.swap, hb.trans h2⟩
              have HR1 : Hid (∀ q p W, Lx PS B q ⟨s, plan, 0, false, 0⟩ p ⟨s2, plan, 0, false, 0⟩ [] W → Below B W0 W → Calls Tryz.prog 12 #[.pointer (some ⟨q, 0, none⟩), .string nm, .string da, .agg #[.int .i64 m0, .int .i64 m1, .int .i64 m2, .int .i64 m3]] W fun r w' => ∃ ev, r = .returned ev ∧ (∃ op nm, ErrIs w' B op nm E ev) ∧ Lx PS B q V p ⟨s2, plan, 0, false, 0⟩ [] w' ∧ Below B W0 w') := fun q p W h hb => by
                have := lx_repl C B q _ p _ [] nm da m0 m1 m2 m3 W _ h (by have := hb.size; omega) (hVF.arm plan) (by omega) (by omega)
                refine this.mono ?_
                rintro r w' ⟨ev, rfl, h1, h2, h3⟩
                rw [g1] at h1
                rw [g2] at h2
                exact ⟨ev, rfl, h1, h2, hb.trans h3⟩
              have HR2 : Hid (∀ q p W, Lx PS B q V p ⟨s2, plan, 0, false, 0⟩ [] W → Below B W0 W → Calls Tryz.prog 12 #[.pointer (some ⟨p, 0, none⟩), .string nm, .string da, .agg #[.int .i64 m0, .int .i64 m1, .int .i64 m2, .int .i64 m3]] W fun r w' => ∃ ev, r = .returned ev ∧ (∃ op nm, ErrIs w' B op nm E ev) ∧ Lx PS B q V p U [] w' ∧ Below B W0 w') := fun q p W h hb => by
                have := lx_repl C B p _ q _ [] nm da m0 m1 m2 m3 W _ h.swap (by have := hb.size; omega) (hVF2.arm plan) (by omega) (by omega)
                refine this.mono ?_
                rintro r w' ⟨ev, rfl, h1, h2, h3⟩
                rw [g3] at h1
                rw [g4] at h2
                exact ⟨ev, rfl, h1, h2.swap, hb.trans h3⟩
              have HCO : Hid (∀ W op nm ev, ErrIs W B op nm E ev → Calls Tryz.prog 13 #[ev] W fun r w' => r = .returned (.int .i64 E) ∧ w' = W) := fun W op nm ev h => code_c B op nm E ev W h
              obtain ⟨off, hoff⟩ : ∃ off, off = V.off := ⟨_, rfl⟩
              obtain ⟨cnt, hcnt⟩ : ∃ cnt, cnt = V.cnt := ⟨_, rfl⟩
              have HD1 : Hid (∀ q p W, Lx PS B q V p U [] W → Calls Tryz.prog 14 #[.pointer (some ⟨q, 0, none⟩)] W fun e w' => e = .returned (.bool off) ∧ w' = W) := fun q p W h => by rw [hoff]; exact lx_down B q V p U [] W h
              have HD2 : Hid (∀ q p W, Lx PS B q V p U [] W → Calls Tryz.prog 14 #[.pointer (some ⟨p, 0, none⟩)] W fun e w' => e = .returned (.bool off) ∧ w' = W) := fun q p W h => by rw [hoff, g5]; exact lx_down B p U q V [] W h.swap
              have HC1 : Hid (∀ q p W, Lx PS B q V p U [] W → Calls Tryz.prog 17 #[.pointer (some ⟨q, 0, none⟩)] W fun e w' => e = .returned (.int .i64 cnt) ∧ w' = W) := fun q p W h => by rw [hcnt]; exact lx_calls B q V p U [] W h
              have HC2 : Hid (∀ q p W, Lx PS B q V p U [] W → Calls Tryz.prog 17 #[.pointer (some ⟨p, 0, none⟩)] W fun e w' => e = .returned (.int .i64 cnt) ∧ w' = W) := fun q p W h => by rw [hcnt, g6]; exact lx_calls B p U q V [] W h.swap
              have HN1 : Hid (∀ q p W, Lx PS B q V p U [] W → Below B W0 W → Calls Tryz.prog 11 #[.pointer (some ⟨q, 0, none⟩), .slice none 0 0] W fun e w' => e = .returned (.tuple #[]) ∧ Lx PS B q (V.arm []) p U [] w' ∧ Below B W0 w') := fun q p W h hb => by
                refine (lx_arm C B q _ p _ [] [] (.slice none 0 0) W h (by have := hb.size; omega) (.inl ⟨rfl, _, _, rfl⟩) (fun h => absurd rfl h) (by simp)).mono ?_
                rintro e w' ⟨rfl, h1, h2⟩
                exact ⟨rfl, h1, hb.trans h2⟩
              have HN2 : Hid (∀ q p W, Lx PS B q (V.arm []) p U [] W → Below B W0 W → Calls Tryz.prog 11 #[.pointer (some ⟨p, 0, none⟩), .slice none 0 0] W fun e w' => e = .returned (.tuple #[]) ∧ Lx PS B q (V.arm []) p (U.arm []) [] w' ∧ Below B W0 w') := fun q p W h hb => by
                refine (lx_arm C B p _ q _ [] [] (.slice none 0 0) W h.swap (by have := hb.size; omega) (.inl ⟨rfl, _, _, rfl⟩) (fun h => absurd rfl h) (by simp)).mono ?_
                rintro e w' ⟨rfl, h1, h2⟩
                exact ⟨rfl, h1.swap, hb.trans h2⟩
              have HV3 : Hid (off = false → ∀ q p W, Lx PS B q (V.arm []) p (U.arm []) [] W → Below B W0 W → Calls Tryz.prog 9 #[.pointer (some ⟨q, 0, none⟩)] W fun e w' => ∃ ao cap k, e = .returned (.tuple #[.slice ao NL cap, .bool true]) ∧ Lx PS B q ((V.arm []).ticks k) p (U.arm []) [(.slice ao NL cap, N)] w' ∧ Below B W0 w') := fun ho q p W h hb => by
                rw [hNL]; exact lx_seen C B q _ p _ [] W0 W N hBe h hb g9 g10 rfl ⟨by show V.off = false; rw [← hoff]; exact ho, rfl⟩ g13
              have HV4 : Hid (off = false → ∀ q p k rows W, Lx PS B q ((V.arm []).ticks k) p (U.arm []) rows W → Below B W0 W → Calls Tryz.prog 9 #[.pointer (some ⟨p, 0, none⟩)] W fun e w' => ∃ ao cap k2, e = .returned (.tuple #[.slice ao NL cap, .bool true]) ∧ Lx PS B q ((V.arm []).ticks k) p ((U.arm []).ticks k2) ((.slice ao NL cap, N) :: rows) w' ∧ Below B W0 w') := fun ho q p k rows W h hb => by
                rw [hNL]
                refine (lx_seen C B p _ q _ rows W0 W N hBe h.swap hb g11 g12 rfl ⟨by show U.off = false; rw [← g5, ← hoff]; exact ho, rfl⟩ g14).mono ?_
                rintro e w' ⟨ao, cap, k2, rfl, h1, h2⟩
                exact ⟨ao, cap, k2, rfl, h1.swap, h2⟩
              have HS4 : Hid (∀ q v p u W a1 c1 a2 c2 rows, Lx PS B q v p u ((.slice a2 NL c2, N) :: (.slice a1 NL c1, N) :: rows) W → Below B W0 W → Calls Tryz.prog 16 #[.slice a1 NL c1, .slice a2 NL c2] W fun e w' => e = .returned (.bool true) ∧ Lx PS B q v p u ((.slice a2 NL c2, N) :: (.slice a1 NL c1, N) :: rows) w' ∧ Below B W0 w') := fun q v p u W a1 c1 a2 c2 rows h hb =>
                lx_same C B q v p u _ W0 W N _ _ hBe h hb (by simp) (by simp) (by omega)
              obtain ⟨hO, hOe⟩ : ∃ hO, hO = hasF N (nm, (m0, m1, m2, m3), da) := ⟨_, rfl⟩
              have HH4 : Hid (∀ q v p u W a1 c1 a2 c2 rows, Lx PS B q v p u ((.slice a2 NL c2, N) :: (.slice a1 NL c1, N) :: rows) W → Below B W0 W → Calls Tryz.prog 18 #[.slice a1 NL c1, .agg #[.string nm, .int .i64 m0, .int .i64 m1, .int .i64 m2, .int .i64 m3, .string da]] W fun e w' => e = .returned (.bool hO) ∧ Lx PS B q v p u [] w' ∧ Below B W0 w') := fun q v p u W a1 c1 a2 c2 rows h hb => by
                refine (hasF_c _ N nm m0 m1 m2 m3 da W (h.row (r := (.slice a1 NL c1, N)) (by simp)) (by omega)).mono ?_
                rintro e w' ⟨rfl, h2⟩
                exact ⟨by rw [hOe], (h.sub (fun r hr => by simp at hr)).below C h2, hb.trans (h2.mono (by have := hb.size; omega))⟩
              have HR3 : Hid (∀ q v p u W, Lx PS B q v p u [] W → v.st = V.st → v.round = 0 → Below B W0 W → Calls Tryz.prog 15 #[.pointer (some ⟨q, 0, none⟩), .int .i64 n, cv] W fun e w' => e = .returned (.tuple #[]) ∧ Lx PS B q ⟨V.st.crash n cuts, [], 0, false, 1⟩ p u [] w' ∧ Below B W0 w') := fun q v p u W h e1 e2 hb => by
                refine (lx_restart C B q v p u [] n cv cuts W h (by have := hb.size; omega) (by rw [e1]; exact g9) (by omega) (HC.out W hb) HCB.out (by omega)).mono ?_
                rintro e w' ⟨rfl, h1, h2⟩
                unfold Vs.restart at h1
                rw [e1, e2] at h1
                exact ⟨rfl, h1, hb.trans h2⟩
              have HR4 : Hid (∀ q v p u W, Lx PS B q v p u [] W → u.st = U.st → u.round = 0 → Below B W0 W → Calls Tryz.prog 15 #[.pointer (some ⟨p, 0, none⟩), .int .i64 n, cv] W fun e w' => e = .returned (.tuple #[]) ∧ Lx PS B q v p ⟨U.st.crash n cuts, [], 0, false, 1⟩ [] w' ∧ Below B W0 w') := fun q v p u W h e1 e2 hb => by
                refine (lx_restart C B p u q v [] n cv cuts W h.swap (by have := hb.size; omega) (by rw [e1]; exact g11) (by omega) (HC.out W hb) HCB.out (by omega)).mono ?_
                rintro e w' ⟨rfl, h1, h2⟩
                unfold Vs.restart at h1
                rw [e1, e2] at h1
                exact ⟨rfl, h1.swap, hb.trans h2⟩
              have HV5 : Hid (∀ q p W, Lx PS B q ⟨V.st.crash n cuts, [], 0, false, 1⟩ p ⟨U.st.crash n cuts, [], 0, false, 1⟩ [] W → Below B W0 W → Calls Tryz.prog 9 #[.pointer (some ⟨q, 0, none⟩)] W fun e w' => ∃ ao cap k, e = .returned (.tuple #[.slice ao AL cap, .bool true]) ∧ Lx PS B q ((Vs.mk (V.st.crash n cuts) [] 0 false 1).ticks k) p ⟨U.st.crash n cuts, [], 0, false, 1⟩ [(.slice ao AL cap, A)] w' ∧ Below B W0 w') := fun q p W h hb => by
                rw [hAL]; exact lx_seen C B q _ p _ [] W0 W A hBe h hb g16.wf g16.dw rfl ⟨rfl, rfl⟩ g16.now
              have HV6 : Hid (∀ q p k rows W, Lx PS B q ((Vs.mk (V.st.crash n cuts) [] 0 false 1).ticks k) p ⟨U.st.crash n cuts, [], 0, false, 1⟩ rows W → Below B W0 W → Calls Tryz.prog 9 #[.pointer (some ⟨p, 0, none⟩)] W fun e w' => ∃ ao cap k2, e = .returned (.tuple #[.slice ao AL cap, .bool true]) ∧ Lx PS B q ((Vs.mk (V.st.crash n cuts) [] 0 false 1).ticks k) p ((Vs.mk (U.st.crash n cuts) [] 0 false 1).ticks k2) ((.slice ao AL cap, A) :: rows) w' ∧ Below B W0 w') := fun q p k rows W h hb => by
                rw [hAL]
                refine (lx_seen C B p _ q _ rows W0 W A hBe h.swap hb g17.wf g17.dw rfl ⟨rfl, rfl⟩ g17.now).mono ?_
                rintro e w' ⟨ao, cap, k2, rfl, h1, h2⟩
                exact ⟨ao, cap, k2, rfl, h1.swap, h2⟩
              have HS6 : Hid (∀ q v p u W a1 c1 a2 c2 rows, Lx PS B q v p u ((.slice a2 AL c2, A) :: (.slice a1 AL c1, A) :: rows) W → Below B W0 W → Calls Tryz.prog 16 #[.slice a1 AL c1, .slice a2 AL c2] W fun e w' => e = .returned (.bool true) ∧ Lx PS B q v p u ((.slice a2 AL c2, A) :: (.slice a1 AL c1, A) :: rows) w' ∧ Below B W0 w') := fun q v p u W a1 c1 a2 c2 rows h hb =>
                lx_same C B q v p u _ W0 W A _ _ hBe h hb (by simp) (by simp) (by omega)
              have HST : Hid (V.round = 0 ∧ U.round = 0) := ⟨g7, g8⟩
              have HEH : Hid (E = 0 → hO = true) := fun he => by rw [hOe]; exact g15 he
              rw [HPV.out] at HA1 HA2
              rw [HCV.out] at HR3 HR4
              clear g1 g2 g3 g4 g5 g6 g7 g8 g9 g10 g11 g12 g13 g14 g15 g16 g17 hNl hAl hnP hBe hLL hNL hAL hoff hcnt hOe hS hS2 hVF hVF2 hl2 hsb hsb2 hnow hnow2 hLl hMl hsl hsz hslda hsda hspl hscl hcn hcc HSZ HML HMS HRM HRB HP HC HPB HCB HPL HBE hz2 HBB
              go_upto_region 15 with (go_at_call 7; refine HS1.out.mono ?_; rintro e w3 ⟨q, rfl, hV3, hr3, hB3⟩)
              go_upto_region 16 with (go_at_call 7; refine (HS2.out q _ hV3 hr3 hB3).mono ?_; rintro e w4 ⟨p, rfl, hL4, hB4⟩)
              clear HS1 HS2 hV3 hr3 hB3 hB02
              go_upto_region 20 with (go_at_call 9; refine (HV1.out q p _ hL4 hB4).mono ?_; rintro e w5 ⟨a1, c1, k1, rfl, hL5, hB5⟩)
              go_upto_region 21 with (go_at_call 9; refine (HV2.out q p _ _ _ hL5 hB5).mono ?_; rintro e w6 ⟨a2, c2, k2, rfl, hL6, hB6⟩)
              go_upto_region 22 with (go_at_call 16; refine (HSM.out q _ p _ _ a1 c1 a2 c2 _ hL6 hB6).mono ?_; rintro e w7 ⟨rfl, hL7, hB7⟩)
              clear HV1 HV2 HSM hL4 hB4 hL5 hB5 hL6 hB6
              go_upto_region 25 with (go_at_call 11; refine (HA1.out q p _ _ _ _ hL7 hB7).mono ?_; rintro e w8 ⟨rfl, hL8, hB8⟩)
              go_upto_region 26 with (go_at_call 11; refine (HA2.out q p _ _ hL8 hB8).mono ?_; rintro e w9 ⟨rfl, hL9, hB9⟩)
              clear HA1 HA2 hL7 hB7 hL8 hB8
              obtain ⟨x0, x1, x2, x3, x4, x5⟩ := HXB.out w9 hB9
              go_upto_region 27 with (first
                | (go_at_call 12; refine (HR1.out q p _ hL9 hB9).mono ?_; rintro e w10 ⟨ev1, rfl, ⟨op1, en1, he1⟩, hL10, hB10⟩)
                | (go_at_call 13; refine (HCO.out _ op1 en1 ev1 he1).mono ?_; rintro e w11 ⟨rfl, hw11⟩; subst w11))
              clear x0 x1 x2 x3 x4 x5 he1 hL9 hB9 HR1
              obtain ⟨x0, x1, x2, x3, x4, x5⟩ := HXB.out w10 hB10
              go_upto_region 28 with (first
                | (go_at_call 12; refine (HR2.out q p _ hL10 hB10).mono ?_; rintro e w12 ⟨ev2, rfl, ⟨op2, en2, he2⟩, hL12, hB12⟩)
                | (go_at_call 13; refine (HCO.out _ op2 en2 ev2 he2).mono ?_; rintro e w13 ⟨rfl, hw13⟩; subst w13))
              clear x0 x1 x2 x3 x4 x5 he2 hL10 hB10 HR2 HCO
              go_upto_region 29 with (go_at_call 14; refine (HD1.out q p _ hL12).mono ?_; rintro e w14 ⟨rfl, hw14⟩; subst w14)
              have bE : ¬ ((E : Int) < 0) := by omega
              have bE1 : decide ((E : Int) < 0) = false := decide_eq_false bE
              have bE2 : ((E : Int) != (E : Int)) = false := by simp
              have bC2 : ((cnt : Int) != (cnt : Int)) = false := by simp
              cases off
              · have HV3f := hidK (HV3.out rfl)
                have HV4f := hidK (HV4.out rfl)
                go_upto_region 31 with (first
                  | (go_at_call 14; refine (HD2.out q p _ hL12).mono ?_; rintro e w15 ⟨rfl, hw15⟩; subst w15)
                  | (go_at_call_of 17 q; refine (HC1.out q p _ hL12).mono ?_; rintro e w16 ⟨rfl, hw16⟩; subst w16)
                  | (go_at_call_of 17 p; refine (HC2.out q p _ hL12).mono ?_; rintro e w17 ⟨rfl, hw17⟩; subst w17))
                go_upto_region 32 with (go_at_call 11; refine (HN1.out q p _ hL12 hB12).mono ?_; rintro e w18 ⟨rfl, hL18, hB18⟩)
                go_upto_region 33 with (go_at_call 11; refine (HN2.out q p _ hL18 hB18).mono ?_; rintro e w19 ⟨rfl, hL19, hB19⟩)
                clear HD1 HD2 HC1 HC2 HN1 HN2 hL12 hB12 hL18 hB18
                go_upto_region 35 with (go_at_call 9; refine (HV3f.out q p _ hL19 hB19).mono ?_; rintro e w20 ⟨a3, c3, k3, rfl, hL20, hB20⟩)
                go_upto_region 36 with (go_at_call 9; refine (HV4f.out q p _ _ _ hL20 hB20).mono ?_; rintro e w21 ⟨a4, c4, k4, rfl, hL21, hB21⟩)
                go_upto_region 37 with (go_at_call 16; refine (HS4.out q _ p _ _ a3 c3 a4 c4 _ hL21 hB21).mono ?_; rintro e w22 ⟨rfl, hL22, hB22⟩)
                obtain ⟨x0, x1, x2, x3, x4, x5⟩ := HXB.out w22 hB22
                go_upto_region 38 with (go_at_call 18; refine (HH4.out q _ p _ _ a3 c3 a4 c4 _ hL22 hB22).mono ?_; rintro e w23 ⟨rfl, hLz, hBz⟩)
                clear HV3 HV4 HV3f HV4f HS4 HH4 hL19 hB19 hL20 hB20 hL21 hB21 hL22 hB22 x0 x1 x2 x3 x4 x5
                by_cases hE : E = 0
                · have hOt := HEH.out hE
                  subst hE
                  subst hOt
                  have bE3 : ((0 : Int) == 0) = true := rfl
                  go_upto_region 41 with (go_at_call 15; refine (HR3.out q _ p _ _ hLz rfl HST.out.1 hBz).mono ?_; rintro e wr1 ⟨rfl, hLr1, hBr1⟩)
                  go_upto_region 42 with (go_at_call 15; refine (HR4.out q _ p _ _ hLr1 rfl HST.out.2 hBr1).mono ?_; rintro e wr2 ⟨rfl, hLr2, hBr2⟩)
                  clear hLz hBz hLr1 hBr1
                  go_upto_region 43 with (go_at_call 9; refine (HV5.out q p _ hLr2 hBr2).mono ?_; rintro e wr3 ⟨a5, c5, k5, rfl, hLr3, hBr3⟩)
                  go_upto_region 44 with (go_at_call 9; refine (HV6.out q p _ _ _ hLr3 hBr3).mono ?_; rintro e wr4 ⟨a6, c6, k6, rfl, hLr4, hBr4⟩)
                  go_upto_region 45 with (go_at_call 16; refine (HS6.out q _ p _ _ a5 c5 a6 c6 _ hLr4 hBr4).mono ?_; rintro e wr5 ⟨rfl, hLr5, hBr5⟩)
                  have hfin := HEND.out _ hBr5
                  clear hLr2 hBr2 hLr3 hBr3 hLr4 hBr4 hLr5 hBr5
                  go_wp2
                  go_ret
                  exact ⟨rfl, hfin⟩
                · have bE3 : ((E : Int) == 0) = false := by simp; omega
                  have bE4 : ¬ ((E : Int) = 0) := by omega
                  go_upto_region 41 with (go_at_call 15; refine (HR3.out q _ p _ _ hLz rfl HST.out.1 hBz).mono ?_; rintro e wr1 ⟨rfl, hLr1, hBr1⟩)
                  go_upto_region 42 with (go_at_call 15; refine (HR4.out q _ p _ _ hLr1 rfl HST.out.2 hBr1).mono ?_; rintro e wr2 ⟨rfl, hLr2, hBr2⟩)
                  clear hLz hBz hLr1 hBr1
                  go_upto_region 43 with (go_at_call 9; refine (HV5.out q p _ hLr2 hBr2).mono ?_; rintro e wr3 ⟨a5, c5, k5, rfl, hLr3, hBr3⟩)
                  go_upto_region 44 with (go_at_call 9; refine (HV6.out q p _ _ _ hLr3 hBr3).mono ?_; rintro e wr4 ⟨a6, c6, k6, rfl, hLr4, hBr4⟩)
                  go_upto_region 45 with (go_at_call 16; refine (HS6.out q _ p _ _ a5 c5 a6 c6 _ hLr4 hBr4).mono ?_; rintro e wr5 ⟨rfl, hLr5, hBr5⟩)
                  have hfin := HEND.out _ hBr5
                  clear hLr2 hBr2 hLr3 hBr3 hLr4 hBr4 hLr5 hBr5
                  go_wp2
                  go_ret
                  exact ⟨rfl, hfin⟩
              · go_upto_region 31 with (first
                  | (go_at_call 14; refine (HD2.out q p _ hL12).mono ?_; rintro e w15 ⟨rfl, hw15⟩; subst w15)
                  | (go_at_call_of 17 q; refine (HC1.out q p _ hL12).mono ?_; rintro e w16 ⟨rfl, hw16⟩; subst w16)
                  | (go_at_call_of 17 p; refine (HC2.out q p _ hL12).mono ?_; rintro e w17 ⟨rfl, hw17⟩; subst w17))
                go_upto_region 32 with (go_at_call 11; refine (HN1.out q p _ hL12 hB12).mono ?_; rintro e w18 ⟨rfl, hL18, hB18⟩)
                go_upto_region 33 with (go_at_call 11; refine (HN2.out q p _ hL18 hB18).mono ?_; rintro e w19 ⟨rfl, hL19, hB19⟩)
                clear HD1 HD2 HC1 HC2 HN1 HN2 hL12 hB12 hL18 hB18
                have hLz := hL19
                have hBz := hB19
                clear hL19 hB19 HV3 HV4 HS4 HH4
                go_upto_region 41 with (go_at_call 15; refine (HR3.out q _ p _ _ hLz rfl HST.out.1 hBz).mono ?_; rintro e wr1 ⟨rfl, hLr1, hBr1⟩)
                go_upto_region 42 with (go_at_call 15; refine (HR4.out q _ p _ _ hLr1 rfl HST.out.2 hBr1).mono ?_; rintro e wr2 ⟨rfl, hLr2, hBr2⟩)
                clear hLz hBz hLr1 hBr1
                go_upto_region 43 with (go_at_call 9; refine (HV5.out q p _ hLr2 hBr2).mono ?_; rintro e wr3 ⟨a5, c5, k5, rfl, hLr3, hBr3⟩)
                go_upto_region 44 with (go_at_call 9; refine (HV6.out q p _ _ _ hLr3 hBr3).mono ?_; rintro e wr4 ⟨a6, c6, k6, rfl, hLr4, hBr4⟩)
                go_upto_region 45 with (go_at_call 16; refine (HS6.out q _ p _ _ a5 c5 a6 c6 _ hLr4 hBr4).mono ?_; rintro e wr5 ⟨rfl, hLr5, hBr5⟩)
                have hfin := HEND.out _ hBr5
                clear hLr2 hBr2 hLr3 hBr3 hLr4 hBr4 hLr5 hBr5
                go_wp2
                go_ret
                exact ⟨rfl, hfin⟩
end Go.Proofs.YtbbblncoicjacaaGreat
