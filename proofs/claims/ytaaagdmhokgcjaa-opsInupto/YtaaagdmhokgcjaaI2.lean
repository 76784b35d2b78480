
-- (*insertion).add where the name is there.
import Derived.Test.YtaaagdmhokgcjaaI1
namespace Go.Proofs.Ytaaagdmhokgcjaa
open Go.ChangeShapes Go.WideShapes Go.ChangeAt Go.RowKit
set_option linter.unusedVariables false
set_option maxRecDepth 100000
set_option linter.unusedSimpArgs false
/-- the member met -/
theorem met_cells {B g n cap : Nat} {w : World} {ms : List Mx} {i : Nat} {y : Mx} (ho : w.ownsRow B 32 7 (.slice (some ⟨g, 0, none⟩) n cap) n (ms.flatMap mxL)) (hy : ms[i]? = some y) : ∃ cur : Array Value, w.heap[g]? = some (.cells cur 32 (0, 0)) ∧ B ≤ g ∧ i * 7 + 7 ≤ cur.size ∧ ∀ m u, (mxL y)[m]? = some u → cur[i * 7 + m]? = some u := by
  obtain ⟨cur, h1, h2, h3, h4, h5, h6, h7⟩ := ownG_cur mxL 7 (by decide) mxL_len ho
  have hil := (List.getElem?_eq_some_iff.1 hy).1
  refine ⟨cur, h1, h2, by omega, fun m u hu => ?_⟩
  have hm : m < 7 := by have := (List.getElem?_eq_some_iff.1 hu).1; rwa [mxL_len] at this
  have e := flatG_get mxL_len ms i m y hy hm
  rw [hu, ← h6, List.getElem?_take_of_lt (by omega), Array.getElem?_toList] at e
  exact e
set_option maxHeartbeats 8000000 in
theorem add_old (B ib gm : Nat) (ms : List Mx) (dd uu gg mm zz : Int) (nn dt : ByteArray) (u : Bool) (i : Nat) (y : Mx) (w : World) (h : InsAt B ib gm w ms) (hl : ms.length ≤ 33554432) (hno : nthO (nms ms) nn 0 = some i) (hy : ms[i]? = some y) :
    Calls Try.prog 32 #[.pointer (some ⟨ib, 0, none⟩), .agg #[.int .i64 dd, .int .i64 uu, .int .i64 gg, .int .i64 mm, .string nn, .int .i64 zz, .string dt], .bool u] w fun e w' => e = .returned (.int .u8 (addW ms ⟨dd, uu, gg, mm, nn, zz, dt⟩ u)) ∧ InsAt B ib gm w' (addL ms ⟨dd, uu, gg, mm, nn, zz, dt⟩ u) ∧ Kx B ib gm w w' ∧ (∀ mv', w.heap[ib]? = some (.cells #[mv', .map (some gm)] 68 (0, 0)) → Ky mv'.ownBlock ib gm w w') := by
  obtain ⟨mv, hi0, ho, hM, hB⟩ := h
  have hne : mapN ms nn = some (i : Int) := by unfold mapN; rw [hno]; rfl
  obtain ⟨n, hnn⟩ : ∃ n, ms.length = n := ⟨_, rfl⟩
  have hnb : n ≤ 33554432 := by rw [← hnn]; exact hl
  have hom := ownM_form hnn ho
  have hin : i < n := by rw [← hnn]; exact (List.getElem?_eq_some_iff.1 hy).1
  obtain ⟨ao, cap, q4, hnc, hcm, hnone, hsome⟩ := ownG_form 7 hom
  obtain ⟨g, rfl⟩ : ∃ g, ao = some ⟨g, 0, none⟩ := by
    cases ao with
    | none => have := (hnone rfl).1; omega
    | some a => obtain ⟨g, e, _⟩ := hsome a rfl; exact ⟨g, by rw [e]⟩
  subst q4
  have hlt : ib < w.heap.size := (Array.getElem?_eq_some_iff.1 hi0).1
  have hgl := hM.lt
  obtain ⟨W1, hW1⟩ : ∃ W1, W1 = w.alloc (.cells #[.int .i64 dd, .int .i64 uu, .int .i64 gg, .int .i64 mm, .string nn, .int .i64 zz, .string dt] 32) := ⟨_, rfl⟩
  have hb1 : Below w.heap.size w W1 := by rw [hW1]; exact bupK (Below.refl _ _) _
  have hi1 : W1.heap[ib]? = some (.cells #[.slice (some ⟨g, 0, none⟩) n cap, .map (some gm)] 68 (0, 0)) := by rw [hW1]; exact hupK hi0 _
  have hX1 : W1.heap[w.heap.size]? = some (.cells #[.int .i64 dd, .int .i64 uu, .int .i64 gg, .int .i64 mm, .string nn, .int .i64 zz, .string dt] 32 (0, 0)) := by rw [hW1]; exact heap_alloc_new w _
  have hMa : MapF W1 gm (mapN ms) := hM.on hb1
  have hM1 : MapF W1.drew gm (mapN ms) := hMa.keep rfl
  have hlk := hM1.look (P := Try.prog) (t := 57) Try.underlying57 Try.underlying9 hne
  have ho1 : W1.ownsRow B 32 7 (.slice (some ⟨g, 0, none⟩) n cap) n (ms.flatMap mxL) := ownG_on hom hb1
  obtain ⟨cur, hcur, hBg, hcs, hcc⟩ := met_cells ho1 hy
  have c0 := cell_rowK hi1 0 _ rfl
  have c1 := cell_rowK hi1 1 _ rfl
  have x0 := cell_rowK hX1 0 _ rfl
  have x1 := cell_rowK hX1 1 _ rfl
  have x2 := cell_rowK hX1 2 _ rfl
  have x3 := cell_rowK hX1 3 _ rfl
  have x4 := cell_rowK hX1 4 _ rfl
  have x5 := cell_rowK hX1 5 _ rfl
  have x6 := cell_rowK hX1 6 _ rfl
  have y0 := cell_rowK hcur (i * 7) _ (hcc 0 _ rfl)
  have y1 := cell_rowK hcur (i * 7 + 1) _ (hcc 1 _ rfl)
  have y2 := cell_rowK hcur (i * 7 + 2) _ (hcc 2 _ rfl)
  have y3 := cell_rowK hcur (i * 7 + 3) _ (hcc 3 _ rfl)
  have y4 := cell_rowK hcur (i * 7 + 4) _ (hcc 4 _ rfl)
  have y5 := cell_rowK hcur (i * 7 + 5) _ (hcc 5 _ rfl)
  have y6 := cell_rowK hcur (i * 7 + 6) _ (hcc 6 _ rfl)
  have f0 := froz_row13 hcur (i * 7)
  have f1 := froz_row13 hcur (i * 7 + 1)
  have f2 := froz_row13 hcur (i * 7 + 2)
  have f3 := froz_row13 hcur (i * 7 + 3)
  have f4 := froz_row13 hcur (i * 7 + 4)
  have f5 := froz_row13 hcur (i * 7 + 5)
  have f6 := froz_row13 hcur (i * 7 + 6)
  have i0 : (0 : Int) ≤ (i : Int) := by omega
  have iI : (i : Int) < (n : Int) := by omega
  have HI1 := hidK hi1; have HO1 := hidK ho1; have HMA := hidK hMa; have HB1 := hidK hb1; have HCUR := hidK hcur; have HCS := hidK hcs; have HBG := hidK hBg
  have HS1 : Hid (B ≤ W1.heap.size) := Nat.le_trans hB hb1.size
  have HNN := hidK hnn; have HNO := hidK hno; have HW1 := hidK hW1; have HY := hidK hy
  have HI0 := hidK hi0
  have HME : Hid (∀ mv', w.heap[ib]? = some (.cells #[mv', .map (some gm)] 68 (0, 0)) → mv'.ownBlock = some g) := by
    intro mv' hm'
    rw [hi0] at hm'; injection hm' with hm'; injection hm' with hm' _ _
    rw [← show Value.slice (some ⟨g, 0, none⟩) n cap = mv' by simpa using hm']; rfl
  obtain ⟨yd, hyd⟩ : ∃ yd, yd = y.d := ⟨_, rfl⟩
  rw [← hyd] at y0
  have HYD := hidK hyd
  clear hi0 ho hM hM1 hMa hi1 hX1 hom hb1 ho1 hne hnn hno hnone hsome hW1 hcur hcc hcs hBg hy hyd hB
  by_cases hc : u = true ∧ dd ≤ yd
  · obtain ⟨hu, hd⟩ := hc
    subst hu
    have HE := hidK (addL_old (x := ⟨dd, uu, gg, mm, nn, zz, dt⟩) (u := true) HNO.out HY.out ⟨rfl, by rw [← HYD.out]; exact hd⟩)
    rw [HE.out.1, HE.out.2]
    go_enter Try.func32, Try.ntmps32
    go_upto_region 1 with fail
    rw [← HW1.out]
    go_wp2
    go_region
    go_wp2
    go_region
    go_wp2
    go_ret
    exact ⟨rfl, ⟨_, HI1.out, by unfold OwnM; rw [HNN.out]; exact HO1.out, HMA.out, HS1.out⟩, Kx.of HB1.out.drew.drew, fun _ _ => Ky.of HB1.out.drew.drew⟩
  · have HE := hidK (addL_new (x := ⟨dd, uu, gg, mm, nn, zz, dt⟩) (u := u) HNO.out HY.out (by rw [← HYD.out]; exact hc))
    rw [HE.out.1, HE.out.2]
    have hfin : ∀ W' : World, W'.heap[g]? = some (.cells (putG cur (i * 7) #[.int .i64 dd, .int .i64 uu, .int .i64 gg, .int .i64 mm, .string nn, .int .i64 zz, .string dt]) 32 (0, 0)) → W1.drew.drew.drew.grownBy W' (some g) → InsAt B ib gm W' (ms.set i ⟨dd, uu, gg, mm, nn, zz, dt⟩) ∧ Kx B ib gm w W' ∧ (∀ mv', w.heap[ib]? = some (.cells #[mv', .map (some gm)] 68 (0, 0)) → Ky mv'.ownBlock ib gm w W') := by
      intro W' hrow hgr
      have hoW : W1.drew.drew.drew.ownsRow B 32 7 (.slice (some ⟨g, 0, none⟩) n cap) n (ms.flatMap mxL) := HO1.out
      have hcur : W1.drew.drew.drew.heap[g]? = some (.cells cur 32 (0, 0)) := HCUR.out
      obtain ⟨cur', r1, r2, r3, r4, r5, r6, r7⟩ := ownG_cur mxL 7 (by decide) mxL_len hoW
      have ec : cur' = cur := by rw [hcur] at r1; injection r1 with r1; injection r1 with r1 _ _; exact r1.symm
      subst ec
      have hput := ownG_put mxL 7 (W := W') (e := 32) mxL_len ⟨dd, uu, gg, mm, nn, zz, dt⟩ hin r2 r3 r4 r5 r6 r7 hrow
      have hiW : W1.drew.drew.drew.heap[ib]? = some (.cells #[.slice (some ⟨g, 0, none⟩) n cap, .map (some gm)] 68 (0, 0)) := HI1.out
      have hgi : ib ≠ g := fun e => by subst e; rw [hiW] at hcur; injection hcur with hcur; injection hcur with _ hcur _; exact absurd hcur (by decide)
      have hMW : MapF W1.drew.drew.drew gm (mapN ms) := HMA.out.keep rfl
      have hgm : gm ≠ g := hMW.ne_cells hcur
      refine ⟨⟨_, (hgr.block ib (Array.getElem?_eq_some_iff.1 hiW).1 (fun e => hgi (by injection e))).trans hiW, ?_, ?_, ?_⟩, (Kx.of HB1.out.drew.drew.drew).trans (Kx.row hoW hgr), fun mv' hm' => by rw [HME.out mv' hm']; exact (Ky.of HB1.out.drew.drew.drew).trans (Ky.row hgr)⟩
      · have e : (ms.set i ⟨dd, uu, gg, mm, nn, zz, dt⟩).length = n := by rw [List.length_set]; exact HNN.out
        unfold OwnM; rw [e]; exact hput
      · rw [mapN_set (x := ⟨dd, uu, gg, mm, nn, zz, dt⟩) HNO.out]; exact hMW.keep (hgr.block gm hMW.lt (fun e => hgm (by injection e)))
      · exact Nat.le_trans HS1.out hgr.size
    have HFIN := hidK hfin
    clear hfin HI1 HO1 HMA HBG HS1 HE f0 f1 f2 f3 f4 f5 f6 y1 y2 y3 y4 y5 y6
    go_enter Try.func32, Try.ntmps32
    go_upto_region 1 with fail
    rw [← HW1.out]
    go_wp2
    go_region
    cases u with
    | false =>
      go_wp2
      go_region
      go_wp2
      refine wp_region_any (by kernel_rfl) ?_
      change wpAny _ _ _ _ _ _ _ (World.drew _)
      refine wpAny_take (i := 0) (v := .pointer (some ⟨ib, 0, none⟩)) rfl (by kernel_rfl) (by kernel_rfl) (by kernel_rfl) (fun _ _ _ h => h) (Or.inl ⟨by rfl, by intro w; go_simp⟩) ?_
      refine wpAny_take (i := 1) (v := .pointer (some ⟨ib, 0, none⟩)) rfl (by kernel_rfl) (by kernel_rfl) (by kernel_rfl) (fun _ _ _ h => h) (Or.inl ⟨by rfl, by intro w; go_simp⟩) ?_
      refine wpAny_take (i := 2) (v := .pointer (some ⟨ib, 0, none⟩)) rfl (by kernel_rfl) (by kernel_rfl) (by kernel_rfl) (fun _ _ _ h => h) (Or.inl ⟨by rfl, by intro w; go_simp⟩) ?_
      refine wpAny_take (i := 4) (v := .int .i64 i) rfl (by kernel_rfl) (by kernel_rfl) (by kernel_rfl) (fun _ _ _ h => h) (Or.inl ⟨by rfl, by intro w; go_simp⟩) ?_
      refine wpAny_ready (rs := [3, 5]) (by kernel_rfl) (by simp) ?_
      refine AllReady.cons rfl (fun K hK => ?_) (AllReady.cons rfl (fun K hK => ?_) AllReady.nil)
      · go_simp
        refine hK _ _ ?_
        clear hK K
        refine wpAny_ready (rs := [5]) (by kernel_rfl) (by simp) ?_
        refine AllReady.cons rfl (fun K hK => ?_) AllReady.nil
        go_simp
        refine hK _ _ ?_
        clear hK K
        refine wpAny_take (i := 6) (v := .pointer (some ⟨g, i * 7, none⟩)) rfl (by kernel_rfl) (by kernel_rfl) (by kernel_rfl) (fun _ _ _ h => h) (Or.inl ⟨by rfl, by intro w; go_simp⟩) ?_
        refine wpAny_ready (rs := [7]) (by kernel_rfl) (by simp) ?_
        refine AllReady.cons rfl (fun K hK => ?_) AllReady.nil
        refine step_store_row_G rfl rfl 32 (.tmp 64) (.tmp 63) rfl g (i * 7) (.agg #[.int .i64 dd, .int .i64 uu, .int .i64 gg, .int .i64 mm, .string nn, .int .i64 zz, .string dt]) rfl rfl 32 cur (putG cur (i * 7) #[.int .i64 dd, .int .i64 uu, .int .i64 gg, .int .i64 mm, .string nn, .int .i64 zz, .string dt]) HCUR.out (by kernel_rfl) (Nat.ble_eq_true_of_le HCS.out) rfl rfl ?_
        intro W6 hW6 hG6
        refine hK _ _ ?_
        clear hK K
        refine wpAny_done (by kernel_rfl) ?_ _
        have hfin := HFIN.out W6 hW6 hG6
        clear hW6 hG6
        go_wp2
        go_ret
        exact ⟨rfl, hfin⟩
      · go_simp
        refine hK _ _ ?_
        clear hK K
        refine wpAny_ready (rs := [3]) (by kernel_rfl) (by simp) ?_
        refine AllReady.cons rfl (fun K hK => ?_) AllReady.nil
        go_simp
        refine hK _ _ ?_
        clear hK K
        refine wpAny_take (i := 6) (v := .pointer (some ⟨g, i * 7, none⟩)) rfl (by kernel_rfl) (by kernel_rfl) (by kernel_rfl) (fun _ _ _ h => h) (Or.inl ⟨by rfl, by intro w; go_simp⟩) ?_
        refine wpAny_ready (rs := [7]) (by kernel_rfl) (by simp) ?_
        refine AllReady.cons rfl (fun K hK => ?_) AllReady.nil
        refine step_store_row_G rfl rfl 32 (.tmp 64) (.tmp 63) rfl g (i * 7) (.agg #[.int .i64 dd, .int .i64 uu, .int .i64 gg, .int .i64 mm, .string nn, .int .i64 zz, .string dt]) rfl rfl 32 cur (putG cur (i * 7) #[.int .i64 dd, .int .i64 uu, .int .i64 gg, .int .i64 mm, .string nn, .int .i64 zz, .string dt]) HCUR.out (by kernel_rfl) (Nat.ble_eq_true_of_le HCS.out) rfl rfl ?_
        intro W6 hW6 hG6
        refine hK _ _ ?_
        clear hK K
        refine wpAny_done (by kernel_rfl) ?_ _
        have hfin := HFIN.out W6 hW6 hG6
        clear hW6 hG6
        go_wp2
        go_ret
        exact ⟨rfl, hfin⟩
    | true =>
      have hd : ¬ (dd ≤ yd) := fun e => hc ⟨rfl, e⟩
      go_wp2
      go_region
      go_wp2
      refine wp_region_any (by kernel_rfl) ?_
      change wpAny _ _ _ _ _ _ _ (World.drew _)
      refine wpAny_take (i := 0) (v := .pointer (some ⟨ib, 0, none⟩)) rfl (by kernel_rfl) (by kernel_rfl) (by kernel_rfl) (fun _ _ _ h => h) (Or.inl ⟨by rfl, by intro w; go_simp⟩) ?_
      refine wpAny_take (i := 1) (v := .pointer (some ⟨ib, 0, none⟩)) rfl (by kernel_rfl) (by kernel_rfl) (by kernel_rfl) (fun _ _ _ h => h) (Or.inl ⟨by rfl, by intro w; go_simp⟩) ?_
      refine wpAny_take (i := 2) (v := .pointer (some ⟨ib, 0, none⟩)) rfl (by kernel_rfl) (by kernel_rfl) (by kernel_rfl) (fun _ _ _ h => h) (Or.inl ⟨by rfl, by intro w; go_simp⟩) ?_
      refine wpAny_take (i := 4) (v := .int .i64 i) rfl (by kernel_rfl) (by kernel_rfl) (by kernel_rfl) (fun _ _ _ h => h) (Or.inl ⟨by rfl, by intro w; go_simp⟩) ?_
      refine wpAny_ready (rs := [3, 5]) (by kernel_rfl) (by simp) ?_
      refine AllReady.cons rfl (fun K hK => ?_) (AllReady.cons rfl (fun K hK => ?_) AllReady.nil)
      · go_simp
        refine hK _ _ ?_
        clear hK K
        refine wpAny_ready (rs := [5]) (by kernel_rfl) (by simp) ?_
        refine AllReady.cons rfl (fun K hK => ?_) AllReady.nil
        go_simp
        refine hK _ _ ?_
        clear hK K
        refine wpAny_take (i := 6) (v := .pointer (some ⟨g, i * 7, none⟩)) rfl (by kernel_rfl) (by kernel_rfl) (by kernel_rfl) (fun _ _ _ h => h) (Or.inl ⟨by rfl, by intro w; go_simp⟩) ?_
        refine wpAny_ready (rs := [7]) (by kernel_rfl) (by simp) ?_
        refine AllReady.cons rfl (fun K hK => ?_) AllReady.nil
        refine step_store_row_G rfl rfl 32 (.tmp 64) (.tmp 63) rfl g (i * 7) (.agg #[.int .i64 dd, .int .i64 uu, .int .i64 gg, .int .i64 mm, .string nn, .int .i64 zz, .string dt]) rfl rfl 32 cur (putG cur (i * 7) #[.int .i64 dd, .int .i64 uu, .int .i64 gg, .int .i64 mm, .string nn, .int .i64 zz, .string dt]) HCUR.out (by kernel_rfl) (Nat.ble_eq_true_of_le HCS.out) rfl rfl ?_
        intro W6 hW6 hG6
        refine hK _ _ ?_
        clear hK K
        refine wpAny_done (by kernel_rfl) ?_ _
        have hfin := HFIN.out W6 hW6 hG6
        clear hW6 hG6
        go_wp2
        go_ret
        exact ⟨rfl, hfin⟩
      · go_simp
        refine hK _ _ ?_
        clear hK K
        refine wpAny_ready (rs := [3]) (by kernel_rfl) (by simp) ?_
        refine AllReady.cons rfl (fun K hK => ?_) AllReady.nil
        go_simp
        refine hK _ _ ?_
        clear hK K
        refine wpAny_take (i := 6) (v := .pointer (some ⟨g, i * 7, none⟩)) rfl (by kernel_rfl) (by kernel_rfl) (by kernel_rfl) (fun _ _ _ h => h) (Or.inl ⟨by rfl, by intro w; go_simp⟩) ?_
        refine wpAny_ready (rs := [7]) (by kernel_rfl) (by simp) ?_
        refine AllReady.cons rfl (fun K hK => ?_) AllReady.nil
        refine step_store_row_G rfl rfl 32 (.tmp 64) (.tmp 63) rfl g (i * 7) (.agg #[.int .i64 dd, .int .i64 uu, .int .i64 gg, .int .i64 mm, .string nn, .int .i64 zz, .string dt]) rfl rfl 32 cur (putG cur (i * 7) #[.int .i64 dd, .int .i64 uu, .int .i64 gg, .int .i64 mm, .string nn, .int .i64 zz, .string dt]) HCUR.out (by kernel_rfl) (Nat.ble_eq_true_of_le HCS.out) rfl rfl ?_
        intro W6 hW6 hG6
        refine hK _ _ ?_
        clear hK K
        refine wpAny_done (by kernel_rfl) ?_ _
        have hfin := HFIN.out W6 hW6 hG6
        clear hW6 hG6
        go_wp2
        go_ret
        exact ⟨rfl, hfin⟩
/-- add -/
theorem add_c (B ib gm : Nat) (ms : List Mx) (x : Mx) (u : Bool) (w : World) (h : InsAt B ib gm w ms) (hl : ms.length ≤ 33554432) :
    Calls Try.prog 32 #[.pointer (some ⟨ib, 0, none⟩), .agg #[.int .i64 x.d, .int .i64 x.u, .int .i64 x.g, .int .i64 x.m, .string x.n, .int .i64 x.s, .string x.dt], .bool u] w fun e w' => e = .returned (.int .u8 (addW ms x u)) ∧ InsAt B ib gm w' (addL ms x u) ∧ Kx B ib gm w w' ∧ (∀ mv', w.heap[ib]? = some (.cells #[mv', .map (some gm)] 68 (0, 0)) → Ky mv'.ownBlock ib gm w w') := by
  cases hno : nthO (nms ms) x.n 0 with
  | none =>
    obtain ⟨e1, e2⟩ := addL_none (u := u) hno
    rw [e1, e2]
    exact add_new B ib gm ms x.d x.u x.g x.m x.s x.n x.dt u w h hl hno
  | some i =>
    have hi := (nthO_lt hno).1
    rw [List.length_map] at hi
    exact add_old B ib gm ms x.d x.u x.g x.m x.s x.n x.dt u i _ w h hl hno (List.getElem?_eq_getElem hi)
end Go.Proofs.Ytaaagdmhokgcjaa
