
-- The document's Insert.
import Derived.Test.YtaaagdmhokgcjaaI4
import Derived.Test.YtaaagdmhokgcjaaI5
namespace Go.Proofs.Ytaaagdmhokgcjaa
open Go.ChangeShapes Go.WideShapes Go.ChangeAt Go.RowKit
set_option linter.unusedVariables false
set_option maxRecDepth 100000
set_option linter.unusedSimpArgs false
theorem own_pushE {B n : Nat} {w : World} {v : Value} {L : List Ev} {x : Ev} (hn : n = L.length) (h : w.ownsRow B 46 2 v (n + 1) (L.flatMap evL ++ evL x)) : OwnE B w v (L ++ [x]) := by
  unfold OwnE
  rw [List.length_append, List.flatMap_append, List.flatMap_cons, List.flatMap_nil, List.append_nil, ← hn]
  exact h
theorem ownE_form {B n : Nat} {w : World} {v : Value} {L : List Ev} (hn : L.length = n) (h : OwnE B w v L) : w.ownsRow B 46 2 v n (L.flatMap evL) := by subst hn; exact h
/-- a member of a row is written over -/
theorem row_put {B g n cap i : Nat} {w W : World} {ms : List Mx} {cur : Array Value} (x : Mx) (ho : w.ownsRow B 32 7 (.slice (some ⟨g, 0, none⟩) n cap) n (ms.flatMap mxL)) (hi : i < n) (hc : w.heap[g]? = some (.cells cur 32 (0, 0))) (hW : W.heap[g]? = some (.cells (putG cur (i * 7) (mxL x).toArray) 32 (0, 0))) : W.ownsRow B 32 7 (.slice (some ⟨g, 0, none⟩) n cap) n ((ms.set i x).flatMap mxL) := by
  obtain ⟨cur', r1, r2, r3, r4, r5, r6, r7⟩ := ownG_cur mxL 7 (by decide) mxL_len ho
  have ec : cur' = cur := by rw [hc] at r1; injection r1 with r1; injection r1 with r1 _ _; exact r1.symm
  subst ec
  exact ownG_put mxL 7 mxL_len x hi r2 r3 r4 r5 r6 r7 hW
set_option maxHeartbeats 16000000 in
theorem rinsert_some (v v2 : Value) (L M : List Mx) (pw : Int) (pa : ByteArray) (u : Bool) (p : Nat) (w : World) (h : RowM w v L) (h2 : RowM w v2 M) (hl : L.length ≤ 8388608) (hm : M.length ≤ 8388608) (hsp : spotO L pw pa = some p) :
    Calls Try.prog 25 #[v, v2, .agg #[.int .i64 pw, .string pa], .bool u] w fun e w' => ∃ x y, e = .returned (.tuple #[x, y, .int .i64 0]) ∧ OwnM w.heap.size w' x (((insL L M u M.length).take L.length).take p ++ ((insL L M u M.length).drop L.length ++ ((insL L M u M.length).take L.length).drop p)) ∧ OwnE w.heap.size w' y (insE L M u M.length) ∧ Below w.heap.size w w' := by
  obtain ⟨a1, c1, q1, _, _⟩ := h.form
  obtain ⟨a2, c2, q2, _, _⟩ := h2.form
  obtain ⟨i0, hi, hz0, hz1, hz2⟩ := info_parts infoMx
  obtain ⟨ie, hei, he0, he1, he2⟩ := info_parts infoEv
  have HB0 := hidK (bupK (Below.refl w.heap.size w) (.cells #[.int .i64 pw, .string pa] 39))
  have hcw : (w.alloc (.cells #[.int .i64 pw, .string pa] 39)).cell? ⟨w.heap.size, 0, none⟩ = some (.int .i64 pw) := cell_rowK (heap_alloc_new w _) 0 _ rfl
  have hca : (w.alloc (.cells #[.int .i64 pw, .string pa] 39)).cell? ⟨w.heap.size, 1, none⟩ = some (.string pa) := cell_rowK (heap_alloc_new w _) 1 _ rfl
  have HP := hidK (spot_c v L pw pa (w.alloc (.cells #[.int .i64 pw, .string pa] 39)) (h.on HB0.out) (by omega))
  rw [hsp] at HP
  simp only [spN] at HP
  have HPL := hidK (spotO_le hsp)
  have HV := hidK h
  have HV2 := hidK h2
  obtain ⟨n, hnn⟩ : ∃ n, n = L.length := ⟨_, rfl⟩
  obtain ⟨m, hmm⟩ : ∃ m, m = M.length := ⟨_, rfl⟩
  have HN := hidK hnn
  have HM := hidK hmm
  have HLEN : Hid (∀ k, (insL L M u k).length ≤ n + k) := by intro k; rw [hnn]; exact (insL_len L M u k).2
  have HEL : Hid (∀ k, k ≤ m → (insE L M u k).length = k) := by intro k hk; exact insE_len L M u k (by omega)
  have p0 : ¬ ((p : Int) < 0) := by omega
  subst q1
  subst q2
  rw [← hnn] at hl HPL HV HP ⊢
  rw [← hmm] at hm HV2 ⊢
  clear h h2 hsp hnn hmm
  go_enter Try.func25, Try.ntmps25
  go_upto_region 2 with (go_at_call 35; refine HP.out.mono ?_; rintro e w1 ⟨rfl, hb1⟩)
  have HB1 := hidK (bel3K HB0.out hb1)
  clear hcw hca HB0 hb1 HP
  go_wp2
  go_loopw [12, 13] (fun o i wx => ∃ k : Nat, i = .int .i64 k ∧ k ≤ n ∧ OwnM w.heap.size wx o (L.take k) ∧ Below w.heap.size w wx) (fun _ i _ => n - (intOf i).toNat)
  case atStart => exact ⟨0, rfl, Nat.zero_le _, ⟨rfl, .inl ⟨rfl, rfl⟩⟩, HB1.out⟩
  case round =>
    clear HB1
    obtain ⟨k, rfl, hkn, ho, hB⟩ := hrel
    have HO := hidK ho
    clear ho
    by_cases hk : k < n
    · have kI : (k : Int) < (n : Int) := by omega
      have k0 : (0 : Int) ≤ (k : Int) := by omega
      have hkl : k < L.length := by have := HN.out; omega
      obtain ⟨⟨dd, uu, gg, mm, nn, zz, dt⟩, hx⟩ : ∃ x, L[k]? = some x := ⟨_, List.getElem?_eq_getElem hkl⟩
      obtain ⟨b1, o1, p1, e1, d0, d1, d2, d3, d4, d5, d6⟩ := (HV.out.on hB).mx hx
      have HX := hidK hx
      injection e1 with e1 e1b e1c
      subst e1
      clear hx hkl e1b e1c HV HV2
      have ho : wr.ownsRow w.heap.size 32 7 u12 k ((L.take k).flatMap mxL) := by have := HO.out; unfold OwnM at this; rw [lenTake (by have := HN.out; omega)] at this; exact this
      clear HO
      go_wp2_with (refine wpList_append_own _ rfl (.tmp 33) (.tmp 38) 22 rfl (w.heap.size) 32 i0 (.agg #[.int .i64 0, .int .i64 0, .int .i64 0, .int .i64 0, .string ⟨#[]⟩, .int .i64 0, .string ⟨#[]⟩]) 7 72 Try.underlying22 hi hz0 hz1 hz2 rfl (by decide) u12 k ((L.take k).flatMap mxL) rfl (own_upK ho _) ⟨wr.heap.size, 0, none⟩ 1 1 (mxL ⟨dd, uu, gg, mm, nn, zz, dt⟩) rfl rfl (new_rowK wr (mxL ⟨dd, uu, gg, mm, nn, zz, dt⟩).toArray 32 (mxL ⟨dd, uu, gg, mm, nn, zz, dt⟩) rfl) (mxL_one ⟨dd, uu, gg, mm, nn, zz, dt⟩) (by unfold maxLen; omega) (by omega) (by rw [World.size_alloc]; have := (hB).size; omega) ?_; intro v2 w2 o2 g2 _; have HB2 := hidK (below_grow (bupK hB (.cells (mxL ⟨dd, uu, gg, mm, nn, zz, dt⟩).toArray 32)) g2 (own_upK ho _) (Nat.le_refl _)); have HO2 := hidK o2; clear o2 g2 ho)
      go_roundw
      case rel =>
        refine ⟨k + 1, by go_num, by omega, ?_, HB2.out⟩
        rw [takeSucc HX.out]
        exact own_push (lenTake (by have := HN.out; omega)).symm HO2.out
      case measure => simp [intOf]; omega
    · obtain rfl : k = n := by omega
      have hO := HO.out
      rw [List.take_of_length_le (by have := HN.out; omega)] at hO
      have hom := ownM_form HN.out.symm hO
      obtain ⟨ao, cap, q4, hnc, hcm, hnone, hsome⟩ := ownG_form 7 hom
      obtain ⟨B2, hB2⟩ : ∃ B2, B2 = wr.heap.size := ⟨_, rfl⟩
      have HLT : Hid (∀ g, u12.ownBlock = some g → g < B2) := by intro g hg; rw [hB2]; exact own_ltK hom g hg
      have hWB : w.heap.size ≤ B2 := by rw [hB2]; exact hB.size
      have HS0 : Hid (B2 ≤ wr.heap.size) := by rw [hB2]; exact Nat.le_refl _
      have HO0 := hidK hO
      have HB0 := hidK hB
      subst q4
      have HNONE := hidK hnone
      have HSOME : Hid (∀ a, ao = some a → ∃ g, a = ⟨g, 0, none⟩) := fun a ha => by obtain ⟨g, e, _⟩ := hsome a ha; exact ⟨g, e⟩
      clear HO hO hom hnone hsome hB hB2 HV
      go_wp2
      go_loopw [14, 15, 16] (fun d e i wx => ∃ (k' : Nat) (A D : List Mx), i = .int .i64 k' ∧ k' ≤ m ∧ A.length = k ∧ insL L M u k' = A ++ D ∧ OwnM w.heap.size wx (.slice ao k cap) A ∧ OwnM B2 wx d D ∧ OwnE B2 wx e (insE L M u k') ∧ B2 ≤ wx.heap.size ∧ Below w.heap.size w wx) (fun _ _ i _ => m - (intOf i).toNat)
      case atStart => exact ⟨0, L, [], rfl, Nat.zero_le _, HN.out.symm, by rw [List.append_nil]; rfl, HO0.out, ⟨rfl, .inl ⟨rfl, rfl⟩⟩, ⟨rfl, .inl ⟨rfl, rfl⟩⟩, HS0.out, HB0.out⟩
      case round =>
        clear HO0 HS0 HB0 hk hkn
        obtain ⟨n, hn⟩ : ∃ n, n = k := ⟨_, rfl⟩
        subst hn
        rename_i wq _
        obtain ⟨k, A, D, rfl, hkn, hAn, hAD, hoA, hoD, hoE, hS, hB⟩ := hrel
        have HAN := hidK hAn
        have HAD := hidK hAD
        have HA := hidK hoA
        have HD := hidK hoD
        have HE := hidK hoE
        clear hAn hAD hoA hoD hoE
        by_cases hk : k < m
        · have kI : (k : Int) < (m : Int) := by omega
          have k0 : (0 : Int) ≤ (k : Int) := by omega
          have hkl : k < M.length := by have := HM.out; omega
          obtain ⟨⟨dd, uu, gg, mm, nn, zz, dt⟩, hx⟩ : ∃ x, M[k]? = some x := ⟨_, List.getElem?_eq_getElem hkl⟩
          obtain ⟨b1, o1, p1, e1, d0, d1, d2, d3, d4, d5, d6⟩ := (HV2.out.on hB).mx hx
          have HX := hidK hx
          injection e1 with e1 e1b e1c
          subst e1
          have hDl : D.length ≤ 8388608 := by have := HLEN.out k; rw [HAD.out, List.length_append, HAN.out] at this; omega
          have HBa := hidK (bupK2 hB (.cells #[.int .i64 dd, .int .i64 uu, .int .i64 gg, .int .i64 mm, .string nn, .int .i64 zz, .string dt] 32))
          have HN1 := hidK (nth_c _ A nn 0 (wr.alloc (.cells #[.int .i64 dd, .int .i64 uu, .int .i64 gg, .int .i64 mm, .string nn, .int .i64 zz, .string dt] 32)) (HA.out.row.on (bupK (Below.refl _ _) (.cells #[.int .i64 dd, .int .i64 uu, .int .i64 gg, .int .i64 mm, .string nn, .int .i64 zz, .string dt] 32))) (by omega) (by rw [HAN.out]; omega))
          obtain ⟨ra, hra⟩ : ∃ ra, ra = nthI (nms A) nn 0 := ⟨_, rfl⟩
          have HRA := hidK hra
          rw [← hra] at HN1
          clear hx hkl e1b e1c hra
          go_upto_region 16 with (go_at_call 34; refine HN1.out.mono ?_; rintro e w2 ⟨rfl, hb2⟩)
          have hbr2 : Below wr.heap.size wr w2 := bel3K (bupK (Below.refl _ _) (.cells #[.int .i64 dd, .int .i64 uu, .int .i64 gg, .int .i64 mm, .string nn, .int .i64 zz, .string dt] 32)) hb2
          have HX2 := hidK (hkeepK hb2 (heap_alloc_new wr (.cells #[.int .i64 dd, .int .i64 uu, .int .i64 gg, .int .i64 mm, .string nn, .int .i64 zz, .string dt] 32)))
          have x24 := cell_rowK HX2.out 4 _ rfl
          have HN2 := hidK (nth_c _ D nn 0 w2 (HD.out.row.on hbr2) (by omega) (by omega))
          obtain ⟨rb, hrb⟩ : ∃ rb, rb = nthI (nms D) nn 0 := ⟨_, rfl⟩
          have HRB := hidK hrb
          rw [← hrb] at HN2
          clear hrb HN1 hb2
          go_upto_region 17 with (go_at_call 34; refine HN2.out.mono ?_; rintro e w3 ⟨rfl, hb3⟩)
          have hbr3 : Below wr.heap.size wr w3 := bel3K hbr2 hb3
          have HX3 := hidK (hkeepK hb3 HX2.out)
          have hB3 := bel3K hB hbr3
          have hS3 : B2 ≤ w3.heap.size := Nat.le_trans hS hbr3.size
          have hA3 := ownM_form HAN.out (HA.out.on hbr3)
          obtain ⟨ld, hld⟩ : ∃ ld, D.length = ld := ⟨_, rfl⟩
          have hd3 := ownM_form hld (HD.out.on hbr3)
          have HLDT : Hid (∀ g, u14.ownBlock = some g → g < wr.heap.size) := fun g hg => own_ltK HD.out g hg
          obtain ⟨le, hle⟩ : ∃ le, (insE L M u k).length = le := ⟨_, rfl⟩
          have hle2 : le ≤ 8388608 := by rw [← hle, HEL.out k (by omega)]; omega
          have he3 := ownE_form hle (HE.out.on hbr3)
          have HLE := hidK hle
          have HLD := hidK hld
          have hldb : ld ≤ 8388608 := by rw [← hld]; exact hDl
          have hwrB : B2 ≤ wr.heap.size := hS
          have hxlt : wr.heap.size < w3.heap.size := (Array.getElem?_eq_some_iff.1 HX3.out).1
          have x0 := cell_rowK HX3.out 0 _ rfl
          have x1 := cell_rowK HX3.out 1 _ rfl
          have x2 := cell_rowK HX3.out 2 _ rfl
          have x3 := cell_rowK HX3.out 3 _ rfl
          have x4 := cell_rowK HX3.out 4 _ rfl
          have x5 := cell_rowK HX3.out 5 _ rfl
          have x6 := cell_rowK HX3.out 6 _ rfl
          clear HN2 hb3 hbr2 HX2 x24 HA HD HE hle hld d0 d1 d2 d3 d4 d5 d6 hB HBa hbr3 HV2
          cases hna : nthO (nms A) nn 0 with
          | none =>
            have era : ra = -1 := by rw [HRA.out]; exact nthI_none hna
            subst era
            cases hnb : nthO (nms D) nn 0 with
            | none =>
              have erb : rb = -1 := by rw [HRB.out]; exact nthI_none hnb
              subst erb
              have HST : Hid (addL (insL L M u k) ⟨dd, uu, gg, mm, nn, zz, dt⟩ u = A ++ (D ++ [⟨dd, uu, gg, mm, nn, zz, dt⟩]) ∧ addW (insL L M u k) ⟨dd, uu, gg, mm, nn, zz, dt⟩ u = 97) := by rw [HAD.out]; exact addS_new hna hnb
              clear HRA HRB hna hnb
              go_upto_region 27 with (refine wpList_append_own _ rfl (.tmp 69) (.tmp 71) 22 rfl (B2) 32 i0 (.agg #[.int .i64 0, .int .i64 0, .int .i64 0, .int .i64 0, .string ⟨#[]⟩, .int .i64 0, .string ⟨#[]⟩]) 7 72 Try.underlying22 hi hz0 hz1 hz2 rfl (by decide) u14 ld (D.flatMap mxL) rfl (own_upK hd3 _) ⟨w3.heap.size, 0, none⟩ 1 1 (mxL ⟨dd, uu, gg, mm, nn, zz, dt⟩) rfl rfl (new_rowK w3 (mxL ⟨dd, uu, gg, mm, nn, zz, dt⟩).toArray 32 (mxL ⟨dd, uu, gg, mm, nn, zz, dt⟩) rfl) (mxL_one ⟨dd, uu, gg, mm, nn, zz, dt⟩) (by unfold maxLen; omega) (by omega) (by rw [World.size_alloc]; have := (hB3).size; omega) ?_; intro v4 w4 o4 g4 _; have HB4 := hidK (below_row (bupK2 hB3 (.cells (mxL ⟨dd, uu, gg, mm, nn, zz, dt⟩).toArray 32)) g4 (own_upK hd3 (.cells (mxL ⟨dd, uu, gg, mm, nn, zz, dt⟩).toArray 32)) hWB (Nat.le_refl _)); have HO4 := hidK o4; have HK4 := hidK (fun g hg => kept_low (own_upK hd3 (.cells (mxL ⟨dd, uu, gg, mm, nn, zz, dt⟩).toArray 32)) g4 (g := g) hg hS3); have hne4 := own_ty (own_upK he3 (.cells (mxL ⟨dd, uu, gg, mm, nn, zz, dt⟩).toArray 32)) (own_upK hd3 (.cells (mxL ⟨dd, uu, gg, mm, nn, zz, dt⟩).toArray 32)) (show (32 : TypeId) ≠ 46 by decide); have HE4 := hidK (own_ne (own_upK he3 (.cells (mxL ⟨dd, uu, gg, mm, nn, zz, dt⟩).toArray 32)) hne4 g4); have HX4 := hidK ((g4.block wr.heap.size (by rw [World.size_alloc]; omega) (fun e => by have := HLDT.out _ e.symm; omega)).trans (hupK HX3.out (.cells (mxL ⟨dd, uu, gg, mm, nn, zz, dt⟩).toArray 32))); have HS4 := hidK (Nat.le_trans hS3 (size_up g4)); clear hne4 o4 g4)
              have HA4 := hidK (ownG_kept hA3 (fun g hg => HK4.out g (HLT.out g hg)))
              have HD4 := hidK (own_push HLD.out.symm HO4.out)
              have hB4 := HB4.out
              clear hA3 hd3 he3 HX3 x0 x1 x2 x3 x4 x5 x6 hB3
              have he6 := HE4.out
              have xn6 := cell_rowK (HX4.out) 4 _ rfl
              go_wp2_with (refine wpList_append_own _ rfl (.tmp 115) (.tmp 120) 40 rfl (B2) 46 ie (.agg #[.int .u8 0, .string ⟨#[]⟩]) 2 24 Try.underlying40 hei he0 he1 he2 rfl (by decide) u15 le ((insE L M u k).flatMap evL) rfl (own_upK he6 _) ⟨w4.heap.size, 0, none⟩ 1 1 (evL ⟨97, nn⟩) rfl rfl (new_rowK w4 (evL ⟨97, nn⟩).toArray 46 (evL ⟨97, nn⟩) rfl) (evL_one ⟨97, nn⟩) (by unfold maxLen; omega) (by omega) (by rw [World.size_alloc]; have := HS4.out; omega) ?_; intro v7 w7 o7 g7 _; have HB7 := hidK (below_row (bupK2 (hB4) (.cells (evL ⟨97, nn⟩).toArray 46)) g7 (own_upK he6 (.cells (evL ⟨97, nn⟩).toArray 46)) hWB (Nat.le_refl _)); have HO7 := hidK o7; have HK7 := hidK (fun g (hg : g < B2) => kept_low (own_upK he6 (.cells (evL ⟨97, nn⟩).toArray 46)) g7 (g := g) hg (HS4.out)); have hne7 := own_ty (own_upK (HD4.out) (.cells (evL ⟨97, nn⟩).toArray 46)) (own_upK he6 (.cells (evL ⟨97, nn⟩).toArray 46)) (show (46 : TypeId) ≠ 32 by decide); have HD7 := hidK (own_ne (own_upK (HD4.out) (.cells (evL ⟨97, nn⟩).toArray 46)) hne7 g7); clear hne7; have HS7 := hidK (Nat.le_trans (HS4.out) (size_up g7)); clear o7 g7 he6 xn6)
              go_roundw
              case rel =>
                refine ⟨k + 1, A, (D ++ [⟨dd, uu, gg, mm, nn, zz, dt⟩]), by go_num, by omega, ?_, ?_, ?_, ?_, ?_, HS7.out, HB7.out⟩
                · first | exact HAN.out | (rw [List.length_set]; exact HAN.out)
                · rw [insL_step HX.out]; exact HST.out.1
                · show OwnM _ _ _ _; unfold OwnM; rw [show (A).length = n by first | exact HAN.out | (rw [List.length_set]; exact HAN.out)]; exact ownG_kept (HA4.out) (fun g hg => HK7.out g (HLT.out g hg))
                · first | exact HD7.out | (show OwnM _ _ _ _; unfold OwnM; rw [show ((D ++ [⟨dd, uu, gg, mm, nn, zz, dt⟩])).length = ld by first | exact HLD.out | (rw [List.length_set]; exact HLD.out)]; exact HD7.out)
                · rw [insE_step HX.out, HST.out.2]; exact own_pushE HLE.out.symm HO7.out
              case measure => simp [intOf]; omega
            | some j =>
              have hjl : j < D.length := by have := (nthO_lt hnb).1; rwa [List.length_map] at this
              have erb : rb = (j : Int) := by rw [HRB.out]; exact nthI_some hnb
              subst erb
              obtain ⟨y, hy⟩ : ∃ y, D[j]? = some y := ⟨_, List.getElem?_eq_getElem hjl⟩
              obtain ⟨hs1, hs2, hs3⟩ := addS_added (u := u) (x := ⟨dd, uu, gg, mm, nn, zz, dt⟩) hna hnb hy
              have hjn : j < ld := by rw [← HLD.out]; exact hjl
              obtain ⟨ad, cd, q5, hdc, hdm, hdn, hds⟩ := ownG_form 7 hd3
              obtain ⟨gd, rfl⟩ : ∃ g, ad = some ⟨g, 0, none⟩ := by
                cases ad with
                | none => have := (hdn rfl).1; omega
                | some a => obtain ⟨g, e, _⟩ := hds a rfl; exact ⟨g, by rw [e]⟩
              subst q5
              obtain ⟨cur, hcur, hBg, hcs, hcc⟩ := met_cells hd3 hy
              have hgl : gd < wr.heap.size := HLDT.out gd rfl
              have HAPT : Hid (∀ g, (Value.slice ao n cap).ownBlock = some g → g ≠ gd) := fun g hg e => by have := HLT.out g hg; omega
              have y0 := cell_rowK hcur (j * 7) _ (hcc 0 _ rfl)
              obtain ⟨yd, hyd⟩ : ∃ yd, yd = y.d := ⟨_, rfl⟩
              rw [← hyd] at y0
              have j0 : (0 : Int) ≤ (j : Int) := by omega
              have j1 : ¬ ((j : Int) < 0) := by omega
              have i2 : (decide ((j : Int) < 0)) = false := by simp
              have jI : (j : Int) < (ld : Int) := by omega
              have hxl3 := hxlt
              have HC3 := hidK hcur
              have HCS := hidK hcs
              have HBG := hidK hBg
              have HS1 := hidK hs1
              have HS2 := hidK hs2
              have HS3 := hidK hs3
              have HYD := hidK hyd
              clear HRA HRB hna hnb hcur hcs hBg hcc hs1 hs2 hs3 hyd hy hxlt hdn hds
              by_cases hc : u = true ∧ dd ≤ yd
              · obtain ⟨hu, hd⟩ := hc
                subst hu
                have HST : Hid (addL (insL L M true k) ⟨dd, uu, gg, mm, nn, zz, dt⟩ true = A ++ D ∧ addW (insL L M true k) ⟨dd, uu, gg, mm, nn, zz, dt⟩ true = 117) := by rw [HAD.out]; exact addL_old (x := ⟨dd, uu, gg, mm, nn, zz, dt⟩) HS1.out HS2.out ⟨rfl, by rw [← HYD.out]; exact hd⟩
                go_wp2
                go_quiet (fail)
                have hbq := belDrewN (Below.refl w3.heap.size w3) nq
                generalize w3.drewN nq = w4 at hbq ⊢
                have hA4 := ownG_on hA3 hbq
                have hd4 := ownG_on hd3 hbq
                have he4 := ownG_on he3 hbq
                have HX4 := hidK (hkeepK hbq HX3.out)
                have HC4 := hidK (hkeepK hbq HC3.out)
                have hB4 := bel3K hB3 hbq
                have hS4 : B2 ≤ w4.heap.size := Nat.le_trans hS3 hbq.size
                have hxl4 : wr.heap.size < w4.heap.size := Nat.lt_of_lt_of_le hxl3 hbq.size
                have y0 := cell_onA y0 hbq
                have x0 := cell_rowK HX4.out 0 _ rfl
                have x1 := cell_rowK HX4.out 1 _ rfl
                have x2 := cell_rowK HX4.out 2 _ rfl
                have x3 := cell_rowK HX4.out 3 _ rfl
                have x4 := cell_rowK HX4.out 4 _ rfl
                have x5 := cell_rowK HX4.out 5 _ rfl
                have x6 := cell_rowK HX4.out 6 _ rfl
                clear hbq hA3 hd3 he3 HX3 HC3 hB3 hS3 hxl3
                go_wp2
                go_quiet (fail)
                have hbq := belDrewN (Below.refl w4.heap.size w4) nq
                generalize w4.drewN nq = w5 at hbq ⊢
                have hA5 := ownG_on hA4 hbq
                have hd5 := ownG_on hd4 hbq
                have he5 := ownG_on he4 hbq
                have HX5 := hidK (hkeepK hbq HX4.out)
                have HC5 := hidK (hkeepK hbq HC4.out)
                have hB5 := bel3K hB4 hbq
                have hS5 : B2 ≤ w5.heap.size := Nat.le_trans hS4 hbq.size
                have hxl5 : wr.heap.size < w5.heap.size := Nat.lt_of_lt_of_le hxl4 hbq.size
                have y0 := cell_onA y0 hbq
                have x0 := cell_rowK HX5.out 0 _ rfl
                have x1 := cell_rowK HX5.out 1 _ rfl
                have x2 := cell_rowK HX5.out 2 _ rfl
                have x3 := cell_rowK HX5.out 3 _ rfl
                have x4 := cell_rowK HX5.out 4 _ rfl
                have x5 := cell_rowK HX5.out 5 _ rfl
                have x6 := cell_rowK HX5.out 6 _ rfl
                clear hbq hA4 hd4 he4 HX4 HC4 hB4 hS4 hxl4
                have he6 := he5
                have xn6 := cell_rowK (HX5.out) 4 _ rfl
                go_wp2_with (refine wpList_append_own _ rfl (.tmp 115) (.tmp 120) 40 rfl (B2) 46 ie (.agg #[.int .u8 0, .string ⟨#[]⟩]) 2 24 Try.underlying40 hei he0 he1 he2 rfl (by decide) u15 le ((insE L M true k).flatMap evL) rfl (own_upK he6 _) ⟨w5.heap.size, 0, none⟩ 1 1 (evL ⟨117, nn⟩) rfl rfl (new_rowK w5 (evL ⟨117, nn⟩).toArray 46 (evL ⟨117, nn⟩) rfl) (evL_one ⟨117, nn⟩) (by unfold maxLen; omega) (by omega) (by rw [World.size_alloc]; have := hS5; omega) ?_; intro v7 w7 o7 g7 _; have HB7 := hidK (below_row (bupK2 (hB5) (.cells (evL ⟨117, nn⟩).toArray 46)) g7 (own_upK he6 (.cells (evL ⟨117, nn⟩).toArray 46)) hWB (Nat.le_refl _)); have HO7 := hidK o7; have HK7 := hidK (fun g (hg : g < B2) => kept_low (own_upK he6 (.cells (evL ⟨117, nn⟩).toArray 46)) g7 (g := g) hg (hS5)); have hne7 := own_ty (own_upK (hd5) (.cells (evL ⟨117, nn⟩).toArray 46)) (own_upK he6 (.cells (evL ⟨117, nn⟩).toArray 46)) (show (46 : TypeId) ≠ 32 by decide); have HD7 := hidK (own_ne (own_upK (hd5) (.cells (evL ⟨117, nn⟩).toArray 46)) hne7 g7); clear hne7; have HS7 := hidK (Nat.le_trans (hS5) (size_up g7)); clear o7 g7 he6 xn6)
                go_roundw
                case rel =>
                  refine ⟨k + 1, A, D, by go_num, by omega, ?_, ?_, ?_, ?_, ?_, HS7.out, HB7.out⟩
                  · first | exact HAN.out | (rw [List.length_set]; exact HAN.out)
                  · rw [insL_step HX.out]; exact HST.out.1
                  · show OwnM _ _ _ _; unfold OwnM; rw [show (A).length = n by first | exact HAN.out | (rw [List.length_set]; exact HAN.out)]; exact ownG_kept (hA5) (fun g hg => HK7.out g (HLT.out g hg))
                  · first | exact HD7.out | (show OwnM _ _ _ _; unfold OwnM; rw [show (D).length = ld by first | exact HLD.out | (rw [List.length_set]; exact HLD.out)]; exact HD7.out)
                  · rw [insE_step HX.out, HST.out.2]; exact own_pushE HLE.out.symm HO7.out
                case measure => simp [intOf]; omega
              · have hc2 : u = false ∨ (u = true ∧ ¬ dd ≤ yd) := by cases u with | false => exact .inl rfl | true => exact .inr ⟨rfl, fun e => hc ⟨rfl, e⟩⟩
                have HST : Hid (addL (insL L M u k) ⟨dd, uu, gg, mm, nn, zz, dt⟩ u = A ++ (D.set j ⟨dd, uu, gg, mm, nn, zz, dt⟩) ∧ addW (insL L M u k) ⟨dd, uu, gg, mm, nn, zz, dt⟩ u = 114) := by
                  rw [HAD.out]
                  obtain ⟨e1, e2⟩ := addL_new (x := ⟨dd, uu, gg, mm, nn, zz, dt⟩) (u := u) HS1.out HS2.out (by rw [← HYD.out]; exact hc)
                  exact ⟨by rw [e1, HS3.out], e2⟩
                rcases hc2 with hu | ⟨hu, hd⟩
                · subst hu
                  clear hc
                  go_wp2
                  go_quiet (fail)
                  have hbq := belDrewN (Below.refl w3.heap.size w3) nq
                  generalize w3.drewN nq = w4 at hbq ⊢
                  have hA4 := ownG_on hA3 hbq
                  have hd4 := ownG_on hd3 hbq
                  have he4 := ownG_on he3 hbq
                  have HX4 := hidK (hkeepK hbq HX3.out)
                  have HC4 := hidK (hkeepK hbq HC3.out)
                  have hB4 := bel3K hB3 hbq
                  have hS4 : B2 ≤ w4.heap.size := Nat.le_trans hS3 hbq.size
                  have hxl4 : wr.heap.size < w4.heap.size := Nat.lt_of_lt_of_le hxl3 hbq.size
                  have y0 := cell_onA y0 hbq
                  have x0 := cell_rowK HX4.out 0 _ rfl
                  have x1 := cell_rowK HX4.out 1 _ rfl
                  have x2 := cell_rowK HX4.out 2 _ rfl
                  have x3 := cell_rowK HX4.out 3 _ rfl
                  have x4 := cell_rowK HX4.out 4 _ rfl
                  have x5 := cell_rowK HX4.out 5 _ rfl
                  have x6 := cell_rowK HX4.out 6 _ rfl
                  clear hbq hA3 hd3 he3 HX3 HC3 hB3 hS3 hxl3
                  go_wp2
                  go_quiet (fail)
                  have hbq := belDrewN (Below.refl w4.heap.size w4) nq
                  generalize w4.drewN nq = w5 at hbq ⊢
                  have hA5 := ownG_on hA4 hbq
                  have hd5 := ownG_on hd4 hbq
                  have he5 := ownG_on he4 hbq
                  have HX5 := hidK (hkeepK hbq HX4.out)
                  have HC5 := hidK (hkeepK hbq HC4.out)
                  have hB5 := bel3K hB4 hbq
                  have hS5 : B2 ≤ w5.heap.size := Nat.le_trans hS4 hbq.size
                  have hxl5 : wr.heap.size < w5.heap.size := Nat.lt_of_lt_of_le hxl4 hbq.size
                  have y0 := cell_onA y0 hbq
                  have x0 := cell_rowK HX5.out 0 _ rfl
                  have x1 := cell_rowK HX5.out 1 _ rfl
                  have x2 := cell_rowK HX5.out 2 _ rfl
                  have x3 := cell_rowK HX5.out 3 _ rfl
                  have x4 := cell_rowK HX5.out 4 _ rfl
                  have x5 := cell_rowK HX5.out 5 _ rfl
                  have x6 := cell_rowK HX5.out 6 _ rfl
                  clear hbq hA4 hd4 he4 HX4 HC4 hB4 hS4 hxl4
                  go_upto_region 27 with (refine wpList_store_row_G rfl rfl 32 (.tmp 61) (.tmp 60) rfl gd (j * 7) (.agg #[.int .i64 dd, .int .i64 uu, .int .i64 gg, .int .i64 mm, .string nn, .int .i64 zz, .string dt]) rfl rfl 32 cur (putG cur (j * 7) #[.int .i64 dd, .int .i64 uu, .int .i64 gg, .int .i64 mm, .string nn, .int .i64 zz, .string dt]) HC5.out (by kernel_rfl) (Nat.ble_eq_true_of_le HCS.out) rfl rfl ?_; intro w6 hW6 hG6)
                  have hB6 := below_some hB5 hG6 (Nat.le_trans hWB HBG.out) (Nat.le_refl _)
                  have hS6 : B2 ≤ w6.heap.size := Nat.le_trans hS5 hG6.size
                  have HX6 := hidK ((hG6.block wr.heap.size hxl5 (fun e => by injection e with e; omega)).trans HX5.out)
                  have HE6 := hidK (ownG_kept he5 (fun k' hk' => hG6.block k' (own_ltK he5 k' hk') (fun e => by
                    injection e with e
                    subst e
                    rcases he5.2 with ⟨h8, _⟩ | ⟨g8, cap8, cur8, h8, _, r8, _⟩
                    · rw [h8] at hk'; cases hk'
                    · rw [h8] at hk'
                      have e' : g8 = k' := by simpa [Value.ownBlock] using hk'
                      subst e'
                      have h7 := HC5.out
                      rw [r8] at h7; injection h7 with h7; injection h7 with _ h7 _; exact absurd h7 (by decide))))
                  have hP6 := row_put ⟨dd, uu, gg, mm, nn, zz, dt⟩ hd5 hjn HC5.out hW6
                  have hQ6 := ownG_kept hA5 (fun k' hk' => hG6.block k' (own_ltK hA5 k' hk') (fun e => by injection e with e; exact HAPT.out k' hk' e))
                  clear hA5 hd5 he5 HX5 HC5 hB5 hS5 hW6 hG6 hxl5 x0 x1 x2 x3 x4 x5 x6 y0
                  have he6 := HE6.out
                  have xn6 := cell_rowK (HX6.out) 4 _ rfl
                  go_wp2_with (refine wpList_append_own _ rfl (.tmp 115) (.tmp 120) 40 rfl (B2) 46 ie (.agg #[.int .u8 0, .string ⟨#[]⟩]) 2 24 Try.underlying40 hei he0 he1 he2 rfl (by decide) u15 le ((insE L M false k).flatMap evL) rfl (own_upK he6 _) ⟨w6.heap.size, 0, none⟩ 1 1 (evL ⟨114, nn⟩) rfl rfl (new_rowK w6 (evL ⟨114, nn⟩).toArray 46 (evL ⟨114, nn⟩) rfl) (evL_one ⟨114, nn⟩) (by unfold maxLen; omega) (by omega) (by rw [World.size_alloc]; have := hS6; omega) ?_; intro v7 w7 o7 g7 _; have HB7 := hidK (below_row (bupK2 (hB6) (.cells (evL ⟨114, nn⟩).toArray 46)) g7 (own_upK he6 (.cells (evL ⟨114, nn⟩).toArray 46)) hWB (Nat.le_refl _)); have HO7 := hidK o7; have HK7 := hidK (fun g (hg : g < B2) => kept_low (own_upK he6 (.cells (evL ⟨114, nn⟩).toArray 46)) g7 (g := g) hg (hS6)); have hne7 := own_ty (own_upK (hP6) (.cells (evL ⟨114, nn⟩).toArray 46)) (own_upK he6 (.cells (evL ⟨114, nn⟩).toArray 46)) (show (46 : TypeId) ≠ 32 by decide); have HD7 := hidK (own_ne (own_upK (hP6) (.cells (evL ⟨114, nn⟩).toArray 46)) hne7 g7); clear hne7; have HS7 := hidK (Nat.le_trans (hS6) (size_up g7)); clear o7 g7 he6 xn6)
                  go_roundw
                  case rel =>
                    refine ⟨k + 1, A, (D.set j ⟨dd, uu, gg, mm, nn, zz, dt⟩), by go_num, by omega, ?_, ?_, ?_, ?_, ?_, HS7.out, HB7.out⟩
                    · first | exact HAN.out | (rw [List.length_set]; exact HAN.out)
                    · rw [insL_step HX.out]; exact HST.out.1
                    · show OwnM _ _ _ _; unfold OwnM; rw [show (A).length = n by first | exact HAN.out | (rw [List.length_set]; exact HAN.out)]; exact ownG_kept (hQ6) (fun g hg => HK7.out g (HLT.out g hg))
                    · first | exact HD7.out | (show OwnM _ _ _ _; unfold OwnM; rw [show ((D.set j ⟨dd, uu, gg, mm, nn, zz, dt⟩)).length = ld by first | exact HLD.out | (rw [List.length_set]; exact HLD.out)]; exact HD7.out)
                    · rw [insE_step HX.out, HST.out.2]; exact own_pushE HLE.out.symm HO7.out
                  case measure => simp [intOf]; omega
                · subst hu
                  clear hc
                  go_wp2
                  go_quiet (fail)
                  have hbq := belDrewN (Below.refl w3.heap.size w3) nq
                  generalize w3.drewN nq = w4 at hbq ⊢
                  have hA4 := ownG_on hA3 hbq
                  have hd4 := ownG_on hd3 hbq
                  have he4 := ownG_on he3 hbq
                  have HX4 := hidK (hkeepK hbq HX3.out)
                  have HC4 := hidK (hkeepK hbq HC3.out)
                  have hB4 := bel3K hB3 hbq
                  have hS4 : B2 ≤ w4.heap.size := Nat.le_trans hS3 hbq.size
                  have hxl4 : wr.heap.size < w4.heap.size := Nat.lt_of_lt_of_le hxl3 hbq.size
                  have y0 := cell_onA y0 hbq
                  have x0 := cell_rowK HX4.out 0 _ rfl
                  have x1 := cell_rowK HX4.out 1 _ rfl
                  have x2 := cell_rowK HX4.out 2 _ rfl
                  have x3 := cell_rowK HX4.out 3 _ rfl
                  have x4 := cell_rowK HX4.out 4 _ rfl
                  have x5 := cell_rowK HX4.out 5 _ rfl
                  have x6 := cell_rowK HX4.out 6 _ rfl
                  clear hbq hA3 hd3 he3 HX3 HC3 hB3 hS3 hxl3
                  go_wp2
                  go_quiet (fail)
                  have hbq := belDrewN (Below.refl w4.heap.size w4) nq
                  generalize w4.drewN nq = w5 at hbq ⊢
                  have hA5 := ownG_on hA4 hbq
                  have hd5 := ownG_on hd4 hbq
                  have he5 := ownG_on he4 hbq
                  have HX5 := hidK (hkeepK hbq HX4.out)
                  have HC5 := hidK (hkeepK hbq HC4.out)
                  have hB5 := bel3K hB4 hbq
                  have hS5 : B2 ≤ w5.heap.size := Nat.le_trans hS4 hbq.size
                  have hxl5 : wr.heap.size < w5.heap.size := Nat.lt_of_lt_of_le hxl4 hbq.size
                  have y0 := cell_onA y0 hbq
                  have x0 := cell_rowK HX5.out 0 _ rfl
                  have x1 := cell_rowK HX5.out 1 _ rfl
                  have x2 := cell_rowK HX5.out 2 _ rfl
                  have x3 := cell_rowK HX5.out 3 _ rfl
                  have x4 := cell_rowK HX5.out 4 _ rfl
                  have x5 := cell_rowK HX5.out 5 _ rfl
                  have x6 := cell_rowK HX5.out 6 _ rfl
                  clear hbq hA4 hd4 he4 HX4 HC4 hB4 hS4 hxl4
                  go_upto_region 27 with (refine wpList_store_row_G rfl rfl 32 (.tmp 61) (.tmp 60) rfl gd (j * 7) (.agg #[.int .i64 dd, .int .i64 uu, .int .i64 gg, .int .i64 mm, .string nn, .int .i64 zz, .string dt]) rfl rfl 32 cur (putG cur (j * 7) #[.int .i64 dd, .int .i64 uu, .int .i64 gg, .int .i64 mm, .string nn, .int .i64 zz, .string dt]) HC5.out (by kernel_rfl) (Nat.ble_eq_true_of_le HCS.out) rfl rfl ?_; intro w6 hW6 hG6)
                  have hB6 := below_some hB5 hG6 (Nat.le_trans hWB HBG.out) (Nat.le_refl _)
                  have hS6 : B2 ≤ w6.heap.size := Nat.le_trans hS5 hG6.size
                  have HX6 := hidK ((hG6.block wr.heap.size hxl5 (fun e => by injection e with e; omega)).trans HX5.out)
                  have HE6 := hidK (ownG_kept he5 (fun k' hk' => hG6.block k' (own_ltK he5 k' hk') (fun e => by
                    injection e with e
                    subst e
                    rcases he5.2 with ⟨h8, _⟩ | ⟨g8, cap8, cur8, h8, _, r8, _⟩
                    · rw [h8] at hk'; cases hk'
                    · rw [h8] at hk'
                      have e' : g8 = k' := by simpa [Value.ownBlock] using hk'
                      subst e'
                      have h7 := HC5.out
                      rw [r8] at h7; injection h7 with h7; injection h7 with _ h7 _; exact absurd h7 (by decide))))
                  have hP6 := row_put ⟨dd, uu, gg, mm, nn, zz, dt⟩ hd5 hjn HC5.out hW6
                  have hQ6 := ownG_kept hA5 (fun k' hk' => hG6.block k' (own_ltK hA5 k' hk') (fun e => by injection e with e; exact HAPT.out k' hk' e))
                  clear hA5 hd5 he5 HX5 HC5 hB5 hS5 hW6 hG6 hxl5 x0 x1 x2 x3 x4 x5 x6 y0
                  have he6 := HE6.out
                  have xn6 := cell_rowK (HX6.out) 4 _ rfl
                  go_wp2_with (refine wpList_append_own _ rfl (.tmp 115) (.tmp 120) 40 rfl (B2) 46 ie (.agg #[.int .u8 0, .string ⟨#[]⟩]) 2 24 Try.underlying40 hei he0 he1 he2 rfl (by decide) u15 le ((insE L M true k).flatMap evL) rfl (own_upK he6 _) ⟨w6.heap.size, 0, none⟩ 1 1 (evL ⟨114, nn⟩) rfl rfl (new_rowK w6 (evL ⟨114, nn⟩).toArray 46 (evL ⟨114, nn⟩) rfl) (evL_one ⟨114, nn⟩) (by unfold maxLen; omega) (by omega) (by rw [World.size_alloc]; have := hS6; omega) ?_; intro v7 w7 o7 g7 _; have HB7 := hidK (below_row (bupK2 (hB6) (.cells (evL ⟨114, nn⟩).toArray 46)) g7 (own_upK he6 (.cells (evL ⟨114, nn⟩).toArray 46)) hWB (Nat.le_refl _)); have HO7 := hidK o7; have HK7 := hidK (fun g (hg : g < B2) => kept_low (own_upK he6 (.cells (evL ⟨114, nn⟩).toArray 46)) g7 (g := g) hg (hS6)); have hne7 := own_ty (own_upK (hP6) (.cells (evL ⟨114, nn⟩).toArray 46)) (own_upK he6 (.cells (evL ⟨114, nn⟩).toArray 46)) (show (46 : TypeId) ≠ 32 by decide); have HD7 := hidK (own_ne (own_upK (hP6) (.cells (evL ⟨114, nn⟩).toArray 46)) hne7 g7); clear hne7; have HS7 := hidK (Nat.le_trans (hS6) (size_up g7)); clear o7 g7 he6 xn6)
                  go_roundw
                  case rel =>
                    refine ⟨k + 1, A, (D.set j ⟨dd, uu, gg, mm, nn, zz, dt⟩), by go_num, by omega, ?_, ?_, ?_, ?_, ?_, HS7.out, HB7.out⟩
                    · first | exact HAN.out | (rw [List.length_set]; exact HAN.out)
                    · rw [insL_step HX.out]; exact HST.out.1
                    · show OwnM _ _ _ _; unfold OwnM; rw [show (A).length = n by first | exact HAN.out | (rw [List.length_set]; exact HAN.out)]; exact ownG_kept (hQ6) (fun g hg => HK7.out g (HLT.out g hg))
                    · first | exact HD7.out | (show OwnM _ _ _ _; unfold OwnM; rw [show ((D.set j ⟨dd, uu, gg, mm, nn, zz, dt⟩)).length = ld by first | exact HLD.out | (rw [List.length_set]; exact HLD.out)]; exact HD7.out)
                    · rw [insE_step HX.out, HST.out.2]; exact own_pushE HLE.out.symm HO7.out
                  case measure => simp [intOf]; omega
          | some i =>
            have hil : i < A.length := by have := (nthO_lt hna).1; rwa [List.length_map] at this
            have era : ra = (i : Int) := by rw [HRA.out]; exact nthI_some hna
            subst era
            obtain ⟨y, hy⟩ : ∃ y, A[i]? = some y := ⟨_, List.getElem?_eq_getElem hil⟩
            obtain ⟨hs1, hs2, hs3⟩ := addS_old (D := D) (u := u) (x := ⟨dd, uu, gg, mm, nn, zz, dt⟩) hna hy
            have hin : i < n := by rw [← HAN.out]; exact hil
            obtain ⟨ga, rfl⟩ : ∃ g, ao = some ⟨g, 0, none⟩ := by
              cases ao with
              | none => have := (HNONE.out rfl).1; omega
              | some a => obtain ⟨g, e⟩ := HSOME.out a rfl; exact ⟨g, by rw [e]⟩
            obtain ⟨cur, hcur, hBg, hcs, hcc⟩ := met_cells hA3 hy
            have hgl : ga < wr.heap.size := Nat.lt_of_lt_of_le (HLT.out ga rfl) hwrB
            have HAPT : Hid (∀ g, u14.ownBlock = some g → g ≠ ga) := fun g hg e => by have h5 := HLT.out ga rfl; have h6 := (hd3.lt g hg).1; omega
            obtain ⟨ad, cd, q5, hdc, hdm, hdn, hds⟩ := ownG_form 7 hd3
            subst q5
            clear hdn hds
            have y0 := cell_rowK hcur (i * 7) _ (hcc 0 _ rfl)
            obtain ⟨yd, hyd⟩ : ∃ yd, yd = y.d := ⟨_, rfl⟩
            rw [← hyd] at y0
            have j0 : (0 : Int) ≤ (i : Int) := by omega
            have j1 : ¬ ((i : Int) < 0) := by omega
            have i2 : (decide ((i : Int) < 0)) = false := by simp
            have jI : (i : Int) < (n : Int) := by omega
            have hxl3 := hxlt
            have HC3 := hidK hcur
            have HCS := hidK hcs
            have HBG := hidK hBg
            have HS1 := hidK hs1
            have HS2 := hidK hs2
            have HS3 := hidK hs3
            have HYD := hidK hyd
            clear HRA HRB hna hcur hcs hBg hcc hs1 hs2 hs3 hyd hy hxlt
            by_cases hc : u = true ∧ dd ≤ yd
            · obtain ⟨hu, hd⟩ := hc
              subst hu
              have HST : Hid (addL (insL L M true k) ⟨dd, uu, gg, mm, nn, zz, dt⟩ true = A ++ D ∧ addW (insL L M true k) ⟨dd, uu, gg, mm, nn, zz, dt⟩ true = 117) := by rw [HAD.out]; exact addL_old (x := ⟨dd, uu, gg, mm, nn, zz, dt⟩) HS1.out HS2.out ⟨rfl, by rw [← HYD.out]; exact hd⟩
              go_wp2
              go_quiet (fail)
              have hbq := belDrewN (Below.refl w3.heap.size w3) nq
              generalize w3.drewN nq = w4 at hbq ⊢
              have hA4 := ownG_on hA3 hbq
              have hd4 := ownG_on hd3 hbq
              have he4 := ownG_on he3 hbq
              have HX4 := hidK (hkeepK hbq HX3.out)
              have HC4 := hidK (hkeepK hbq HC3.out)
              have hB4 := bel3K hB3 hbq
              have hS4 : B2 ≤ w4.heap.size := Nat.le_trans hS3 hbq.size
              have hxl4 : wr.heap.size < w4.heap.size := Nat.lt_of_lt_of_le hxl3 hbq.size
              have y0 := cell_onA y0 hbq
              have x0 := cell_rowK HX4.out 0 _ rfl
              have x1 := cell_rowK HX4.out 1 _ rfl
              have x2 := cell_rowK HX4.out 2 _ rfl
              have x3 := cell_rowK HX4.out 3 _ rfl
              have x4 := cell_rowK HX4.out 4 _ rfl
              have x5 := cell_rowK HX4.out 5 _ rfl
              have x6 := cell_rowK HX4.out 6 _ rfl
              clear hbq hA3 hd3 he3 HX3 HC3 hB3 hS3 hxl3
              have he6 := he4
              have xn6 := cell_rowK (HX4.out) 4 _ rfl
              go_wp2_with (refine wpList_append_own _ rfl (.tmp 115) (.tmp 120) 40 rfl (B2) 46 ie (.agg #[.int .u8 0, .string ⟨#[]⟩]) 2 24 Try.underlying40 hei he0 he1 he2 rfl (by decide) u15 le ((insE L M true k).flatMap evL) rfl (own_upK he6 _) ⟨w4.heap.size, 0, none⟩ 1 1 (evL ⟨117, nn⟩) rfl rfl (new_rowK w4 (evL ⟨117, nn⟩).toArray 46 (evL ⟨117, nn⟩) rfl) (evL_one ⟨117, nn⟩) (by unfold maxLen; omega) (by omega) (by rw [World.size_alloc]; have := hS4; omega) ?_; intro v7 w7 o7 g7 _; have HB7 := hidK (below_row (bupK2 (hB4) (.cells (evL ⟨117, nn⟩).toArray 46)) g7 (own_upK he6 (.cells (evL ⟨117, nn⟩).toArray 46)) hWB (Nat.le_refl _)); have HO7 := hidK o7; have HK7 := hidK (fun g (hg : g < B2) => kept_low (own_upK he6 (.cells (evL ⟨117, nn⟩).toArray 46)) g7 (g := g) hg (hS4)); have hne7 := own_ty (own_upK (hd4) (.cells (evL ⟨117, nn⟩).toArray 46)) (own_upK he6 (.cells (evL ⟨117, nn⟩).toArray 46)) (show (46 : TypeId) ≠ 32 by decide); have HD7 := hidK (own_ne (own_upK (hd4) (.cells (evL ⟨117, nn⟩).toArray 46)) hne7 g7); clear hne7; have HS7 := hidK (Nat.le_trans (hS4) (size_up g7)); clear o7 g7 he6 xn6)
              go_roundw
              case rel =>
                refine ⟨k + 1, A, D, by go_num, by omega, ?_, ?_, ?_, ?_, ?_, HS7.out, HB7.out⟩
                · first | exact HAN.out | (rw [List.length_set]; exact HAN.out)
                · rw [insL_step HX.out]; exact HST.out.1
                · show OwnM _ _ _ _; unfold OwnM; rw [show (A).length = n by first | exact HAN.out | (rw [List.length_set]; exact HAN.out)]; exact ownG_kept (hA4) (fun g hg => HK7.out g (HLT.out g hg))
                · first | exact HD7.out | (show OwnM _ _ _ _; unfold OwnM; rw [show (D).length = ld by first | exact HLD.out | (rw [List.length_set]; exact HLD.out)]; exact HD7.out)
                · rw [insE_step HX.out, HST.out.2]; exact own_pushE HLE.out.symm HO7.out
              case measure => simp [intOf]; omega
            · have hc2 : u = false ∨ (u = true ∧ ¬ dd ≤ yd) := by cases u with | false => exact .inl rfl | true => exact .inr ⟨rfl, fun e => hc ⟨rfl, e⟩⟩
              have HST : Hid (addL (insL L M u k) ⟨dd, uu, gg, mm, nn, zz, dt⟩ u = (A.set i ⟨dd, uu, gg, mm, nn, zz, dt⟩) ++ D ∧ addW (insL L M u k) ⟨dd, uu, gg, mm, nn, zz, dt⟩ u = 114) := by
                rw [HAD.out]
                obtain ⟨e1, e2⟩ := addL_new (x := ⟨dd, uu, gg, mm, nn, zz, dt⟩) (u := u) HS1.out HS2.out (by rw [← HYD.out]; exact hc)
                exact ⟨by rw [e1, HS3.out], e2⟩
              rcases hc2 with hu | ⟨hu, hd⟩
              · subst hu
                clear hc
                go_wp2
                go_quiet (fail)
                have hbq := belDrewN (Below.refl w3.heap.size w3) nq
                generalize w3.drewN nq = w4 at hbq ⊢
                have hA4 := ownG_on hA3 hbq
                have hd4 := ownG_on hd3 hbq
                have he4 := ownG_on he3 hbq
                have HX4 := hidK (hkeepK hbq HX3.out)
                have HC4 := hidK (hkeepK hbq HC3.out)
                have hB4 := bel3K hB3 hbq
                have hS4 : B2 ≤ w4.heap.size := Nat.le_trans hS3 hbq.size
                have hxl4 : wr.heap.size < w4.heap.size := Nat.lt_of_lt_of_le hxl3 hbq.size
                have y0 := cell_onA y0 hbq
                have x0 := cell_rowK HX4.out 0 _ rfl
                have x1 := cell_rowK HX4.out 1 _ rfl
                have x2 := cell_rowK HX4.out 2 _ rfl
                have x3 := cell_rowK HX4.out 3 _ rfl
                have x4 := cell_rowK HX4.out 4 _ rfl
                have x5 := cell_rowK HX4.out 5 _ rfl
                have x6 := cell_rowK HX4.out 6 _ rfl
                clear hbq hA3 hd3 he3 HX3 HC3 hB3 hS3 hxl3
                go_wp2
                go_quiet (fail)
                have hbq := belDrewN (Below.refl w4.heap.size w4) nq
                generalize w4.drewN nq = w5 at hbq ⊢
                have hA5 := ownG_on hA4 hbq
                have hd5 := ownG_on hd4 hbq
                have he5 := ownG_on he4 hbq
                have HX5 := hidK (hkeepK hbq HX4.out)
                have HC5 := hidK (hkeepK hbq HC4.out)
                have hB5 := bel3K hB4 hbq
                have hS5 : B2 ≤ w5.heap.size := Nat.le_trans hS4 hbq.size
                have hxl5 : wr.heap.size < w5.heap.size := Nat.lt_of_lt_of_le hxl4 hbq.size
                have y0 := cell_onA y0 hbq
                have x0 := cell_rowK HX5.out 0 _ rfl
                have x1 := cell_rowK HX5.out 1 _ rfl
                have x2 := cell_rowK HX5.out 2 _ rfl
                have x3 := cell_rowK HX5.out 3 _ rfl
                have x4 := cell_rowK HX5.out 4 _ rfl
                have x5 := cell_rowK HX5.out 5 _ rfl
                have x6 := cell_rowK HX5.out 6 _ rfl
                clear hbq hA4 hd4 he4 HX4 HC4 hB4 hS4 hxl4
                go_upto_region 27 with (refine wpList_store_row_G rfl rfl 32 (.tmp 114) (.tmp 113) rfl ga (i * 7) (.agg #[.int .i64 dd, .int .i64 uu, .int .i64 gg, .int .i64 mm, .string nn, .int .i64 zz, .string dt]) rfl rfl 32 cur (putG cur (i * 7) #[.int .i64 dd, .int .i64 uu, .int .i64 gg, .int .i64 mm, .string nn, .int .i64 zz, .string dt]) HC5.out (by kernel_rfl) (Nat.ble_eq_true_of_le HCS.out) rfl rfl ?_; intro w6 hW6 hG6)
                have hB6 := below_some hB5 hG6 HBG.out (Nat.le_refl _)
                have hS6 : B2 ≤ w6.heap.size := Nat.le_trans hS5 hG6.size
                have HX6 := hidK ((hG6.block wr.heap.size hxl5 (fun e => by injection e with e; omega)).trans HX5.out)
                have HE6 := hidK (ownG_kept he5 (fun k' hk' => hG6.block k' (own_ltK he5 k' hk') (fun e => by
                  injection e with e
                  subst e
                  rcases he5.2 with ⟨h8, _⟩ | ⟨g8, cap8, cur8, h8, _, r8, _⟩
                  · rw [h8] at hk'; cases hk'
                  · rw [h8] at hk'
                    have e' : g8 = k' := by simpa [Value.ownBlock] using hk'
                    subst e'
                    have h7 := HC5.out
                    rw [r8] at h7; injection h7 with h7; injection h7 with _ h7 _; exact absurd h7 (by decide))))
                have hP6 := row_put ⟨dd, uu, gg, mm, nn, zz, dt⟩ hA5 hin HC5.out hW6
                have hQ6 := ownG_kept hd5 (fun k' hk' => hG6.block k' (own_ltK hd5 k' hk') (fun e => by injection e with e; exact HAPT.out k' hk' e))
                clear hA5 hd5 he5 HX5 HC5 hB5 hS5 hW6 hG6 hxl5 x0 x1 x2 x3 x4 x5 x6 y0
                have he6 := HE6.out
                have xn6 := cell_rowK (HX6.out) 4 _ rfl
                go_wp2_with (refine wpList_append_own _ rfl (.tmp 115) (.tmp 120) 40 rfl (B2) 46 ie (.agg #[.int .u8 0, .string ⟨#[]⟩]) 2 24 Try.underlying40 hei he0 he1 he2 rfl (by decide) u15 le ((insE L M false k).flatMap evL) rfl (own_upK he6 _) ⟨w6.heap.size, 0, none⟩ 1 1 (evL ⟨114, nn⟩) rfl rfl (new_rowK w6 (evL ⟨114, nn⟩).toArray 46 (evL ⟨114, nn⟩) rfl) (evL_one ⟨114, nn⟩) (by unfold maxLen; omega) (by omega) (by rw [World.size_alloc]; have := hS6; omega) ?_; intro v7 w7 o7 g7 _; have HB7 := hidK (below_row (bupK2 (hB6) (.cells (evL ⟨114, nn⟩).toArray 46)) g7 (own_upK he6 (.cells (evL ⟨114, nn⟩).toArray 46)) hWB (Nat.le_refl _)); have HO7 := hidK o7; have HK7 := hidK (fun g (hg : g < B2) => kept_low (own_upK he6 (.cells (evL ⟨114, nn⟩).toArray 46)) g7 (g := g) hg (hS6)); have hne7 := own_ty (own_upK (hQ6) (.cells (evL ⟨114, nn⟩).toArray 46)) (own_upK he6 (.cells (evL ⟨114, nn⟩).toArray 46)) (show (46 : TypeId) ≠ 32 by decide); have HD7 := hidK (own_ne (own_upK (hQ6) (.cells (evL ⟨114, nn⟩).toArray 46)) hne7 g7); clear hne7; have HS7 := hidK (Nat.le_trans (hS6) (size_up g7)); clear o7 g7 he6 xn6)
                go_roundw
                case rel =>
                  refine ⟨k + 1, (A.set i ⟨dd, uu, gg, mm, nn, zz, dt⟩), D, by go_num, by omega, ?_, ?_, ?_, ?_, ?_, HS7.out, HB7.out⟩
                  · first | exact HAN.out | (rw [List.length_set]; exact HAN.out)
                  · rw [insL_step HX.out]; exact HST.out.1
                  · show OwnM _ _ _ _; unfold OwnM; rw [show ((A.set i ⟨dd, uu, gg, mm, nn, zz, dt⟩)).length = n by first | exact HAN.out | (rw [List.length_set]; exact HAN.out)]; exact ownG_kept (hP6) (fun g hg => HK7.out g (HLT.out g hg))
                  · first | exact HD7.out | (show OwnM _ _ _ _; unfold OwnM; rw [show (D).length = ld by first | exact HLD.out | (rw [List.length_set]; exact HLD.out)]; exact HD7.out)
                  · rw [insE_step HX.out, HST.out.2]; exact own_pushE HLE.out.symm HO7.out
                case measure => simp [intOf]; omega
              · subst hu
                clear hc
                go_wp2
                go_quiet (fail)
                have hbq := belDrewN (Below.refl w3.heap.size w3) nq
                generalize w3.drewN nq = w4 at hbq ⊢
                have hA4 := ownG_on hA3 hbq
                have hd4 := ownG_on hd3 hbq
                have he4 := ownG_on he3 hbq
                have HX4 := hidK (hkeepK hbq HX3.out)
                have HC4 := hidK (hkeepK hbq HC3.out)
                have hB4 := bel3K hB3 hbq
                have hS4 : B2 ≤ w4.heap.size := Nat.le_trans hS3 hbq.size
                have hxl4 : wr.heap.size < w4.heap.size := Nat.lt_of_lt_of_le hxl3 hbq.size
                have y0 := cell_onA y0 hbq
                have x0 := cell_rowK HX4.out 0 _ rfl
                have x1 := cell_rowK HX4.out 1 _ rfl
                have x2 := cell_rowK HX4.out 2 _ rfl
                have x3 := cell_rowK HX4.out 3 _ rfl
                have x4 := cell_rowK HX4.out 4 _ rfl
                have x5 := cell_rowK HX4.out 5 _ rfl
                have x6 := cell_rowK HX4.out 6 _ rfl
                clear hbq hA3 hd3 he3 HX3 HC3 hB3 hS3 hxl3
                go_wp2
                go_quiet (fail)
                have hbq := belDrewN (Below.refl w4.heap.size w4) nq
                generalize w4.drewN nq = w5 at hbq ⊢
                have hA5 := ownG_on hA4 hbq
                have hd5 := ownG_on hd4 hbq
                have he5 := ownG_on he4 hbq
                have HX5 := hidK (hkeepK hbq HX4.out)
                have HC5 := hidK (hkeepK hbq HC4.out)
                have hB5 := bel3K hB4 hbq
                have hS5 : B2 ≤ w5.heap.size := Nat.le_trans hS4 hbq.size
                have hxl5 : wr.heap.size < w5.heap.size := Nat.lt_of_lt_of_le hxl4 hbq.size
                have y0 := cell_onA y0 hbq
                have x0 := cell_rowK HX5.out 0 _ rfl
                have x1 := cell_rowK HX5.out 1 _ rfl
                have x2 := cell_rowK HX5.out 2 _ rfl
                have x3 := cell_rowK HX5.out 3 _ rfl
                have x4 := cell_rowK HX5.out 4 _ rfl
                have x5 := cell_rowK HX5.out 5 _ rfl
                have x6 := cell_rowK HX5.out 6 _ rfl
                clear hbq hA4 hd4 he4 HX4 HC4 hB4 hS4 hxl4
                go_upto_region 27 with (refine wpList_store_row_G rfl rfl 32 (.tmp 114) (.tmp 113) rfl ga (i * 7) (.agg #[.int .i64 dd, .int .i64 uu, .int .i64 gg, .int .i64 mm, .string nn, .int .i64 zz, .string dt]) rfl rfl 32 cur (putG cur (i * 7) #[.int .i64 dd, .int .i64 uu, .int .i64 gg, .int .i64 mm, .string nn, .int .i64 zz, .string dt]) HC5.out (by kernel_rfl) (Nat.ble_eq_true_of_le HCS.out) rfl rfl ?_; intro w6 hW6 hG6)
                have hB6 := below_some hB5 hG6 HBG.out (Nat.le_refl _)
                have hS6 : B2 ≤ w6.heap.size := Nat.le_trans hS5 hG6.size
                have HX6 := hidK ((hG6.block wr.heap.size hxl5 (fun e => by injection e with e; omega)).trans HX5.out)
                have HE6 := hidK (ownG_kept he5 (fun k' hk' => hG6.block k' (own_ltK he5 k' hk') (fun e => by
                  injection e with e
                  subst e
                  rcases he5.2 with ⟨h8, _⟩ | ⟨g8, cap8, cur8, h8, _, r8, _⟩
                  · rw [h8] at hk'; cases hk'
                  · rw [h8] at hk'
                    have e' : g8 = k' := by simpa [Value.ownBlock] using hk'
                    subst e'
                    have h7 := HC5.out
                    rw [r8] at h7; injection h7 with h7; injection h7 with _ h7 _; exact absurd h7 (by decide))))
                have hP6 := row_put ⟨dd, uu, gg, mm, nn, zz, dt⟩ hA5 hin HC5.out hW6
                have hQ6 := ownG_kept hd5 (fun k' hk' => hG6.block k' (own_ltK hd5 k' hk') (fun e => by injection e with e; exact HAPT.out k' hk' e))
                clear hA5 hd5 he5 HX5 HC5 hB5 hS5 hW6 hG6 hxl5 x0 x1 x2 x3 x4 x5 x6 y0
                have he6 := HE6.out
                have xn6 := cell_rowK (HX6.out) 4 _ rfl
                go_wp2_with (refine wpList_append_own _ rfl (.tmp 115) (.tmp 120) 40 rfl (B2) 46 ie (.agg #[.int .u8 0, .string ⟨#[]⟩]) 2 24 Try.underlying40 hei he0 he1 he2 rfl (by decide) u15 le ((insE L M true k).flatMap evL) rfl (own_upK he6 _) ⟨w6.heap.size, 0, none⟩ 1 1 (evL ⟨114, nn⟩) rfl rfl (new_rowK w6 (evL ⟨114, nn⟩).toArray 46 (evL ⟨114, nn⟩) rfl) (evL_one ⟨114, nn⟩) (by unfold maxLen; omega) (by omega) (by rw [World.size_alloc]; have := hS6; omega) ?_; intro v7 w7 o7 g7 _; have HB7 := hidK (below_row (bupK2 (hB6) (.cells (evL ⟨114, nn⟩).toArray 46)) g7 (own_upK he6 (.cells (evL ⟨114, nn⟩).toArray 46)) hWB (Nat.le_refl _)); have HO7 := hidK o7; have HK7 := hidK (fun g (hg : g < B2) => kept_low (own_upK he6 (.cells (evL ⟨114, nn⟩).toArray 46)) g7 (g := g) hg (hS6)); have hne7 := own_ty (own_upK (hQ6) (.cells (evL ⟨114, nn⟩).toArray 46)) (own_upK he6 (.cells (evL ⟨114, nn⟩).toArray 46)) (show (46 : TypeId) ≠ 32 by decide); have HD7 := hidK (own_ne (own_upK (hQ6) (.cells (evL ⟨114, nn⟩).toArray 46)) hne7 g7); clear hne7; have HS7 := hidK (Nat.le_trans (hS6) (size_up g7)); clear o7 g7 he6 xn6)
                go_roundw
                case rel =>
                  refine ⟨k + 1, (A.set i ⟨dd, uu, gg, mm, nn, zz, dt⟩), D, by go_num, by omega, ?_, ?_, ?_, ?_, ?_, HS7.out, HB7.out⟩
                  · first | exact HAN.out | (rw [List.length_set]; exact HAN.out)
                  · rw [insL_step HX.out]; exact HST.out.1
                  · show OwnM _ _ _ _; unfold OwnM; rw [show ((A.set i ⟨dd, uu, gg, mm, nn, zz, dt⟩)).length = n by first | exact HAN.out | (rw [List.length_set]; exact HAN.out)]; exact ownG_kept (hP6) (fun g hg => HK7.out g (HLT.out g hg))
                  · first | exact HD7.out | (show OwnM _ _ _ _; unfold OwnM; rw [show (D).length = ld by first | exact HLD.out | (rw [List.length_set]; exact HLD.out)]; exact HD7.out)
                  · rw [insE_step HX.out, HST.out.2]; exact own_pushE HLE.out.symm HO7.out
                case measure => simp [intOf]; omega
        · obtain rfl : k = m := by omega
          have HTK : Hid ((insL L M u k).take n = A ∧ (insL L M u k).drop n = D) := by
            rw [HAD.out]
            exact ⟨by rw [List.take_append_of_le_length (by rw [HAN.out]; exact Nat.le_refl _), List.take_of_length_le (by rw [HAN.out]; exact Nat.le_refl _)], by rw [List.drop_append, List.drop_eq_nil_of_le (by rw [HAN.out]; exact Nat.le_refl _), HAN.out, Nat.sub_self, List.drop_zero, List.nil_append]⟩
          have hDl : D.length ≤ 16777216 := by have := HLEN.out k; rw [HAD.out, List.length_append, HAN.out] at this; omega
          have HW := hidK (placed_c _ _ A D p wr HA.out.row HD.out.row (by rw [HAN.out]; exact HPL.out) (by rw [HAN.out]; omega) hDl)
          clear HV2
          go_wp2_with (go_at_call 29; refine HW.out.mono ?_; rintro e w5 ⟨z, rfl, ho5, hb5⟩)
          go_ret3
          exact ⟨_, _, rfl, by rw [HTK.out.1, HTK.out.2]; exact ho5.le hB.size, (HE.out.on hb5).le hWB, bel3K hB hb5⟩
end Go.Proofs.Ytaaagdmhokgcjaa
