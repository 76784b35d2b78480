
-- written: a command in another spelling.
import Derived.Test.YtdamhdceajmdfaaDoorTU
import Derived.Deep.CutRange
namespace Go.Proofs.YtdamhdceajmdfaaDoor
open Go.ChangeShapes Go.WideShapes Go.ChangeAt Go.RowKit Go.MapKept
set_option linter.unusedVariables false
set_option maxRecDepth 100000
set_option linter.unusedSimpArgs false
theorem byB_lit (l : List UInt8) (a : Array UInt8) (h : a.toList = l) : byB l = ⟨a⟩ := by unfold byB; rw [← h]
theorem sizes_sum {L : List ByteArray} : (L.map ByteArray.size).sum ≤ sumS L := by
  induction L with
  | nil => simp
  | cons x r ih => rw [sumS_cons, List.map_cons, List.sum_cons]; omega
theorem wr_mk {k : Nat} {c : Mr} {T pre nm e : List UInt8} {pr : Bool} {M : List (List UInt8 × ByteArray)} (h : T = pre ++ (lawW.getD k [] ++ (nm ++ ((if pr then [40] else []) ++ (joinW M ++ (if pr then [32, 41] else [])))))) (h1 : pre = [] ∨ pre = [32]) (h2 : if byL c.n = [] then nm = [] else ∃ p ∈ pcs, nm = p ++ byL c.n) (h3 : pr = true → k = 4 ∨ k = 9) (h4 : (k = 4 ∨ k = 9) → c.ns ≠ [] → pr = true) (h5 : ∀ p ∈ M, p.1 ∈ pcs) (h6 : M.map (·.2) = c.ns) (h7 : e ∈ ends) : Wr k c (T ++ e) :=
  ⟨pre, nm, pr, M, e, by rw [h]; simp only [List.append_assoc], h1, h2, h3, h4, h5, h6, h7⟩
theorem sumS_app32 (a b : List ByteArray) : sumS (a ++ b) = sumS a + sumS b := by simp [sumS]
theorem bDrew {B : Nat} {w w' : World} (h : Below B w w') (m : Nat) : Below B w (w'.drewN m) := by
  induction m with
  | zero => exact h
  | succ m ih => exact ih.drew
def JnRel (W : World) (T0 : List UInt8) (cs : List ByteArray) (m : Nat) (s i : Value) (wx : World) : Prop := ∃ (j : Nat) (M : List (List UInt8 × ByteArray)), i = .int .i64 j ∧ j ≤ m ∧ s = .string (byB (T0 ++ joinW M)) ∧ (∀ p ∈ M, p.1 ∈ pcs) ∧ M.map (·.2) = cs.take j ∧ Below W.heap.size W wx
set_option maxHeartbeats 16000000 in
theorem written_c (k : Nat) (hk : k < 14) (cn : ByteArray) (cs : List ByteArray) (u : Value) (x : Int) (hx0 : 0 ≤ x) (hx1 : x ≤ 31) (w : World) (hT : LT w) (h : RowT w u cs) (hn : cn.size ≤ 16777216) (hs : sumS cs ≤ 16777216) :
    Calls Tryd.prog 14 #[.agg #[.int .i64 (k : Int), .string cn, u], .int .i64 x] w fun e w' => ∃ t, e = .returned (.string (byB t)) ∧ Wr k ⟨(k : Int), cn, cs⟩ t ∧ Below w.heap.size w w' := by
  obtain ⟨ao, cap, hu⟩ := h.slice
  obtain ⟨m, hm'⟩ : ∃ m, m = cs.length := ⟨_, rfl⟩
  rw [← hm'] at hu
  subst hu
  have hB := bupK (Below.refl w.heap.size w) (.cells #[.int .i64 (k : Int), .string cn, .slice ao m cap] 28)
  obtain ⟨W, hW⟩ : ∃ W, W = w.alloc (.cells #[.int .i64 (k : Int), .string cn, .slice ao m cap] 28) := ⟨_, rfl⟩
  have hc0 : W.cell? ⟨w.heap.size, 0, none⟩ = some (.int .i64 (k : Int)) := by rw [hW]; exact cell_rowK (heap_alloc_new _ _) 0 _ rfl
  have hc1 : W.cell? ⟨w.heap.size, 1, none⟩ = some (.string cn) := by rw [hW]; exact cell_rowK (heap_alloc_new _ _) 1 _ rfl
  have hc2 : W.cell? ⟨w.heap.size, 2, none⟩ = some (.slice ao m cap) := by rw [hW]; exact cell_rowK (heap_alloc_new _ _) 2 _ rfl
  rw [← hW] at hB
  have hTW := hT.up hB
  have HCT : Hid (∀ k, k < 14 → W.cell? ⟨1, k, none⟩ = some (.string (byB (lawW.getD k [])))) := hTW.2
  have HR : Hid (RowT W (.slice ao m cap) cs) := h.on hB
  have HC0 := hidK hc0
  have HC1 := hidK hc1
  have HC2 := hidK hc2
  have HM := hidK hm'
  have HB := hidK hB
  have HBT : Hid (∀ z wx, Calls Tryd.prog 26 #[.int .i64 z] wx fun e w' => e = .returned (.string (byB (btw z))) ∧ w' = wx) := fun z wx => between_c z wx
  obtain ⟨V, hV⟩ : ∃ V, V = lawW.getD k [] := ⟨_, rfl⟩
  have hVl : V.length ≤ 9 := by
    have : ∀ j : Fin 14, (lawW.getD j.val []).length ≤ 9 := by decide
    rw [hV]; exact this ⟨k, hk⟩
  have HV := hidK hV
  have hcv := HCT.out k hk
  rw [← hV] at hcv
  have HCV := hidK hcv
  have hlm := sumS_len cs
  have hml : m ≤ 16777216 := by omega
  have HNS : Hid (cn.size ≤ 16777216 ∧ sumS cs ≤ 16777216) := ⟨hn, hs⟩
  obtain ⟨q1, hq1, he1⟩ := and_le x 1 (by decide)
  have he1' : bits .and .i64 x 1 = (q1 : Int) := he1
  obtain ⟨q16, hq16, he16⟩ := and_le x 16 (by decide)
  have he16' : bits .and .i64 x 16 = (q16 : Int) := he16
  obtain ⟨q3, hq3, he3⟩ := and_le x 3 (by decide)
  have he3' : bits .and .i64 x 3 = (q3 : Int) := he3
  have HE16 := hidK he16'
  have HE3 := hidK he3'
  have HQ3 := hidK hq3
  obtain ⟨vb, hvb⟩ : ∃ vb : Bool, vb = decide (k = 4 ∨ k = 9) := ⟨_, rfl⟩
  have HVB := hidK hvb
  obtain ⟨pr, hpr⟩ : ∃ pr : Bool, pr = (vb && decide (0 < m ∨ 0 < q16)) := ⟨_, rfl⟩
  have HPR := hidK hpr
  have hq16' := hq16
  clear h hT hTW hc0 hc1 hc2 hm' hB he1 he16 he3 he16' he3' hV hcv hlm hn hs hpr hvb hq16 hq3
  go_enter Tryd.func14, Tryd.ntmps14
  go_upto_region 1 with fail
  rw [← hW]
  have HW := hidK hW
  clear hW
  go_cut [5] from 7 to 14 (fun s wx => (∃ pre : List UInt8, (pre = [] ∨ pre = [32]) ∧ s = .string (byB (pre ++ V))) ∧ Below W.heap.size W wx)
  case first =>
    have hvs : (byB V).size ≤ 9 := by rw [byB_size]; exact hVl
    have c0 := HC0.out
    have cv := HCV.out
    have k0 : (0 : Int) ≤ (k : Int) := by omega
    have k1 : (k : Int) < 14 := by omega
    obtain ⟨vs, hvs'⟩ : ∃ vs, vs = (byB V).size := ⟨_, rfl⟩
    have hvs2 : (byB V).size = vs := hvs'.symm
    have hvs3 : ¬ 9223372036854775807 < vs := by omega
    have hvs4 : ¬ 9223372036854775807 < 1 + vs := by omega
    have hvs5 : ¬ 9223372036854775806 < vs := by omega
    clear hvs'
    have all : q1 = 0 ∨ q1 = 1 := by omega
    clear hq1 hVl hvs
    rcases all with rfl | rfl
    · have hsl := slice_pre0
      go_wp2_with fail
      go_quiet (fail)
      go_wp2
      go_meet
      case rel => exact ⟨⟨[], .inl rfl, by first | rfl | (rw [List.nil_append]; congr 1; apply byL_inj; simp [byL_app, byL_byB]; rfl)⟩, by first | exact Below.refl _ _ | exact bDrew (Below.refl _ _) _⟩
    · have hsl := slice_pre1
      go_wp2_with fail
      go_quiet (fail)
      go_wp2
      go_meet
      case rel => exact ⟨⟨[32], .inr rfl, by rw [byB_app]; rfl⟩, by first | exact Below.refl _ _ | exact bDrew (Below.refl _ _) _⟩
  case rest =>
    obtain ⟨⟨pre, hpre, hs5⟩, hbw⟩ := hcut
    obtain ⟨T1, hT1⟩ : ∃ T, T = pre ++ V := ⟨_, rfl⟩
    rw [← hT1] at hs5
    have HT1 := hidK hT1
    have HPRE := hidK hpre
    have hT1l : T1.length ≤ 10 := by rw [hT1, List.length_append]; rcases hpre with rfl | rfl <;> simp <;> omega
    subst hs5
    obtain ⟨wA, hwA⟩ : ∃ x, x = wc := ⟨_, rfl⟩
    subst hwA
    have HBW := hidK hbw
    clear hT1 hpre hbw hVl
    have c1 := cell_onG HC1.out HBW.out
    go_upto_if 17 with fail
    clear c1
    go_cut [5] from 15 to 24 (fun s wx => (∃ nm : List UInt8, (if byL cn = [] then nm = [] else ∃ p ∈ pcs, nm = p ++ byL cn) ∧ s = .string (byB (T1 ++ nm))) ∧ Below W.heap.size W wx)
    case first =>
      have c1 := cell_onG HC1.out HBW.out
      have tl : cn.toList = byL cn := by rw [ByteArray.toList_eq]; rfl
      by_cases h0 : byL cn = []
      · have hb : (cn.toList == []) = true := by rw [tl, h0]; rfl
        have hb2 : cn.toList = [] := by rw [tl, h0]
        have hb3 : cn.toList.isEmpty = true := by rw [tl, h0]; rfl
        have HH0 := hidK h0
        clear h0 tl
        simp only [hb3, Bool.not_true, Bool.not_false]
        go_wp2
        go_meet
        case rel => exact ⟨⟨[], by rw [if_pos HH0.out], by rw [List.append_nil]⟩, HBW.out⟩
      · have hb : (cn.toList == []) = false := by rw [tl]; exact beq_eq_false_iff_ne.2 h0
        have hb2 : ¬ cn.toList = [] := by rw [tl]; exact h0
        have hb3 : cn.toList.isEmpty = false := by rw [tl]; cases q : byL cn with | nil => exact absurd q h0 | cons a l => rfl
        have HH0 := hidK h0
        obtain ⟨pB, hpB⟩ : ∃ pB, pB = byB (btw x) := ⟨_, rfl⟩
        have hpl : pB.size ≤ 22 := by rw [hpB, byB_size]; exact pcs_len (btw_mem x)
        have HPB := hidK hpB
        have HB1 : Hid (∀ wx, Calls Tryd.prog 26 #[.int .i64 x] wx fun e w' => e = .returned (.string pB) ∧ w' = wx) := fun wx => by rw [hpB]; exact HBT.out x wx
        have ht1 : (byB T1).size ≤ 10 := by rw [byB_size]; exact hT1l
        obtain ⟨a, ha⟩ : ∃ a, (byB T1).size = a := ⟨_, rfl⟩
        obtain ⟨b, hb'⟩ : ∃ b, pB.size = b := ⟨_, rfl⟩
        obtain ⟨c, hc'⟩ : ∃ c, cn.size = c := ⟨_, rfl⟩
        have hz : (byB T1 ++ pB).size = a + b := by rw [ByteArray.size_append, ha, hb']
        have hz1 : ¬ 9223372036854775807 < a + b := by omega
        have hz2 : ¬ 9223372036854775807 < a + b + c := by have := HNS.out.1; omega
        clear h0 tl hpB hT1l ht1 hpl
        simp only [hb3, Bool.not_true, Bool.not_false]
        go_upto_region 3 with fail
        go_wp2_with fail
        go_quiet (first | (go_at_call 26; exact Calls.quiet_of_same (HB1.out _)) | fail)
        go_wp2
        go_meet
        case rel => exact ⟨⟨btw x ++ byL cn, by rw [if_neg HH0.out]; exact ⟨_, btw_mem x, rfl⟩, by rw [byB_app, byB_app, byB_byL, ← HPB.out, app3B]⟩, by first | exact HBW.out | exact bDrew HBW.out _⟩
    case rest =>
      obtain ⟨⟨nm, hnm, hs5⟩, hbw⟩ := hcut
      obtain ⟨T2, hT2⟩ : ∃ T, T = T1 ++ nm := ⟨_, rfl⟩
      rw [← hT2] at hs5
      have hT2l : T2.length ≤ 16777300 := by
        rw [hT2, List.length_append]
        have h1 : nm.length ≤ 22 + cn.size := by
          split at hnm
          · subst hnm; simp
          · obtain ⟨p, hp, rfl⟩ := hnm
            have := pcs_len hp
            rw [List.length_append, byL_size]; omega
        have := HNS.out.1
        omega
      have HT2 := hidK hT2
      have HNM := hidK hnm
      subst hs5
      obtain ⟨wB, hwB⟩ : ∃ x, x = wc := ⟨_, rfl⟩
      subst hwB
      have HBX := hidK hbw
      clear hT2 hnm hbw hT1l
      obtain ⟨a2, ha2⟩ : ∃ a, (byB T2).size = a := ⟨_, rfl⟩
      have ha2l : a2 ≤ 16777300 := by rw [← ha2, byB_size]; exact hT2l
      have hv : k = 4 ∨ k = 9 ∨ (¬ k = 4 ∧ ¬ k = 9) := by omega
      have HQS := hidK hq16'
      clear hT2l hq16'
      have tail : ∀ vb : Bool, vb = decide (k = 4 ∨ k = 9) → vb = vb := fun _ _ => rfl
      clear tail
      rcases hv with rfl | rfl | ⟨n4, n9⟩
      all_goals
        first
          | (have n4' : ¬ ((k : Int) = 4) := by omega
             have n9' : ¬ ((k : Int) = 9) := by omega
             have b4 : ((k : Int) == 4) = false := by simp; omega
             have b9 : ((k : Int) == 9) = false := by simp; omega)
          | skip
        have c0 := cell_onG HC0.out HBX.out
        have c2 := cell_onG HC2.out HBX.out
        have e16 := HE16.out
        go_upto_if 32 with fail
        go_cut [5] from 32 to 43 (fun s wx => s = .string (byB (T2 ++ (if pr then [40] else []))) ∧ wx = wB)
        case first =>
          have hz1 : ¬ 9223372036854775807 < a2 + 1 := by omega
          have hz2 : ¬ 9223372036854775806 < a2 := by omega
          have hP := HPR.out
          by_cases hm0 : 0 < m
          · have e : pr = vb := by rw [hP]; simp [hm0]
            have HE := hidK e
            clear hP e
            go_wp2
            go_meet
            case rel => exact ⟨by rw [HE.out, HVB.out]; first | (simp [byB_app]; done) | (simp [byB_app]; rfl) | (simp [byB_app, n4, n9]; done), rfl⟩
          · have hm1 : m = 0 := by omega
            by_cases hq0 : 0 < q16
            · have e : pr = vb := by rw [hP]; simp [hq0]
              have HE := hidK e
              clear hP e hm0
              subst hm1
              go_wp2
              go_meet
              case rel => exact ⟨by rw [HE.out, HVB.out]; first | (simp [byB_app]; done) | (simp [byB_app]; rfl) | (simp [byB_app, n4, n9]; done), rfl⟩
            · have hq1' : q16 = 0 := by omega
              have e : pr = false := by rw [hP]; simp [hm1, hq1']
              have HE := hidK e
              clear hP e hm0 hq0
              subst hm1
              subst hq1'
              go_wp2
              go_meet
              case rel => exact ⟨by rw [HE.out]; simp, rfl⟩
        case rest =>
          obtain ⟨hs5, hwc⟩ := hcut
          obtain ⟨wC, hwC⟩ : ∃ x, x = wc := ⟨_, rfl⟩
          subst hwC
          subst hwc
          obtain ⟨T3, hT3⟩ : ∃ T, T = T2 ++ (if pr then [40] else []) := ⟨_, rfl⟩
          rw [← hT3] at hs5
          have HT3 := hidK hT3
          have ha3 : T3.length ≤ 16777301 := by
            rw [hT3, List.length_append]
            have h1 : T2.length ≤ 16777300 := by rw [← byB_size, ha2]; exact ha2l
            have h2 : (if pr = true then [40] else [] : List UInt8).length ≤ 1 := by split <;> simp
            omega
          have HA3 := hidK ha3
          subst hs5
          have HE2 := hidK ha2
          clear hT3 ha3 c0 c2 e16 ha2
          go_wp2
          go_loopw [5, 6] (fun s i wx => JnRel W T3 cs m s i wx) (fun _ i _ => m - (intOf i).toNat)
          case atStart => exact ⟨0, [], rfl, Nat.zero_le _, by simp [joinW], by simp, by simp, HBX.out⟩
          case round =>
            obtain ⟨j, M, rfl, hjm, rfl, hMp, hMs, hBr⟩ := hrel
            have c2 := cell_onG HC2.out hBr
            have HMP := hidK hMp
            have HMS := hidK hMs
            have HBR := hidK hBr
            have hMl : M.length = j := by have := congrArg List.length hMs; rw [List.length_map, List.length_take] at this; have := HM.out; omega
            have hjl := joinW_len M hMp
            have hsm : (M.map fun p => p.2.size).sum ≤ 16777216 := by
              have e : (M.map fun p => p.2.size) = (cs.take j).map ByteArray.size := by rw [← hMs, List.map_map]; rfl
              rw [e]
              have h1 := sizes_sum (L := cs.take j)
              have h2 : sumS (cs.take j) ≤ sumS cs := by
                conv => rhs; rw [← List.take_append_drop j cs]
                rw [sumS_app32]; omega
              have := HNS.out.2
              omega
            obtain ⟨T, hT⟩ : ∃ T, T = T3 ++ joinW M := ⟨_, rfl⟩
            have hTl : T.length ≤ 1073741824 := by rw [hT, List.length_append]; have := HA3.out; omega
            have HT := hidK hT
            rw [← hT]
            clear hMp hMs hBr hMl hjl hsm hT
            by_cases hj : j < m
            · have jI : (j : Int) < (m : Int) := by omega
              have j0 : (0 : Int) ≤ (j : Int) := by omega
              obtain ⟨y, hy⟩ : ∃ y, cs[j]? = some y := ⟨_, List.getElem?_eq_getElem (by have := HM.out; omega)⟩
              obtain ⟨b1, o1, p1, e1, d0⟩ := (HR.out.on HBR.out).tx hy
              have hys : y.size ≤ 16777216 := by have := sumS_mem32 (List.mem_of_getElem? hy); have := HNS.out.2; omega
              have HTK := hidK (takeSucc hy)
              injection e1 with e1 e1b e1c
              subst e1
              obtain ⟨y0, hy0⟩ : ∃ z : Int, IntKind.i64.wrap (x + (j : Int)) = z := ⟨_, rfl⟩
              obtain ⟨y1, hy1⟩ : ∃ z : Int, IntKind.i64.wrap (x + (j : Int) + 1) = z := ⟨_, rfl⟩
              have hw0 : IntKind.i64.wrap (x + (j : Int)) = x + (j : Int) := by rw [IntKind.wrap_i64]; omega
              have hw1 : IntKind.i64.wrap (x + (j : Int) + 1) = x + (j : Int) + 1 := by rw [IntKind.wrap_i64]; omega
              obtain ⟨pB, hpB⟩ : ∃ pB, pB = byB (btw (x + (j : Int) + 1)) := ⟨_, rfl⟩
              have hpl : pB.size ≤ 22 := by rw [hpB, byB_size]; exact pcs_len (btw_mem _)
              have HPB := hidK hpB
              have HB1 : Hid (∀ wx, Calls Tryd.prog 26 #[.int .i64 (x + (j : Int) + 1)] wx fun e w' => e = .returned (.string pB) ∧ w' = wx) := fun wx => by rw [hpB]; exact HBT.out _ wx
              have ht1 : (byB T).size ≤ 1073741824 := by rw [byB_size]; exact hTl
              obtain ⟨a, ha⟩ : ∃ a, (byB T).size = a := ⟨_, rfl⟩
              obtain ⟨b, hb'⟩ : ∃ b, pB.size = b := ⟨_, rfl⟩
              obtain ⟨cc, hc'⟩ : ∃ c, y.size = c := ⟨_, rfl⟩
              have hz : (byB T ++ pB).size = a + b := by rw [ByteArray.size_append, ha, hb']
              have hz1 : ¬ 9223372036854775807 < a + b := by omega
              have hz2 : ¬ 9223372036854775807 < a + b + cc := by omega
              clear hy e1b e1c hpB ht1 hpl hTl hys hy0 hy1
              go_wp2_with fail
              go_quiet (first | (go_at_call 26; exact Calls.quiet_of_same (HB1.out _)) | fail)
              have HBN : Hid (Below W.heap.size W _) := bDrew HBR.out nq
              go_wp2
              go_roundw
              case rel =>
                refine ⟨j + 1, M ++ [(btw (x + (j : Int) + 1), y)], by go_num, by omega, ?_, ?_, ?_, HBN.out⟩
                · have e : T3 ++ joinW (M ++ [(btw (x + (j : Int) + 1), y)]) = T ++ (btw (x + (j : Int) + 1) ++ byL y) := by
                    rw [HT.out]; unfold joinW; rw [List.flatMap_append]; simp
                  rw [e, byB_app, byB_app, byB_byL, ← HPB.out, app3B]
                · intro p hp
                  rcases List.mem_append.1 hp with q | q
                  · exact HMP.out p q
                  · simp at q; subst q; exact btw_mem _
                · rw [List.map_append, HMS.out, HTK.out]; rfl
              case measure => simp [intOf]; omega
            · obtain rfl : j = m := by omega
              have HMS2 : Hid (M.map (·.2) = cs) := by
                have := HMS.out
                rw [List.take_of_length_le (by rw [← HM.out]; exact Nat.le_refl _)] at this
                exact this
              have c0 := cell_onG HC0.out HBR.out
              have e16 := HE16.out
              obtain ⟨a, ha⟩ : ∃ a, (byB T).size = a := ⟨_, rfl⟩
              have hal : a ≤ 1073741824 := by rw [← ha, byB_size]; exact hTl
              clear hTl
              go_upto_if 71 with fail
              go_cut [5] from 71 to 82 (fun s wx => s = .string (byB (T ++ (if pr then [32, 41] else []))) ∧ wx = wr)
              case first =>
                have hz1 : ¬ 9223372036854775807 < a + 2 := by omega
                have hz2 : ¬ 9223372036854775805 < a := by omega
                have hP := HPR.out
                by_cases hm0 : 0 < j
                · have e : pr = vb := by rw [hP]; simp [hm0]
                  have HE := hidK e
                  clear hP e
                  go_wp2
                  go_meet
                  case rel => exact ⟨by rw [HE.out, HVB.out]; first | (simp [byB_app]; done) | (simp [byB_app]; rfl) | (simp [byB_app, n4, n9]; done), rfl⟩
                · have hm1 : j = 0 := by omega
                  by_cases hq0 : 0 < q16
                  · have e : pr = vb := by rw [hP]; simp [hq0]
                    have HE := hidK e
                    clear hP e hm0
                    subst hm1
                    go_wp2
                    go_meet
                    case rel => exact ⟨by rw [HE.out, HVB.out]; first | (simp [byB_app]; done) | (simp [byB_app]; rfl) | (simp [byB_app, n4, n9]; done), rfl⟩
                  · have hq1' : q16 = 0 := by omega
                    have e : pr = false := by rw [hP]; simp [hm1, hq1']
                    have HE := hidK e
                    clear hP e hm0 hq0
                    subst hm1
                    subst hq1'
                    go_wp2
                    go_meet
                    case rel => exact ⟨by rw [HE.out]; simp, rfl⟩
              case rest =>
                obtain ⟨hs5, hwc⟩ := hcut
                obtain ⟨wD, hwD⟩ : ∃ x, x = wc := ⟨_, rfl⟩
                subst hwD
                subst hwc
                obtain ⟨T5, hT5⟩ : ∃ T', T' = T ++ (if pr then [32, 41] else []) := ⟨_, rfl⟩
                rw [← hT5] at hs5
                have HT5 := hidK hT5
                obtain ⟨a5, ha5⟩ : ∃ a, (byB T5).size = a := ⟨_, rfl⟩
                have ha5l : a5 ≤ 1073741826 := by
                  rw [← ha5, byB_size, hT5, List.length_append]
                  have h1 : T.length ≤ 1073741824 := by rw [← byB_size, ha]; exact hal
                  have h2 : (if pr = true then [32, 41] else [] : List UInt8).length ≤ 2 := by split <;> simp
                  omega
                subst hs5
                have e3 := HE3.out
                have hq := HQ3.out
                have all : q3 = 0 ∨ q3 = 1 ∨ q3 = 2 ∨ q3 = 3 := by omega
                have hz1 : ¬ 9223372036854775807 < a5 + 11 := by omega
                have hz2 : ¬ 9223372036854775807 < a5 + 5 := by omega
                have hz3 : ¬ 9223372036854775807 < a5 + 4 := by omega
                have hz4 : ¬ 9223372036854775807 < a5 + 1 := by omega
                clear hT5 hq ha hal c0 e16
                rcases all with rfl | rfl | rfl | rfl
                all_goals
                  go_wp2
                  go_ret
                  first
                    | refine ⟨T5 ++ [32, 59, 32, 114, 101, 109, 97, 114, 107, 10, 10], by rw [byB_app]; rfl, ?_, HB.out.trans (HBR.out.mono HB.out.size)⟩
                    | refine ⟨T5 ++ [42, 32, 43, 32, 10], by rw [byB_app]; rfl, ?_, HB.out.trans (HBR.out.mono HB.out.size)⟩
                    | refine ⟨T5 ++ [44, 43, 10, 10], by rw [byB_app]; rfl, ?_, HB.out.trans (HBR.out.mono HB.out.size)⟩
                    | refine ⟨T5 ++ [10], by rw [byB_app]; rfl, ?_, HB.out.trans (HBR.out.mono HB.out.size)⟩
                  refine wr_mk (pre := pre) (nm := nm) (pr := pr) (M := M) (by rw [HT5.out, HT.out, HT3.out, HT2.out, HT1.out, HV.out]; simp only [List.append_assoc]) HPRE.out HNM.out ?_ ?_ HMP.out HMS2.out (by decide)
                  · intro hp
                    have h1 := HPR.out
                    rw [hp, HVB.out] at h1
                    have h2 := (Bool.and_eq_true _ _).mp h1.symm
                    first | exact .inl rfl | exact .inr rfl | exact of_decide_eq_true h2.1
                  · intro h1 h2
                    have h3 : 0 < cs.length := List.length_pos_iff.2 h2
                    have h4 := HM.out
                    have h5 : vb = true := by rw [HVB.out]; first | exact decide_eq_true h1 | exact decide_eq_true (.inl trivial) | exact decide_eq_true (.inr trivial)
                    rw [HPR.out, h5, Bool.true_and]
                    exact decide_eq_true (.inl (by omega))
end Go.Proofs.YtdamhdceajmdfaaDoor
