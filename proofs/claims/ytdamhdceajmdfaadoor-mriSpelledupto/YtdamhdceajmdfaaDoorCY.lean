
-- shelflaw19's clean, cleaned.
import Derived.Test.YtdamhdceajmdfaaDoorCX
import Derived.Test.YtdamhdceajmdfaaDoorAQ
namespace Go.Proofs.YtdamhdceajmdfaaDoor
open Go.ChangeShapes Go.WideShapes Go.ChangeAt Go.RowKit Go.MapKept
set_option linter.unusedVariables false
set_option maxRecDepth 100000
set_option linter.unusedSimpArgs false
/-- what clean answers, of its parts -/
def clnB (v : Int) (nb eb lb zb : Bool) : Bool :=
  if v = 1 ∨ v = 2 then nb && zb
  else if v = 3 ∨ v = 5 ∨ v = 6 ∨ v = 7 then eb && lb && !zb
  else if v = 4 ∨ v = 9 then nb && lb
  else if v = 8 ∨ v = 10 ∨ v = 11 ∨ v = 12 ∨ v = 13 then eb && zb
  else false
set_option maxHeartbeats 8000000 in
theorem clean_c (cv : Int) (cn : ByteArray) (cs : List ByteArray) (u : Value) (w : World) (h : RowT w u cs) (hn : sumS cs ≤ 1099511627776) (hm : cn.size ≤ 1099511627776) :
    Calls Tryd.prog 23 #[.agg #[.int .i64 cv, .string cn, u]] w fun e w' => e = .returned (.bool (cleanM ⟨cv, cn, cs⟩)) ∧ Below w.heap.size w w' := by
  obtain ⟨ao, cc, hu⟩ := h.slice
  obtain ⟨m, hm'⟩ : ∃ m, m = cs.length := ⟨_, rfl⟩
  rw [← hm'] at hu
  subst hu
  have hb : Below w.heap.size w (w.alloc (.cells #[.int .i64 cv, .string cn, .slice ao m cc] 28)) := bupK (Below.refl _ _) _
  have HB := hidK hb
  have HN : Hid (∀ w, Calls Tryd.prog 34 #[.string cn] w fun e w' => e = .returned (.bool (cleanN cn)) ∧ w' = w) := fun w => cleanName_c cn w hm
  have HL : Hid (Calls Tryd.prog 35 #[.slice ao m cc] (w.alloc (.cells #[.int .i64 cv, .string cn, .slice ao m cc] 28)) fun e w' => e = .returned (.bool (cs.all cleanN)) ∧ w' = (w.alloc (.cells #[.int .i64 cv, .string cn, .slice ao m cc] 28))) := cleanNames_c _ cs _ (h.on hb) hn
  have HR : Hid (cleanM ⟨cv, cn, cs⟩ = clnB cv (cleanN cn) (byL cn == []) (cs.all cleanN) (decide (m = 0))) := by
    show _ = _
    have : cs.isEmpty = decide (m = 0) := by rw [hm']; cases cs <;> simp
    unfold cleanM clnB
    simp only [this]
  have tl : cn.toList = byL cn := by rw [ByteArray.toList_eq]; rfl
  have he1 : byL cn = [] → (cn.toList == []) = true := fun q => by rw [tl, q]; rfl
  have he2 : byL cn ≠ [] → (cn.toList == []) = false := fun q => by rw [tl]; exact beq_eq_false_iff_ne.2 q
  have HE1 := hidK he1
  have HE2 := hidK he2
  clear h hn hm hm' hb he1 he2
  generalize cleanN cn = nb at HN HR
  generalize cs.all cleanN = lb at HL HR
  have go : ∀ v : Int, cv = v → (v = 1 ∨ v = 2 ∨ v = 3 ∨ v = 4 ∨ v = 5 ∨ v = 6 ∨ v = 7 ∨ v = 8 ∨ v = 9 ∨ v = 10 ∨ v = 11 ∨ v = 12 ∨ v = 13) ∨ (¬ v = 1 ∧ ¬ v = 2 ∧ ¬ v = 3 ∧ ¬ v = 4 ∧ ¬ v = 5 ∧ ¬ v = 6 ∧ ¬ v = 7 ∧ ¬ v = 8 ∧ ¬ v = 9 ∧ ¬ v = 10 ∧ ¬ v = 11 ∧ ¬ v = 12 ∧ ¬ v = 13) := by
    intro v _; omega
  rcases go cv rfl with hv | ⟨n1, n2, n3, n4, n5, n6, n7, n8, n9, n10, n11, n12, n13⟩
  · clear go
    rcases hv with rfl | rfl | rfl | rfl | rfl | rfl | rfl | rfl | rfl | rfl | rfl | rfl | rfl
    all_goals
      cases nb <;> cases lb <;> by_cases h0 : byL cn = []
      all_goals
        have e0 := (by first | exact HE1.out h0 | exact HE2.out h0 : (cn.toList == []) = _)
        have e1 := (by first | exact (by rw [h0]; rfl : (byL cn == []) = true) | exact beq_eq_false_iff_ne.2 h0 : (byL cn == []) = _)
        rw [e1] at HR
        clear h0 tl HE1 HE2 e1
        go_enter Tryd.func23, Tryd.ntmps23
        go_wp2_with (first
          | (go_at_call 34; refine (HN.out _).mono ?_; rintro e w2 ⟨rfl, h2⟩; rw [h2]; clear h2)
          | (go_at_call 35; refine HL.out.mono ?_; rintro e w2 ⟨rfl, h2⟩; rw [h2]; clear h2))
        go_ret
        exact ⟨by rw [HR.out]; (simp [clnB] <;> by_cases q : m = 0 <;> simp [q] <;> omega), HB.out⟩
  · have HR2 : Hid (cleanM ⟨cv, cn, cs⟩ = false) := by
      show _ = _
      rw [HR.out]; unfold clnB
      rw [if_neg (by omega), if_neg (by omega), if_neg (by omega), if_neg (by omega)]
    clear HR go HE1 HE2 tl
    go_enter Tryd.func23, Tryd.ntmps23
    go_wp2_with (first
      | (go_at_call 34; refine (HN.out _).mono ?_; rintro e w2 ⟨rfl, h2⟩; rw [h2]; clear h2)
      | (go_at_call 35; refine HL.out.mono ?_; rintro e w2 ⟨rfl, h2⟩; rw [h2]; clear h2))
    go_ret
    exact ⟨by rw [HR2.out]; rfl, HB.out⟩
def CdRel (w : World) (P : List (Mr × Value)) (n : Nat) (s i : Value) (wx : World) : Prop := ∃ (k : Nat) (P' : List (Mr × Value)), i = .int .i64 k ∧ k ≤ n ∧ OwnF (fun b => w.heap.size ≤ b) mrL 3 28 wx s P' ∧ P' = (P.take k).filter (fun p => cleanM p.1) ∧ Below w.heap.size w wx
theorem infoMr3 : (Tryd.prog.info? 28).map (·.size) = some 3 := by kernel_rfl
set_option maxHeartbeats 8000000 in
theorem cleaned_c (v : Value) (P : List (Mr × Value)) (w : World) (h : RowR w v P) (ht : totR (P.map (·.1)) ≤ 16777216) :
    Calls Tryd.prog 12 #[v] w fun e w' => ∃ v' P', e = .returned v' ∧ RowR w' v' P' ∧ P'.map (·.1) = (P.map (·.1)).filter cleanM ∧ (∀ p ∈ P', p ∈ P) ∧ Below w.heap.size w w' := by
  obtain ⟨a1, c1, q1, _, _⟩ := h.row.form
  obtain ⟨n, hnn⟩ : ∃ n, n = P.length := ⟨_, rfl⟩
  subst q1
  have HV := hidK h
  have HN := hidK hnn
  have HTT := hidK ht
  have hlen := totR_len (P.map (·.1))
  rw [List.length_map] at hlen
  have hl : n ≤ 16777216 := by omega
  rw [← hnn] at HV ⊢
  clear h hnn hlen ht
  go_enter Tryd.func12, Tryd.ntmps12
  go_wp2
  go_loopw [3, 4] (fun s i wx => CdRel w P n s i wx) (fun _ i _ => n - (intOf i).toNat)
  case atStart => exact ⟨0, [], rfl, Nat.zero_le _, OwnF.nil, rfl, Below.refl _ _⟩
  case round =>
    obtain ⟨k, P', rfl, hkn, hO, hPe, hB⟩ := hrel
    have hBs := hB.size
    have HB := hidK hB
    have HPE := hidK hPe
    have HO := hidK hO
    obtain ⟨so, sc, hs3, hsl⟩ := hO.form
    have hPl : P'.length ≤ k := by rw [hPe]; refine Nat.le_trans (List.length_filter_le _ _) ?_; rw [List.length_take]; omega
    have HPL := hidK hPl
    obtain ⟨pl, hpl⟩ : ∃ m, m = P'.length := ⟨_, rfl⟩
    have HQL := hidK hpl
    rw [← hpl] at hs3
    subst hs3
    clear hO hPe hB hPl hpl hsl
    by_cases hk : k < n
    · have kI : (k : Int) < (n : Int) := by omega
      have k0 : (0 : Int) ≤ (k : Int) := by omega
      have hkl : k < P.length := by have := HN.out; omega
      obtain ⟨⟨⟨vv, nn, ns⟩, uu⟩, hx⟩ : ∃ x, P[k]? = some x := ⟨_, List.getElem?_eq_getElem hkl⟩
      have hx2 : (P.map (·.1))[k]? = some ⟨vv, nn, ns⟩ := by rw [List.getElem?_map, hx]; rfl
      have hm := totR_mem hx2
      have hsz : nn.size ≤ 16777216 ∧ sumS ns ≤ 16777216 := by have := HTT.out; unfold szM at hm; simp only at hm; omega
      obtain ⟨b1, o1, p1, e1, d0, d1, d2⟩ := (HV.out.on HB.out).at hx
      have hNm := (HV.out.on HB.out).names _ (List.mem_of_getElem? hx)
      simp only [] at d0 d1 d2 hNm
      obtain ⟨ao, cap, hu⟩ := hNm.slice
      have HC : Hid (Calls Tryd.prog 23 #[.agg #[.int .i64 vv, .string nn, uu]] wr fun e w' => e = .returned (.bool (cleanM ⟨vv, nn, ns⟩)) ∧ Below wr.heap.size wr w') := clean_c vv nn ns uu wr hNm (by omega) (by omega)
      have HTK := hidK (takeSucc hx)
      injection e1 with e1 e1b e1c
      subst e1
      obtain ⟨m, hm'⟩ : ∃ m, m = ns.length := ⟨_, rfl⟩
      rw [← hm'] at hu
      subst hu
      clear hx hx2 hkl hm hsz e1b e1c hNm hm'
      cases hcl : cleanM ⟨vv, nn, ns⟩
      · rw [hcl] at HC
        have HNX : Hid ((P.take (k + 1)).filter (fun p => cleanM p.1) = (P.take k).filter (fun p => cleanM p.1)) := by show _ = _; rw [HTK.out, List.filter_append]; simp [hcl]
        clear hcl
        go_wp2_with (go_at_call 23; refine HC.out.mono ?_; rintro e w2 ⟨rfl, b2⟩; have HB2 := hidK b2; clear b2)
        go_roundw
        case rel => exact ⟨k + 1, P', by go_num, by omega, HO.out.on HB2.out, by rw [HNX.out]; exact HPE.out, HB.out.trans (HB2.out.mono hBs)⟩
        case measure => simp [intOf]; omega
      · rw [hcl] at HC
        have HNX : Hid ((P.take (k + 1)).filter (fun p => cleanM p.1) = (P.take k).filter (fun p => cleanM p.1) ++ [(⟨vv, nn, ns⟩, .slice ao m cap)]) := by show _ = _; rw [HTK.out, List.filter_append]; simp [hcl]
        clear hcl
        go_upto_region 7 with (go_at_call 23; refine HC.out.mono ?_; rintro e w2 ⟨rfl, b2⟩; have HB2 := hidK b2; have g0 := cell_onG d0 b2; have g1 := cell_onG d1 b2; have g2 := cell_onG d2 b2; clear b2 d0 d1 d2)
        have HO2 := hidK (HO.out.on HB2.out)
        go_wp2_with (refine wpG_one (F := fun b => w.heap.size ≤ b) elR rfl (.tmp 18) (.tmp 23) rfl (.slice so pl sc) P' ((⟨vv, nn, ns⟩ : Mr), Value.slice ao m cap) #[.int .i64 vv, .string nn, .slice ao m cap] rfl rfl rfl HO2.out (by intro q hq; simp only [mrL, List.mem_cons, List.not_mem_nil, or_false] at hq; rcases hq with rfl | rfl | rfl <;> rfl) (by have := HPL.out; omega) (fun b hb => Nat.le_trans hBs (Nat.le_trans HB2.out.size hb)) ?_; intro v8 w8 o8 k8 n8)
        go_roundw
        case rel => exact ⟨k + 1, _, by go_num, by omega, o8, by rw [HNX.out, ← HPE.out], (HB.out.trans (HB2.out.mono hBs)).trans (k8.below (fun g hg => HO2.out.2 g hg) (Nat.le_trans hBs HB2.out.size))⟩
        case measure => simp [intOf]; omega
    · obtain rfl : k = n := by omega
      have HF : Hid (P' = P.filter (fun p => cleanM p.1)) := by
        show _ = _
        rw [HPE.out, List.take_of_length_le (by rw [HN.out]; exact Nat.le_refl _)]
      go_wp2
      go_ret
      refine ⟨_, P', rfl, ⟨HO.out.row elR, fun p hp => ?_⟩, ?_, fun p hp => ?_, HB.out⟩
      · rw [HF.out] at hp
        exact (HV.out.names p (List.mem_filter.1 hp).1).on HB.out
      · rw [HF.out, List.filter_map]; rfl
      · rw [HF.out] at hp; exact (List.mem_filter.1 hp).1
end Go.Proofs.YtdamhdceajmdfaaDoor
