
-- Decode, whole.
import Derived.Test.YtdamhdceajmdfaaDoorCQ
import Derived.Test.YtdamhdceajmdfaaDoorCL
import Derived.OwnWalk
namespace Go.Proofs.YtdamhdceajmdfaaDoor
open Go.ChangeShapes Go.WideShapes Go.ChangeAt Go.RowKit Go.MapKept
set_option linter.unusedVariables false
set_option maxRecDepth 100000
set_option linter.unusedSimpArgs false
theorem tokG_count (l : List UInt8) : ∀ w, (tokG w l).length ≤ (if w = [] then 0 else 1) + l.length := by
  have hf : ∀ w : List UInt8, (flushW w).length ≤ if w = [] then 0 else 1 := by
    intro w; unfold flushW; split <;> simp
  induction l with
  | nil => intro w; rw [tokG]; exact hf w
  | cons b r ih =>
    intro w
    rw [tokG]
    have h1 := hf w
    have h2 := ih []
    simp only [List.length_cons, if_true] at h2 ⊢
    split
    · omega
    · split
      · rw [List.length_append]; omega
      · split
        · rw [List.length_append, List.length_cons]; omega
        · have := ih (w ++ [b]); rw [if_neg (by simp)] at this; omega
theorem lnG_tot (l : List UInt8) : ∀ c, ((lnG c l).map List.length).sum ≤ c.length + l.length := by
  induction l with
  | nil => intro c; rw [lnG]; split <;> simp
  | cons b r ih =>
    intro c
    rw [lnG]
    split
    · have := ih []; simp only [List.map_cons, List.sum_cons, List.length_nil, List.length_cons] at this ⊢; omega
    · have := ih (c ++ [b]); rw [List.length_append] at this; simp only [List.length_cons, List.length_nil] at this ⊢; omega
theorem sumS_app (a b : List ByteArray) : sumS (a ++ b) = sumS a + sumS b := by simp [sumS]
theorem cutP_sum (m : List ByteArray) : sumS (cutP m) ≤ sumS m := by
  unfold cutP; split
  · by_cases h : m = []
    · subst h; simp
    · conv => rhs; rw [← List.dropLast_concat_getLast h]
      rw [sumS_app]; omega
  · exact Nat.le_refl _
theorem fold_bound : ∀ (T : List (List UInt8)) (G : List (Nat × List ByteArray)) (ct : Bool) (n a : Nat), (∀ p ∈ G, p.2.length ≤ a ∧ sumS p.2 ≤ 2 * a) → ∀ p ∈ ((T.map tokL).foldl stepC (G, ct, n)).1, p.2.length ≤ a + (T.map List.length).sum ∧ sumS p.2 ≤ 2 * (a + (T.map List.length).sum) := by
  intro T
  induction T with
  | nil => intro G ct n a h p hp; simpa using h p hp
  | cons x T ih =>
    intro G ct n a h p hp
    have h1 := tokG_count x []
    have h2 := tokG_size x []
    have h3 := cutP_len (tokL x)
    have h4 := cutP_sum (tokL x)
    simp only [if_true, List.length_nil] at h1 h2
    rw [List.map_cons, List.foldl_cons] at hp
    have := ih _ _ _ (a + x.length) (fun q hq => ?_) p hp
    · rw [List.map_cons, List.sum_cons]; rw [Nat.add_assoc] at this; exact this
    · have hL : ∀ r ∈ (if ct then G else G ++ [(n + 1, [])]), r.2.length ≤ a ∧ sumS r.2 ≤ 2 * a := by
        intro r hr
        split at hr
        · exact h r hr
        · rcases List.mem_append.1 hr with hr | hr
          · exact h r hr
          · simp at hr; subst hr; simp [sumS]
      unfold stepC at hq
      simp only at hq
      unfold tokL at h3 h4
      obtain ⟨i, hi⟩ := List.getElem?_of_mem hq
      rw [List.getElem?_modify] at hi
      cases hx : (if ct = true then G else G ++ [(n + 1, [])])[i]? with
      | none => rw [hx] at hi; simp at hi
      | some r =>
        rw [hx] at hi
        have hr := hL r (List.mem_of_getElem? hx)
        simp only [Option.map_eq_map, Option.map_some, Option.some.injEq] at hi
        have hq2 : q = r ∨ q = (r.1, r.2 ++ cutP (tokL x)) := by
          by_cases hj : (if ct = true then G else G ++ [(n + 1, [])]).length - 1 = i
          · rw [if_pos hj] at hi; exact .inr hi.symm
          · rw [if_neg hj] at hi; exact .inl hi.symm
        rcases hq2 with rfl | rfl
        · omega
        · have e1 : (r.2 ++ cutP (tokG [] x)).length = r.2.length + (cutP (tokG [] x)).length := List.length_append
          have e2 := sumS_app r.2 (cutP (tokG [] x))
          show (r.2 ++ cutP (tokG [] x)).length ≤ _ ∧ sumS (r.2 ++ cutP (tokG [] x)) ≤ _
          omega
theorem groups_bound (l : List UInt8) : ∀ p ∈ groups ((linesL l).map tokL), p.2.length ≤ l.length ∧ sumS p.2 ≤ 2 * l.length := by
  intro p hp
  have h1 := fold_bound (linesL l) [] false 0 0 (by simp) p hp
  have h2 := lnG_tot l []
  unfold linesL at h1
  simp only [List.length_nil] at h2
  omega
theorem sumS_mem {L : List ByteArray} {x : ByteArray} (h : x ∈ L) : x.size + 1 ≤ sumS L := by
  induction L with
  | nil => simp at h
  | cons y r ih =>
    rw [sumS_cons]
    rcases List.mem_cons.1 h with rfl | h
    · omega
    · have := ih h; omega
theorem RowG.cl {w : World} {v : Value} {P : List Cl} {k n : Nat} {t : List ByteArray} {u : Value} (h : RowG clL w v P) (hx : P[k]? = some ((n, t), u)) : ∃ b off cap, v = .slice (some ⟨b, off, none⟩) P.length cap ∧ w.cell? ⟨b, off + k * 2, none⟩ = some (.int .i64 (n : Nat)) ∧ w.cell? ⟨b, off + k * 2 + 1, none⟩ = some u := by
  obtain ⟨b, off, cap, e, _, _, hc⟩ := RowG.at clL_len h hx
  exact ⟨b, off, cap, e, hc 0 _ rfl, hc 1 _ rfl⟩
def DcRel (w1 : World) (P1 : List Cl) (n : Nat) (s i : Value) (wx : World) : Prop := ∃ (k : Nat) (P' : List (Mr × Value)), i = .int .i64 k ∧ k ≤ n ∧ OwnR w1.heap.size wx s P' ∧ P'.length ≤ k ∧ decG (P1.map (·.1)) [] = decG ((P1.drop k).map (·.1)) (P'.map (·.1)) ∧ Below w1.heap.size w1 wx
theorem infoCl2 : (Tryd.prog.info? 60).map (·.size) = some 2 := by kernel_rfl
set_option maxHeartbeats 16000000 in
theorem decode_c (s : ByteArray) (w : World) (hT : VT w) (hs : s.size ≤ 16777216) :
    Calls Tryd.prog 13 #[.string s] w fun e w' => ∃ v P n k, e = .returned (.tuple #[v, .int .i64 (n : Nat), .int .i64 k]) ∧ OwnR w.heap.size w' v P ∧ decT (byL s) = (P.map (·.1), n, k) ∧ Below w.heap.size w w' := by
  have HL : Hid (Calls Tryd.prog 24 #[.string s] w fun e w' => ∃ v P, e = .returned v ∧ OwnL w.heap.size w' v P ∧ P.map (·.1) = groups ((linesL (byL s)).map tokL) ∧ Below w.heap.size w w') := cmdLines_c s w hs
  have HBD := hidK (groups_bound (byL s))
  have HSZ : Hid ((byL s).length ≤ 16777216) := by show _ ≤ _; rw [byL_size]; exact hs
  have HT := hidK hT
  clear hs hT
  go_enter Tryd.func13, Tryd.ntmps13
  go_upto_region 3 with (go_at_call 24; refine HL.out.mono ?_; rintro e w1 ⟨v1, P1, rfl, o1, e1, b1⟩; obtain ⟨va, vc, hv1, _⟩ := (o1.row.row elC).form; obtain ⟨n, hn⟩ : ∃ n, n = P1.length := ⟨_, rfl⟩; rw [← hn] at hv1; subst hv1; have HN := hidK hn; clear hn)
  have hn := HN.out
  have HO1 := hidK o1
  have HB1 := hidK b1
  have HE1 := hidK e1
  have HTK : Hid (∀ p ∈ P1, p.1.2.length ≤ 16777216 ∧ sumS p.1.2 ≤ 33554432) := fun p hp => by
    have := HBD.out p.1 (by rw [← e1]; exact List.mem_map.2 ⟨p, hp, rfl⟩)
    have := HSZ.out
    omega
  have HNL : Hid (n ≤ 268435456) := by
    show n ≤ _
    have h1 : n = (groups ((linesL (byL s)).map tokL)).length := by rw [← e1, List.length_map]; exact hn
    rw [h1]
    have h2 : ∀ (T : List (List ByteArray)) (G : List (Nat × List ByteArray)) (ct : Bool) (m : Nat), (T.foldl stepC (G, ct, m)).1.length ≤ G.length + T.length := by
      intro T
      induction T with
      | nil => intro G ct m; simp
      | cons x T ih =>
        intro G ct m
        rw [List.foldl_cons]
        refine Nat.le_trans (ih _ _ _) ?_
        simp only [stepC, List.length_modify, List.length_cons]
        split
        · omega
        · rw [List.length_append, List.length_cons, List.length_nil]; omega
    have h3 := h2 ((linesL (byL s)).map tokL) [] false 0
    have h4 : ∀ (l c : List UInt8), (lnG c l).length ≤ l.length + 1 := by
      intro l
      induction l with
      | nil => intro c; rw [lnG]; split <;> simp
      | cons b r ih =>
        intro c
        rw [lnG]
        split
        · have := ih []; simp only [List.length_cons]; omega
        · have := ih (c ++ [b]); simp only [List.length_cons]; omega
    have h5 := h4 (byL s) []
    have := HSZ.out
    unfold groups
    rw [List.length_map, List.length_nil] at h3
    unfold linesL at h3 ⊢
    omega
  clear o1 b1 e1 hn HL HBD
  have hnl : n ≤ 268435456 := HNL.out
  go_loopw [5, 13] (fun s i wx => DcRel w1 P1 n s i wx) (fun _ i _ => n - (intOf i).toNat)
  case atStart => exact ⟨0, [], rfl, Nat.zero_le _, ownR_nil _ _, Nat.le_refl _, rfl, Below.refl _ _⟩
  case round =>
    obtain ⟨k, P', rfl, hkn, hO, hPl, hD, hB⟩ := hrel
    have hBs := hB.size
    have HO := hidK hO
    have HD := hidK hD
    have HB := hidK hB
    have HPL := hidK hPl
    obtain ⟨so, sc, hs3⟩ : ∃ ao cap, u5 = .slice ao P'.length cap := by
      obtain ⟨ao, cap, e, _⟩ := hO.toRow.row.form
      exact ⟨ao, cap, e⟩
    have HS3 := hidK hs3
    clear hO hPl hD hB hs3
    by_cases hk : k < n
    · have kI : (k : Int) < (n : Int) := by omega
      have k0 : (0 : Int) ≤ (k : Int) := by omega
      have hkl : k < P1.length := by have := HN.out; omega
      obtain ⟨⟨⟨ln, t⟩, u⟩, hx⟩ : ∃ x, P1[k]? = some x := ⟨_, List.getElem?_eq_getElem hkl⟩
      have hmem := List.mem_of_getElem? hx
      obtain ⟨b1, o1, p1, e1, d0, d1⟩ := RowG.cl ((HO1.out.row.row elC).on HB.out) hx
      have hT1 := (HO1.out.toks _ hmem).on HB.out
      have hbd := HTK.out _ hmem
      have hdr : (P1.drop k).map (·.1) = (ln, t) :: (P1.drop (k + 1)).map (·.1) := by
        rw [List.drop_eq_getElem_cons hkl, List.map_cons]
        have : P1[k] = ((ln, t), u) := (List.getElem?_eq_some_iff.1 hx).2
        rw [this]
      have HDR := hidK hdr
      simp only [] at hT1 hbd
      have HTT := hidK hT1
      have HBD := hidK hbd
      injection e1 with e1 e1b e1c
      subst e1
      obtain ⟨ua, uc, hu⟩ := hT1.sl
      obtain ⟨m, hm⟩ : ∃ m, m = t.length := ⟨_, rfl⟩
      have HM := hidK hm
      rw [← hm] at hu
      subst hu
      clear hx hkl hmem hT1 hbd hdr e1b e1c hm
      go_upto_region 5 with (refine wpList_store_kz rfl rfl _ _ _ rfl wr.heap.size 0 (.agg #[.int .i64 (ln : Nat), .slice ua m uc]) rfl rfl _ _ #[.int .i64 (ln : Nat), .slice ua m uc] (heap_alloc_new _ _) infoCl2 rfl rfl rfl ?_; intro W4 S4 q4)
      have HB4 : Hid (Below wr.heap.size wr W4) := q4.belowN (bupK (Below.refl _ wr) _) (Nat.le_refl _) (Nat.le_refl _)
      have c0 := cell_rowK S4 0 _ rfl
      have c1 := cell_rowK S4 1 _ rfl
      clear d0 d1 S4 q4
      by_cases hm0 : m = 0
      · have ht : t = [] := List.eq_nil_of_length_eq_zero (by have := HM.out; omega)
        have HNX : Hid (DcRel w1 P1 n u5 (.int .i64 ((k + 1 : Nat) : Int)) W4) := by
          refine ⟨k + 1, P', rfl, by omega, HO.out.on HB4.out, by have := HPL.out; omega, ?_, HB.out.trans (HB4.out.mono hBs)⟩
          rw [HD.out, HDR.out, ht, decG, if_pos rfl]
        subst hm0
        go_wp2
        go_roundw
        case rel => exact HNX.out
        case measure => simp [intOf]; omega
      · obtain ⟨x, r, hxr⟩ : ∃ x r, t = x :: r := by
          cases t with
          | nil => exact absurd HM.out (by simpa using hm0)
          | cons x r => exact ⟨x, r, rfl⟩
        have HCM : Hid (Calls Tryd.prog 25 #[.slice ua m uc] W4 fun e w' => CmSays (cmdA t) W4 e w') := by
          have h1 := HBD.out
          have h2 := (HTT.out.on HB4.out).row
          rw [hxr] at h1 h2 ⊢
          have h3 := sumS_mem (L := x :: r) (x := x) (by simp)
          simp only [List.length_cons] at h1
          exact commandOf_c _ x r W4 (HT.out.up (bel3K HB1.out ((HB.out.trans (HB4.out.mono hBs))))) (by omega) h2 (by omega)
        have htn : t ≠ [] := by rw [hxr]; simp
        have HTN := hidK htn
        have hm1 : ¬ ((m : Int) = 0) := by omega
        clear hxr htn
        go_upto_region 7 with first
          | (go_at_call 25; refine HCM.out.mono ?_; rintro e w2 ⟨hb2, ⟨cv, cn, cs⟩, kk, u2, rfl, hO2, hor⟩; have HB2 := hidK hb2; have HO2 := hidK hO2; have HOR := hidK hor; have g0 := cell_onG c0 hb2; obtain ⟨ca, cc, hu2⟩ := hO2.sl; obtain ⟨cl, hcl⟩ : ∃ m, m = cs.length := ⟨_, rfl⟩; simp only [] at hu2; rw [← hcl] at hu2; subst hu2; clear hb2 hO2 hor c0 c1 hcl)
          | (refine wpList_store_kz rfl rfl _ _ _ rfl w2.heap.size 0 (.agg #[.int .i64 cv, .string cn, .slice ca cl cc]) rfl rfl _ _ #[.int .i64 cv, .string cn, .slice ca cl cc] (heap_alloc_new _ _) info28 rfl rfl rfl ?_; intro W6 S6 q6)
        have HB6 : Hid (Below w2.heap.size w2 W6) := q6.belowN (bupK (Below.refl _ w2) _) (Nat.le_refl _) (Nat.le_refl _)
        have f0 := cell_onG g0 HB6.out
        have f1 := cell_rowK S6 0 _ rfl
        have f2 := cell_rowK S6 1 _ rfl
        have f3 := cell_rowK S6 2 _ rfl
        have HBA : Hid (Below w1.heap.size w1 W6) := HB.out.trans ((HB4.out.trans ((HB2.out.trans (HB6.out.mono HB2.out.size)).mono HB4.out.size)).mono hBs)
        clear g0 S6 q6
        by_cases hk0 : kk = 0
        · have HC : Hid (cmdA t = .inr ⟨cv, cn, cs⟩) := by
            rcases HOR.out with ⟨_, h⟩ | ⟨h, _⟩
            · exact h
            · exact absurd hk0 h
          have HOW : Hid (OwnR w1.heap.size W6 u5 P') := HO.out.on (HB4.out.trans ((HB2.out.trans (HB6.out.mono HB2.out.size)).mono HB4.out.size))
          have HTW : Hid (OwnT w1.heap.size W6 (.slice ca cl cc) cs) := (HO2.out.on HB6.out).le (Nat.le_trans hBs HB4.out.size)
          have HLA : Hid (∀ p ∈ P', ∀ g h, p.2.ownBlock = some g → (Value.slice ca cl cc).ownBlock = some h → g < h) := fun p hp g h hg hh => Nat.lt_of_lt_of_le (own_ltK ((HO.out.names p hp)) g hg) (Nat.le_trans HB4.out.size (own_lo HO2.out h hh))
          have HDN : Hid (∀ v8 : Value, decG (P1.map (·.1)) [] = decG ((P1.drop (k + 1)).map (·.1)) ((P' ++ [((⟨cv, cn, cs⟩ : Mr), Value.slice ca cl cc)]).map (·.1))) := fun _ => by
            rw [HD.out, HDR.out, decG, if_neg HTN.out, HC.out, List.map_append]; rfl
          obtain ⟨pl, hpl⟩ : ∃ m, m = P'.length := ⟨_, rfl⟩
          have hs3 := HS3.out
          rw [← hpl] at hs3
          subst hs3
          subst hk0
          have HPQ := hidK hpl
          clear hpl
          go_wp2_with (refine wpR_one rfl (.tmp 32) (.tmp 34) rfl w1 w1.heap.size (.slice so pl sc) P' ⟨cv, cn, cs⟩ (.slice ca cl cc) rfl rfl HOW.out HTW.out HLA.out (by have h1 := HPL.out; have h2 := HNL.out; omega) (Nat.le_refl _) HBA.out ?_; intro v8 w8 o8 b8 g8)
          go_roundw
          case rel => exact ⟨k + 1, _, by go_num, by omega, o8, by rw [List.length_append]; have := HPL.out; simp only [List.length_cons, List.length_nil]; omega, HDN.out v8, b8⟩
          case measure => simp [intOf]; omega
        · have HC : Hid (cmdA t = .inl kk) := by
            rcases HOR.out with ⟨h, _⟩ | ⟨_, h, _⟩
            · exact absurd h hk0
            · exact h
          have HDN : Hid (decT (byL s) = ([], ln, kk)) := by
            show _ = _
            unfold decT
            rw [← HE1.out, HD.out, HDR.out, decG, if_neg HTN.out, HC.out]
          have HBW : Hid (Below w.heap.size w W6) := bel3K HB1.out HBA.out
          go_wp2_with fail
          go_quiet (fail)
          go_wp2
          refine bodyPost_ret (results_tmp3 rfl _ _ _) rfl ?_
          exact ⟨_, [], ln, kk, rfl, ownR_nil _ _, HDN.out, by first | exact HBW.out | exact belDrew19 HBW.out _⟩
    · obtain rfl : k = n := by omega
      have HF : Hid (decT (byL s) = (P'.map (·.1), 0, 0)) := by
        show _ = _
        unfold decT
        rw [← HE1.out, HD.out, List.drop_of_length_le (by rw [HN.out]; exact Nat.le_refl _)]; rfl
      have HS3b := HS3.out
      subst HS3b
      go_wp2
      refine bodyPost_ret (results_tmp3 rfl _ _ _) rfl ?_
      exact ⟨_, P', 0, 0, rfl, HO.out.le HB1.out.size, HF.out, bel3K HB1.out HB.out⟩
end Go.Proofs.YtdamhdceajmdfaaDoor
