
-- The document's Encode, kind 2.
import Derived.Test.YtmlnnbinbbmmhaaDoorRE
namespace Go.Proofs.YtmlnnbinbbmmhaaDoor
open Go.ChangeShapes Go.WideShapes Go.ChangeAt Go.RowKit
set_option linter.unusedVariables false
set_option maxRecDepth 100000

set_option maxHeartbeats 4000000 in
theorem renc_2 (lv : Value) (LL : List ByteArray) (w : World) (m : Nat) (hr : RowS w lv LL) (hn : LL.length ≤ 1100000) (hz : ∀ j, j < LL.length → (LL.getD j .empty).size ≤ 1100000) (htab : ∀ j, (tabL 2 ((LL.map (·.data.toList)).take j)).length ≤ 4000000) (hT : Tabs w)
    (hm : m ≤ LL.length) (hv : ∀ j, j < m → validL (LL.getD j .empty).data.toList = true) (hv2 : m < LL.length → validL (LL.getD m .empty).data.toList = false) :
    Calls Tryd.prog 34 #[.int .i64 2, lv] w fun e w' => (m = LL.length → REncDone 2 (LL.map (·.data.toList)) w e w') ∧ (m < LL.length → REncNo 80 w e w') := by
  obtain ⟨i9, hi9, hz9, hs9, hb9⟩ := info_parts info9R
  obtain ⟨i5, hi5, hz5, hs5, hb5⟩ := info_parts info5R
  obtain ⟨ao, cap, rfl, hcell⟩ := hr.get
  obtain ⟨n, hnn⟩ : ∃ n, n = LL.length := ⟨_, rfl⟩
  have HN := hidK hnn
  have HC := hidK hcell
  have HZ := hidK hz
  have HTAB := hidK htab
  have HV := hidK hv
  have HV2 := hidK hv2
  have HI : Hid (∀ (v : Nat) (wx : World), Below w.heap.size w wx → v ≤ 4000000 → Calls Tryd.prog 54 #[.int .i64 v] wx fun e w' => e = .returned (.string (strL (dg 10 v))) ∧ Below wx.heap.size wx w') := fun v wx hb hv => itoa_c v wx (by omega) (hT.on hb)
  obtain ⟨L, hL⟩ : ∃ L, L = LL.map (·.data.toList) := ⟨_, rfl⟩
  have HL := hidK hL
  rw [← hL, ← hnn]
  rw [← hL] at htab
  have hlen : L.length = n := by rw [hL, List.length_map, hnn]
  have HLEN := hidK hlen
  have hn' : n ≤ 1100000 := by omega
  have hm' : m ≤ n := by omega
  have h0 : (((w.alloc (.cells #[.slice none 0 0, .slice none 0 0, .string ⟨#[]⟩] 36)).alloc (.cells #[.slice none 0 0, .slice none 0 0, .string ⟨#[]⟩] 36)).alloc (.cells #[.slice none 0 0, .slice none 0 0, .string ⟨#[]⟩] 36)).heap[w.heap.size]? = some (.cells #[.slice none 0 0, .slice none 0 0, .string ⟨#[]⟩] 36 (0, 0)) := hupK (hupK (heap_alloc_new w _) _) _
  have h1 : (((w.alloc (.cells #[.slice none 0 0, .slice none 0 0, .string ⟨#[]⟩] 36)).alloc (.cells #[.slice none 0 0, .slice none 0 0, .string ⟨#[]⟩] 36)).alloc (.cells #[.slice none 0 0, .slice none 0 0, .string ⟨#[]⟩] 36)).heap[w.heap.size + 1]? = some (.cells #[.slice none 0 0, .slice none 0 0, .string ⟨#[]⟩] 36 (0, 0)) := hupK (heap_new2K w _ _) _
  have h2 : (((w.alloc (.cells #[.slice none 0 0, .slice none 0 0, .string ⟨#[]⟩] 36)).alloc (.cells #[.slice none 0 0, .slice none 0 0, .string ⟨#[]⟩] 36)).alloc (.cells #[.slice none 0 0, .slice none 0 0, .string ⟨#[]⟩] 36)).heap[w.heap.size + 1 + 1]? = some (.cells #[.slice none 0 0, .slice none 0 0, .string ⟨#[]⟩] 36 (0, 0)) := heap_new3K w _ _ _
  have hB0 : Below w.heap.size w (((w.alloc (.cells #[.slice none 0 0, .slice none 0 0, .string ⟨#[]⟩] 36)).alloc (.cells #[.slice none 0 0, .slice none 0 0, .string ⟨#[]⟩] 36)).alloc (.cells #[.slice none 0 0, .slice none 0 0, .string ⟨#[]⟩] 36)) := bupK (bupK (bupK (Below.refl _ _) _) _) _
  have HS0 : Hid (REnc 2 L w 0 (.slice none 0 0) (((w.alloc (.cells #[.slice none 0 0, .slice none 0 0, .string ⟨#[]⟩] 36)).alloc (.cells #[.slice none 0 0, .slice none 0 0, .string ⟨#[]⟩] 36)).alloc (.cells #[.slice none 0 0, .slice none 0 0, .string ⟨#[]⟩] 36))) := ⟨none, 0, 0, none, 0, 0, none, 0, 0, rfl, rfl, h0, h1, h2, ⟨rfl, .inl ⟨rfl, rfl⟩⟩, ⟨rfl, .inl ⟨rfl, rfl⟩⟩, ⟨rfl, .inl ⟨rfl, rfl⟩⟩, fun g hg => by simp [Value.ownBlock] at hg, hB0⟩
  clear hcell hr hz hn hnn htab hT hm hv hv2 hL hlen h0 h1 h2 hB0
  go_enter Tryd.func34, Tryd.ntmps34
  go_wp2
  go_loopw [8, 9] (fun tv i wx => ∃ j : Nat, j ≤ m ∧ i = .int .i64 j ∧ REnc 2 L w j tv wx) (fun _ i _ => n - (intOf i).toNat)
  case atStart => exact ⟨0, Nat.zero_le _, rfl, HS0.out⟩
  case round =>
    obtain ⟨j, hj, rfl, fa, fl, fc, ia, il, ic, ta, tl, tc, rfl, htl, R0, R1, R2, OF, OI, OT, hne, hB⟩ := hrel
    rename World => wx
    clear HS0
    have hl2 : w.heap.size + 1 + 1 < wx.heap.size := (Array.getElem?_eq_some_iff.1 R2).1
    by_cases hjn : j < n
    · obtain ⟨s, hs⟩ : ∃ s, LL.getD j .empty = s := ⟨_, rfl⟩
      obtain ⟨b, off, rfl, hb, hc⟩ := HC.out j (by have := HN.out; omega)
      rw [hs] at hc
      have hcx : wx.cell? ⟨b, off + j, none⟩ = some (.string s) := (hB.cell (p := ⟨b, off + j, none⟩) hb).trans hc
      have hjI : (j : Int) < (n : Int) := by omega
      have hj0 : (0 : Int) ≤ (j : Int) := by omega
      have hsz : s.size ≤ 1100000 := by rw [← hs]; exact HZ.out j (by have := HN.out; omega)
      have hat := fAt_at 2 LL j s hs (by have := HN.out; omega)
      rw [← HL.out] at hat
      have HAT := hidK hat
      have htj : (tabL 2 (L.take j)).length ≤ 4000000 := by have := HTAB.out j; rw [← HL.out] at this; exact this
      have htlb : tl ≤ 4000000 := by rw [htl]; exact htj
      have HTL := hidK htl
      have hslen : s.data.toList.length = s.size := by simp
      have HSL := hidK hslen
      have HVs : Hid (∀ w', Calls Tryd.prog 52 #[.string s] w' fun e w'' => e = .returned (.bool (validL s.data.toList)) ∧ w'' = w') := fun w' => rvalid_c s w' (by unfold maxLen; omega)
      have HTs : Hid (∀ w', Calls Tryd.prog 53 #[.int .i64 2, .string s] w' fun e w'' => e = .returned (.bool (decide (inTab 2 s.data.toList))) ∧ w'' = w') := fun w' => rintab_c 2 (by decide) s w'
      have HPs : Hid (∀ w', Calls Tryd.prog 55 #[.string s] w' fun e w'' => e = .returned (.bool (ownB s.data.toList)) ∧ w'' = w') := fun w' => rplain_c s w' (by unfold maxLen; omega)
      have ROW := hidK (And.intro R0 (And.intro R1 (And.intro R2 (And.intro OF (And.intro OI (And.intro OT (And.intro hne hB)))))))
      have z0 := cell_rowK R1 0 _ rfl
      have z1 := cell_rowK R1 1 _ rfl
      have z2 := cell_rowK R1 2 _ rfl
      have o0 := cell_rowK R2 0 _ rfl
      have o1 := cell_rowK R2 1 _ rfl
      by_cases hjm : j < m
      · have hval : validL s.data.toList = true := by rw [← hs]; exact HV.out j hjm
        rw [hval] at HVs
        have HJM := hidK hjm
        clear hs hc hb hat hslen hval R0 R1 OI OT hne htl htj hB OF R2
        have hit : ¬ inTab 2 s.data.toList := fun q => q.1 rfl
        rw [decide_eq_false hit] at HTs
        by_cases hown : ownB s.data.toList = true
        · have HFE : Hid (∀ t, fieldOf 2 s.data.toList t = s.data.toList) := fun t => by unfold fieldOf; rw [if_pos rfl, if_pos hown]
          have HIE : Hid (inlOf 2 s.data.toList = []) := by show inlOf 2 s.data.toList = []; unfold inlOf; rw [if_neg (fun q => by rw [hown] at q; exact absurd q.2 (by decide))]
          have HTE : Hid (tabOf 2 s.data.toList = []) := by show tabOf 2 s.data.toList = []; unfold tabOf; rw [if_neg hit]
          rw [hown] at HPs
          clear hit hown
          obtain ⟨R0_0, R1_0, R2_0, OF0, OI0, OT0, hne, hB0⟩ := ROW.out
          rw [← HTL.out] at OT0
          have o0_0 := cell_rowK R2_0 0 _ rfl
          have o1_0 := cell_rowK R2_0 1 _ rfl
          clear ROW
          go_wp2_with first
            | (go_at_call 52; refine (HVs.out _).mono ?_; rintro e wa ⟨rfl, hwa⟩; subst wa)
            | (go_at_call 53; refine (HTs.out _).mono ?_; rintro e wa ⟨rfl, hwa⟩; subst wa)
            | (go_at_call 55; refine (HPs.out _).mono ?_; rintro e wa ⟨rfl, hwa⟩; subst wa)
            | (have R0_0x := hupK R0_0 (.cells #[.string s] 9); have R1_0x := hupK R1_0 (.cells #[.string s] 9); have R2_0x := hupK R2_0 (.cells #[.string s] 9); have hB0x := bupK hB0 (.cells #[.string s] 9); have OFx := own_upK OF0 (.cells #[.string s] 9); refine wpList_append_own_at _ rfl (.tmp 80) (.tmp 82) 34 rfl w.heap.size 9 i9 (.string ⟨#[]⟩) 1 16 Tryd.underlying34 hi9 hz9 hs9 hb9 rfl (by decide) (.slice fa fl fc) j _ rfl OFx ⟨wx.heap.size, 0, none⟩ 1 1 [.string s] rfl rfl (new_rowK wx #[.string s] 9 _ rfl) (by intro u hu; simp at hu; subst hu; rfl) (by unfold maxLen; omega) (by omega) hB0x.size ?_; intro v1 w1' of1 hg1 _ hat1; obtain ⟨fa1, fl1, fc1, rfl⟩ := own_sliceR of1; have R0_1 := row_ne R0_0x OFx (by decide) hg1; have R1_1 := row_ne R1_0x OFx (by decide) hg1; have R2_1 := row_ne R2_0x OFx (by decide) hg1; have hB1 := below_grow hB0x hg1 OFx (Nat.le_refl _); have o0_1 := cell_rowK R2_1 0 _ rfl; have o1_1 := cell_rowK R2_1 1 _ rfl; have hneI : ∀ g, (Value.slice ia il ic).ownBlock = some g → (Value.slice fa fl fc).ownBlock ≠ some g := fun g h1 h2 => hne g h2 h1; have hneF : ∀ g, (Value.slice fa1 fl1 fc1).ownBlock = some g → (Value.slice ia il ic).ownBlock ≠ some g := ne_at hat1 hne (own_ltK OI0); have OI1 := own_ne (own_upK OI0 (.cells #[.string s] 9)) hneI hg1; have OT1 := own_ne (own_upK OT0 (.cells #[.string s] 9)) (own_ty (own_upK OT0 (.cells #[.string s] 9)) OFx (by decide)) hg1; have OF1 := of1)
            | (refine wpList_store_kz rfl rfl _ _ _ rfl (w.heap.size + 1 + 1) 0 (.slice fa1 fl1 fc1) rfl rfl _ _ #[.slice fa1 fl1 fc1, .slice ia il ic, .string ⟨#[]⟩] R2_1 (by kernel_rfl) rfl rfl rfl ?_; intro W2 R2_2 q2; have R0_2 := q2.keeps (by omega) R0_1; have R1_2 := q2.keeps (by omega) R1_1; have OF2 := own_kqK OF1 q2 R2_1 (by decide); have OI2 := own_kqK OI1 q2 R2_1 (by decide); have OT2 := own_kqK OT1 q2 R2_1 (by decide); have hB2 := q2.belowN hB1 (by omega) (Nat.le_refl _); have o1_2 := cell_rowK R2_2 1 _ rfl)
            | (have R0_2x := hupK R0_2 (.cells #[.string ⟨#[]⟩] 9); have R1_2x := hupK R1_2 (.cells #[.string ⟨#[]⟩] 9); have R2_2x := hupK R2_2 (.cells #[.string ⟨#[]⟩] 9); have hB2x := bupK hB2 (.cells #[.string ⟨#[]⟩] 9); have OIx := own_upK OI2 (.cells #[.string ⟨#[]⟩] 9); refine wpList_append_own_at _ rfl (.tmp 86) (.tmp 88) 34 rfl w.heap.size 9 i9 (.string ⟨#[]⟩) 1 16 Tryd.underlying34 hi9 hz9 hs9 hb9 rfl (by decide) (.slice ia il ic) j _ rfl OIx ⟨W2.heap.size, 0, none⟩ 1 1 [.string ⟨#[]⟩] rfl rfl (new_rowK W2 #[.string ⟨#[]⟩] 9 _ rfl) (by intro u hu; simp at hu; subst hu; rfl) (by unfold maxLen; omega) (by omega) hB2x.size ?_; intro v3 w3' oi3 hg3 _ hat3; obtain ⟨ia3, il3, ic3, rfl⟩ := own_sliceR oi3; have R0_3 := row_ne R0_2x OIx (by decide) hg3; have R1_3 := row_ne R1_2x OIx (by decide) hg3; have R2_3 := row_ne R2_2x OIx (by decide) hg3; have hB3 := below_grow hB2x hg3 OIx (Nat.le_refl _); have o0_3 := cell_rowK R2_3 0 _ rfl; have o1_3 := cell_rowK R2_3 1 _ rfl; have hneZ : ∀ g, (Value.slice fa1 fl1 fc1).ownBlock = some g → (Value.slice ia3 il3 ic3).ownBlock ≠ some g := ne_at2 hat3 hneF (own_ltK OF2); have OF3 := own_ne (own_upK OF2 (.cells #[.string ⟨#[]⟩] 9)) hneF hg3; have OT3 := own_ne (own_upK OT2 (.cells #[.string ⟨#[]⟩] 9)) (own_ty (own_upK OT2 (.cells #[.string ⟨#[]⟩] 9)) OIx (by decide)) hg3; have OI3 := oi3)
            | (refine wpList_store_kz rfl rfl _ _ _ rfl (w.heap.size + 1 + 1) 1 (.slice ia3 il3 ic3) rfl rfl _ _ #[.slice fa1 fl1 fc1, .slice ia3 il3 ic3, .string ⟨#[]⟩] R2_3 (by kernel_rfl) rfl rfl rfl ?_; intro W4 R2_4 q4; have R0_4 := q4.keeps (by omega) R0_3; have R1_4 := q4.keeps (by omega) R1_3; have OF4 := own_kqK OF3 q4 R2_3 (by decide); have OI4 := own_kqK OI3 q4 R2_3 (by decide); have OT4 := own_kqK OT3 q4 R2_3 (by decide); have hB4 := q4.belowN hB3 (by omega) (Nat.le_refl _))
          go_roundw
          case rel =>
            obtain ⟨hA1, hA2, hA3⟩ := HAT.out
            refine ⟨j + 1, HJM.out, by go_num, fa1, fl1, fc1, ia3, il3, ic3, _, _, _, rfl, ?_, R0_4, R1_4, R2_4, ?_, ?_, ?_, hneZ, hB4⟩
            · rw [hA3, HTE.out, List.append_nil]; exact HTL.out
            · rw [strRow_succ, hA1, HFE.out, strL_self]; exact OF4
            · rw [strRow_succ, hA2, HIE.out]; exact OI4
            · rw [hA3, HTE.out, List.append_nil, ← HTL.out]; exact OT4
          case measure => simp [intOf]; omega
        · have hown' : ownB s.data.toList = false := by simpa using hown
          have HFE : Hid (∀ t, fieldOf 2 s.data.toList t = [35, 49, 47] ++ dg 10 s.size) := fun t => by unfold fieldOf; rw [if_pos rfl, if_neg hown, HSL.out]
          have HIE : Hid (inlOf 2 s.data.toList = s.data.toList) := by show inlOf 2 s.data.toList = s.data.toList; unfold inlOf; rw [if_pos ⟨rfl, hown'⟩]
          have HTE : Hid (tabOf 2 s.data.toList = []) := by show tabOf 2 s.data.toList = []; unfold tabOf; rw [if_neg hit]
          rw [hown'] at HPs
          clear hown hown' hit
          obtain ⟨R0_0, R1_0, R2_0, OF0, OI0, OT0, hne, hB0⟩ := ROW.out
          rw [← HTL.out] at OT0
          have o0_0 := cell_rowK R2_0 0 _ rfl
          have o1_0 := cell_rowK R2_0 1 _ rfl
          clear ROW
          go_wp2_with first
            | (go_at_call 52; refine (HVs.out _).mono ?_; rintro e wa ⟨rfl, hwa⟩; subst wa)
            | (go_at_call 53; refine (HTs.out _).mono ?_; rintro e wa ⟨rfl, hwa⟩; subst wa)
            | (go_at_call 55; refine (HPs.out _).mono ?_; rintro e wa ⟨rfl, hwa⟩; subst wa)
            | (go_at_call 54; refine (HI.out s.size _ hB0 (by omega)).mono ?_; rintro e w1 ⟨rfl, hb1⟩; have R0_1 := hkeepK hb1 R0_0; have R1_1 := hkeepK hb1 R1_0; have R2_1 := hkeepK hb1 R2_0; have OF1 := own_onK OF0 hb1; have OI1 := own_onK OI0 hb1; have OT1 := own_onK OT0 hb1; have hB1 := bel3K hB0 hb1; have hdl : (strL (dg 10 s.size)).size ≤ 13 := dg_str s.size (by omega); obtain ⟨d, hd⟩ : ∃ d, d = strL (dg 10 s.size) := ⟨_, rfl⟩; rw [← hd]; rw [← hd] at hdl; have HD := hidK hd; clear hd; have o0_1 := cell_rowK R2_1 0 _ rfl; have o1_1 := cell_rowK R2_1 1 _ rfl)
            | (have R0_1x := hupK R0_1 (.cells #[.string (⟨#[35, 49, 47]⟩ ++ d)] 9); have R1_1x := hupK R1_1 (.cells #[.string (⟨#[35, 49, 47]⟩ ++ d)] 9); have R2_1x := hupK R2_1 (.cells #[.string (⟨#[35, 49, 47]⟩ ++ d)] 9); have hB1x := bupK hB1 (.cells #[.string (⟨#[35, 49, 47]⟩ ++ d)] 9); have OFx := own_upK OF1 (.cells #[.string (⟨#[35, 49, 47]⟩ ++ d)] 9); refine wpList_append_own_at _ rfl (.tmp 80) (.tmp 82) 34 rfl w.heap.size 9 i9 (.string ⟨#[]⟩) 1 16 Tryd.underlying34 hi9 hz9 hs9 hb9 rfl (by decide) (.slice fa fl fc) j _ rfl OFx ⟨w1.heap.size, 0, none⟩ 1 1 [.string (⟨#[35, 49, 47]⟩ ++ d)] rfl rfl (new_rowK w1 #[.string (⟨#[35, 49, 47]⟩ ++ d)] 9 _ rfl) (by intro u hu; simp at hu; subst hu; rfl) (by unfold maxLen; omega) (by omega) hB1x.size ?_; intro v2 w2' of2 hg2 _ hat2; obtain ⟨fa2, fl2, fc2, rfl⟩ := own_sliceR of2; have R0_2 := row_ne R0_1x OFx (by decide) hg2; have R1_2 := row_ne R1_1x OFx (by decide) hg2; have R2_2 := row_ne R2_1x OFx (by decide) hg2; have hB2 := below_grow hB1x hg2 OFx (Nat.le_refl _); have o0_2 := cell_rowK R2_2 0 _ rfl; have o1_2 := cell_rowK R2_2 1 _ rfl; have hneI : ∀ g, (Value.slice ia il ic).ownBlock = some g → (Value.slice fa fl fc).ownBlock ≠ some g := fun g h1 h2 => hne g h2 h1; have hneF : ∀ g, (Value.slice fa2 fl2 fc2).ownBlock = some g → (Value.slice ia il ic).ownBlock ≠ some g := ne_at hat2 hne (own_ltK OI1); have OI2 := own_ne (own_upK OI1 (.cells #[.string (⟨#[35, 49, 47]⟩ ++ d)] 9)) hneI hg2; have OT2 := own_ne (own_upK OT1 (.cells #[.string (⟨#[35, 49, 47]⟩ ++ d)] 9)) (own_ty (own_upK OT1 (.cells #[.string (⟨#[35, 49, 47]⟩ ++ d)] 9)) OFx (by decide)) hg2; have OF2 := of2)
            | (refine wpList_store_kz rfl rfl _ _ _ rfl (w.heap.size + 1 + 1) 0 (.slice fa2 fl2 fc2) rfl rfl _ _ #[.slice fa2 fl2 fc2, .slice ia il ic, .string ⟨#[]⟩] R2_2 (by kernel_rfl) rfl rfl rfl ?_; intro W3 R2_3 q3; have R0_3 := q3.keeps (by omega) R0_2; have R1_3 := q3.keeps (by omega) R1_2; have OF3 := own_kqK OF2 q3 R2_2 (by decide); have OI3 := own_kqK OI2 q3 R2_2 (by decide); have OT3 := own_kqK OT2 q3 R2_2 (by decide); have hB3 := q3.belowN hB2 (by omega) (Nat.le_refl _); have o1_3 := cell_rowK R2_3 1 _ rfl)
            | (have R0_3x := hupK R0_3 (.cells #[.string s] 9); have R1_3x := hupK R1_3 (.cells #[.string s] 9); have R2_3x := hupK R2_3 (.cells #[.string s] 9); have hB3x := bupK hB3 (.cells #[.string s] 9); have OIx := own_upK OI3 (.cells #[.string s] 9); refine wpList_append_own_at _ rfl (.tmp 86) (.tmp 88) 34 rfl w.heap.size 9 i9 (.string ⟨#[]⟩) 1 16 Tryd.underlying34 hi9 hz9 hs9 hb9 rfl (by decide) (.slice ia il ic) j _ rfl OIx ⟨W3.heap.size, 0, none⟩ 1 1 [.string s] rfl rfl (new_rowK W3 #[.string s] 9 _ rfl) (by intro u hu; simp at hu; subst hu; rfl) (by unfold maxLen; omega) (by omega) hB3x.size ?_; intro v4 w4' oi4 hg4 _ hat4; obtain ⟨ia4, il4, ic4, rfl⟩ := own_sliceR oi4; have R0_4 := row_ne R0_3x OIx (by decide) hg4; have R1_4 := row_ne R1_3x OIx (by decide) hg4; have R2_4 := row_ne R2_3x OIx (by decide) hg4; have hB4 := below_grow hB3x hg4 OIx (Nat.le_refl _); have o0_4 := cell_rowK R2_4 0 _ rfl; have o1_4 := cell_rowK R2_4 1 _ rfl; have hneZ : ∀ g, (Value.slice fa2 fl2 fc2).ownBlock = some g → (Value.slice ia4 il4 ic4).ownBlock ≠ some g := ne_at2 hat4 hneF (own_ltK OF3); have OF4 := own_ne (own_upK OF3 (.cells #[.string s] 9)) hneF hg4; have OT4 := own_ne (own_upK OT3 (.cells #[.string s] 9)) (own_ty (own_upK OT3 (.cells #[.string s] 9)) OIx (by decide)) hg4; have OI4 := oi4)
            | (refine wpList_store_kz rfl rfl _ _ _ rfl (w.heap.size + 1 + 1) 1 (.slice ia4 il4 ic4) rfl rfl _ _ #[.slice fa2 fl2 fc2, .slice ia4 il4 ic4, .string ⟨#[]⟩] R2_4 (by kernel_rfl) rfl rfl rfl ?_; intro W5 R2_5 q5; have R0_5 := q5.keeps (by omega) R0_4; have R1_5 := q5.keeps (by omega) R1_4; have OF5 := own_kqK OF4 q5 R2_4 (by decide); have OI5 := own_kqK OI4 q5 R2_4 (by decide); have OT5 := own_kqK OT4 q5 R2_4 (by decide); have hB5 := q5.belowN hB4 (by omega) (Nat.le_refl _))
          go_roundw
          case rel =>
            obtain ⟨hA1, hA2, hA3⟩ := HAT.out
            refine ⟨j + 1, HJM.out, by go_num, fa2, fl2, fc2, ia4, il4, ic4, _, _, _, rfl, ?_, R0_5, R1_5, R2_5, ?_, ?_, ?_, hneZ, hB5⟩
            · rw [hA3, HTE.out, List.append_nil]; exact HTL.out
            · rw [strRow_succ, hA1, HFE.out, ← cat3, ← HD.out]; exact OF5
            · rw [strRow_succ, hA2, HIE.out, strL_self]; exact OI5
            · rw [hA3, HTE.out, List.append_nil, ← HTL.out]; exact OT5
          case measure => simp [intOf]; omega
      · have hjm' : j = m := by omega
        have hval : validL s.data.toList = false := by rw [← hs, hjm']; exact HV2.out (by have := HN.out; omega)
        rw [hval] at HVs
        have HJM := hidK hjm'
        have HR0 := hidK R0
        have HB := hidK hB
        clear hs hc hb hat hslen hval R0 R1 OI OT hne OF R2 hB hjm hjm' htl htj
        go_wp2_with first
          | (go_at_call 52; refine (HVs.out _).mono ?_; rintro e wa ⟨rfl, hwa⟩; subst wa)
          | (refine wpList_store_kz rfl rfl _ _ _ rfl w.heap.size 0 (.agg #[.slice none 0 0, .slice none 0 0, .string ⟨#[]⟩]) rfl rfl _ _ #[.slice none 0 0, .slice none 0 0, .string ⟨#[]⟩] HR0.out (by kernel_rfl) rfl rfl rfl ?_; intro Wz hWz qz; have hBz := qz.belowN HB.out (Nat.le_refl _) (Nat.le_refl _))
        refine bodyPost_ret (results_cell_tmp_rowR rfl _ _ w.heap.size _ _ _ _ _ rfl rfl hWz Tryd.underlying36 rfl (by kernel_rfl)) rfl ?_
        exact ⟨fun h => absurd h (by have := HJM.out; omega), fun _ => ⟨rfl, hBz⟩⟩
    · have hjm' : j = n := by omega
      have hmn : m = n := by omega
      have HE := hidK (And.intro hjm' hmn)
      have htk : L.take j = L := by rw [hjm', ← HLEN.out]; exact List.take_length
      rw [htk] at OT
      have hcv := conv_q wx w.heap.size (.slice ta tl tc) (tabL 2 L) OT
      have hjI : ¬ (j : Int) < (n : Int) := by omega
      have o0 := cell_rowK R2 0 _ rfl
      have o1 := cell_rowK R2 1 _ rfl
      have HF := hidK (And.intro OF OI)
      have HR := hidK (And.intro R0 R2)
      have HB := hidK hB
      clear OF OI OT hne hB htl hjm' hmn htk R1 R0 R2
      go_wp2_with first
        | (refine wpList_store_kz rfl rfl _ _ _ rfl (w.heap.size + 1 + 1) 2 (.string (strL (tabL 2 L))) rfl rfl _ _ #[.slice fa fl fc, .slice ia il ic, .string (strL (tabL 2 L))] HR.out.2 (by kernel_rfl) rfl rfl rfl ?_; intro W1 R2z q1; have R0z := q1.keeps (by omega) HR.out.1; have hF1 := own_kqK HF.out.1 q1 HR.out.2 (by decide); have hI1 := own_kqK HF.out.2 q1 HR.out.2 (by decide); have hB1 := q1.belowN HB.out (by omega) (Nat.le_refl _); have y0 := cell_rowK R2z 0 _ rfl; have y1 := cell_rowK R2z 1 _ rfl; have y2 := cell_rowK R2z 2 _ rfl)
        | (refine wpList_store_kz rfl rfl _ _ _ rfl w.heap.size 0 (.agg #[.slice fa fl fc, .slice ia il ic, .string (strL (tabL 2 L))]) rfl rfl _ _ #[.slice fa fl fc, .slice ia il ic, .string (strL (tabL 2 L))] R0z (by kernel_rfl) rfl rfl rfl ?_; intro Wz hWz qz; have hFz := own_kqK hF1 qz R0z (by decide); have hIz := own_kqK hI1 qz R0z (by decide); have hBz := qz.belowN hB1 (Nat.le_refl _) (Nat.le_refl _))
      refine bodyPost_ret (results_cell_tmp_rowR rfl _ _ w.heap.size _ _ _ _ _ rfl rfl hWz Tryd.underlying36 rfl (by kernel_rfl)) rfl ?_
      refine ⟨fun _ => ⟨_, _, rfl, ?_, ?_, hBz⟩, fun h => absurd h (by have := HE.out; omega)⟩
      · rw [HLEN.out, ← HE.out.1]; exact hFz
      · rw [HLEN.out, ← HE.out.1]; exact hIz
end Go.Proofs.YtmlnnbinbbmmhaaDoor
