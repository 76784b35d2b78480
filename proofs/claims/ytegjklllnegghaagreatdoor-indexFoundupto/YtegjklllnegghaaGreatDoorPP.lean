
-- (index.codec).readPairs: a contract.
import Derived.Test.YtegjklllnegghaaGreatDoorPPa
import Derived.Test.YtegjklllnegghaaGreatDoorPPw
import Derived.Test.YtegjklllnegghaaGreatDoorND
namespace Go.Proofs.YtegjklllnegghaaGreatDoor
open Go.ChangeShapes Go.WideShapes Go.ChangeAt Go.RowKit
set_option linter.unusedVariables false
set_option maxRecDepth 100000
theorem leW_take (l : List UInt8) (V p : Nat) (h : p + 4 ≤ V) : leW (l.take V) p 4 = leW l p 4 := by
  unfold leW
  rw [List.drop_take, List.take_take, Nat.min_eq_left (by omega)]
theorem rowF_pl (f : Nat → En) (n k : Nat) (hk : k < n) (z : Int) (h : f k = ⟨⟨#[]⟩, z⟩) : putAt (rowF f n k) (2 * k + 1) #[.int .i64 z] = rowF f n (k + 1) := by
  have hz := rowF_size f n k
  refine rowF_ext (by rw [putAt_oneU_size _ _ _ (by omega), hz]) fun j hj => ?_
  obtain ⟨g1, g2⟩ := rowF_get f n k j hj
  have p1 := putAt_oneU (rowF f n k) (2 * k + 1) (.int .i64 z) (by omega) (2 * j)
  have p2 := putAt_oneU (rowF f n k) (2 * k + 1) (.int .i64 z) (by omega) (2 * j + 1)
  rw [p1, p2, if_neg (show ¬ 2 * j = 2 * k + 1 by omega)]
  by_cases e : j = k
  · subst e
    rw [if_neg (show ¬ j < j by omega)] at g1
    rw [if_pos rfl, if_pos (show j < j + 1 by omega), h]; exact ⟨g1, rfl⟩
  · have hq : (if j < k + 1 then f j else (⟨⟨#[]⟩, 0⟩ : En)) = if j < k then f j else ⟨⟨#[]⟩, 0⟩ := by
      by_cases h : j < k
      · rw [if_pos h, if_pos (by omega)]
      · rw [if_neg h, if_neg (by omega)]
    rw [hq, if_neg (show ¬ 2 * j + 1 = 2 * k + 1 by omega)]; exact ⟨g1, g2⟩
theorem RSays.no {A : Option (List En)} {w w' : World} {e : Ending} (hA : A = none) (h : e = .returned (.tuple #[.slice none 0 0, .bool false]) ∧ Below w.heap.size w w') : RSays A w e w' := by
  rw [hA]; exact ⟨none, 0, 0, h.1, own_nilE _ _ _ _, h.2⟩
set_option maxHeartbeats 2000000 in
theorem ppairs_c (s : ByteArray) (w : World) (hm : s.size ≤ 67108864) :
    Calls Tryz.prog 49 #[.agg ca3, .string s] w fun e w' => RSays (bsdA s.data.toList) w e w' := by
  have hl : s.data.toList.length = s.size := by simp
  by_cases h1 : s.size < 4 ∨ s.size - 4 < leW s.data.toList 0 4
  · have HA : bsdA s.data.toList = none := by
      rcases h1 with h | h
      · exact bsdA_no (.inl (by rw [hl]; exact h))
      · exact bsdA_no (.inr (.inr (.inl (by rw [hl]; show s.size < 8 + leW s.data.toList 0 4; omega))))
    refine (pp_no1 s w (fun w => ?_)).mono fun e w' h => RSays.no HA h
    by_cases h4 : s.size < 4
    · exact cc_short s w h4
    · exact cc_many s w (by omega) hm (by omega)
  · obtain ⟨V, hV⟩ : ∃ V, V = bsN s.data.toList := ⟨_, rfl⟩
    have HV : bsN s.data.toList = V := hV.symm
    have hV' : leW s.data.toList 0 4 = V := HV
    rw [hV'] at h1
    have h4 : 4 + V ≤ s.size := by omega
    have HC1 : ∀ w, Calls Tryz.prog 57 #[.agg ca3, .string s] w fun e w' => e = .returned (.tuple #[.string (strL ((s.data.toList.drop 4).take V)), .string (strL (s.data.toList.drop (4 + V))), .bool true]) ∧ Below w.heap.size w w' := fun w => by
      have h := cc_ok s w (by omega) hm (by rw [hV']; omega)
      rw [hV'] at h; exact h
    have hz1 : (strL ((s.data.toList.drop 4).take V)).size = V := by rw [strL_size, List.length_take, List.length_drop, hl]; omega
    have hz2 : (strL (s.data.toList.drop (4 + V))).size = s.size - (4 + V) := by rw [strL_size, List.length_drop, hl]
    have HD1 : (strL ((s.data.toList.drop 4).take V)).data.toList = (s.data.toList.drop 4).take V := strL_data _
    have HD2 : (strL (s.data.toList.drop (4 + V))).data.toList = s.data.toList.drop (4 + V) := strL_data _
    generalize strL ((s.data.toList.drop 4).take V) = A1 at *
    generalize strL (s.data.toList.drop (4 + V)) = A2 at *
    have hmod : (V : Int).tmod 8 = ((V % 8 : Nat) : Int) := by rw [Int.tmod_eq_emod_of_nonneg (by omega)]; omega
    by_cases hmd : V % 8 = 0
    · rw [hmd] at hmod
      by_cases h2 : A2.size < 4 ∨ A2.size - 4 < leW A2.data.toList 0 4
      · have HA : bsdA s.data.toList = none := by
          rcases h2 with h | h
          · exact bsdA_no (.inr (.inr (.inl (by rw [hl, HV]; omega))))
          · refine bsdA_no (.inr (.inr (.inr ?_)))
            have e : bsK s.data.toList = leW A2.data.toList 0 4 := by unfold bsK; rw [HV, HD2, leW_drop]; rfl
            rw [hl, HV, e]; omega
        refine (pp_no2 s A1 A2 V w hz1 (by omega) hmod HC1 (fun w => ?_)).mono fun e w' h => RSays.no HA h
        by_cases h4 : A2.size < 4
        · exact cc_short A2 w h4
        · exact cc_many A2 w (by omega) (by omega) (by omega)
      · obtain ⟨K, hK⟩ : ∃ K, K = bsK s.data.toList := ⟨_, rfl⟩
        have HK : bsK s.data.toList = K := hK.symm
        have hK' : leW A2.data.toList 0 4 = K := by rw [hK]; unfold bsK; rw [HV, HD2, leW_drop]; rfl
        rw [hK'] at h2
        have h8 : 8 + V + K ≤ s.size := by omega
        have hSL : (s.data.toList.drop (4 + V)).drop 4 = s.data.toList.drop (8 + V) := by rw [List.drop_drop, show 4 + V + 4 = 8 + V by omega]
        have HC2 : ∀ w, Calls Tryz.prog 57 #[.agg ca3, .string A2] w fun e w' => e = .returned (.tuple #[.string (strL (bsS s.data.toList)), .string (strL (A2.data.toList.drop (4 + K))), .bool true]) ∧ Below w.heap.size w w' := fun w => by
          have h := cc_ok A2 w (by omega) (by omega) (by rw [hK']; omega)
          rw [hK'] at h
          have e : strL ((A2.data.toList.drop 4).take K) = strL (bsS s.data.toList) := by unfold bsS; rw [HD2, hSL, HK, HV]
          rw [e] at h; exact h
        have HALL : bsdA s.data.toList = if bsAll s.data.toList = true then some ((List.range (bsN s.data.toList / 8)).map (enB s.data.toList)) else none := bsdA_all (by rw [hl, HV, HK]; omega)
        have hSz : (strL (bsS s.data.toList)).size ≤ 67108864 := by
          rw [strL_size]; unfold bsS; rw [List.length_take, List.length_drop, hl]; omega
        have HSD : (strL (bsS s.data.toList)).data.toList = bsS s.data.toList := strL_data _
        obtain ⟨M, hM⟩ : ∃ M, M = V / 8 := ⟨_, rfl⟩
        have HVM : V = 8 * M := by omega
        have HM8 : bsN s.data.toList / 8 = M := by rw [HV, hM]
        have hMb : M ≤ 67108864 := by omega
        have hdiv : (V : Int).tdiv 8 = (M : Int) := by rw [Int.tdiv_eq_ediv_of_nonneg (by omega), hM]; omega
        obtain ⟨gv, hgv⟩ : ∃ gv : Int → Int, ∀ p : Nat, gv p = (leW A1.data.toList p 4 : Nat) := ⟨fun z => (leW A1.data.toList z.toNat 4 : Nat), fun p => by simp⟩
        have HGV : ∀ p : Nat, p + 4 ≤ V → gv p = (leW s.data.toList (4 + p) 4 : Nat) := fun p hp => by rw [hgv, HD1, leW_take _ _ _ hp, leW_drop]
        have hok : namesOk (strL (bsS s.data.toList)).data.toList (fun i => leW s.data.toList (4 + 8 * i) 4) M = bsAll s.data.toList := by
          unfold bsAll namesOk; rw [HM8, HSD]; rfl
        have hrow : rowF (fN (strL (bsS s.data.toList)).data.toList (fun i => leW s.data.toList (4 + 8 * i) 4) (fun i => (leW s.data.toList (8 + 8 * i) 4 : Nat))) M M = rowF (enB s.data.toList) M M := by
          rw [HSD]; rfl
        refine (pp_walk s A1 A2 (strL (A2.data.toList.drop (4 + K))) (strL (bsS s.data.toList)) V M gv (fun i => leW s.data.toList (4 + 8 * i) 4) (fun i => leW s.data.toList (8 + 8 * i) 4)
          (rowF (fun i => ⟨⟨#[]⟩, (leW s.data.toList (8 + 8 * i) 4 : Nat)⟩) M) (rowU (fun i => (leW s.data.toList (4 + 8 * i) 4 : Nat)) M) (rowF (enB s.data.toList) M M) (bsAll s.data.toList) w
          hMb hz1 (by omega) hmod hdiv HVM HC1 HC2 ?_ ?_ ?_ ?_ ?_ ?_ ?_ ?_ ?_ ?_ ?_ ?_).mono ?_
        · intro z w g0 g1
          obtain ⟨p, rfl⟩ := Int.eq_ofNat_of_zero_le g0
          rw [hgv p]
          exact cload3_c A1 p w (by omega) (by unfold maxLen; omega)
        · intro k hk
          have := HGV (8 * k) (by omega); rw [show ((8 * k : Nat) : Int) = 2 * (k : Int) * 4 by omega] at this; exact this
        · intro k hk
          have := HGV (8 * k + 4) (by omega); rw [show ((8 * k + 4 : Nat) : Int) = (2 * (k : Int) + 1) * 4 by omega, show 4 + (8 * k + 4) = 8 + 8 * k by omega] at this; exact this
        · exact fun k => leS_lt _ _
        · exact fun k => leS_lt _ _
        · exact fun k hk => rowF_pl _ M k hk _ rfl
        · exact fun k hk => rowU_put _ M k hk _ rfl
        · exact fun k hk => Nat.ble_eq_true_of_le (by rw [rowF_size]; omega)
        · exact fun k hk => Nat.ble_eq_true_of_le (by rw [rowU_size]; omega)
        · exact fun W => mk_ents _ .i64 M hMb W
        · exact fun W => mk_ints _ M hMb W
        · intro Lb Gb wx hLb hGb
          have h := nameAll_c (strL (bsS s.data.toList)) Lb Gb M (fun i => leW s.data.toList (4 + 8 * i) 4) (fun i => (leW s.data.toList (8 + 8 * i) 4 : Nat)) wx hMb hSz (fun i => leS_lt _ _) _ hLb hGb (fun j hj => by rw [rowU_get _ _ _ _ hj, if_pos hj])
          rw [hok, hrow] at h; exact h
        · rintro e w' (⟨hk, rfl, hB⟩ | ⟨hk, g, hg, rfl, hr, hB⟩)
          · exact RSays.no (by rw [HALL, hk]; rfl) ⟨rfl, hB⟩
          · rw [HALL, hk, if_pos rfl, HM8]
            refine ⟨some ⟨g, 0, none⟩, M, M, rfl, ?_, hB⟩
            simp only [Option.getD_some, List.length_map, List.length_range]
            exact own_full_row hg hr (by unfold maxLen; omega)
    · have HA : bsdA s.data.toList = none := bsdA_no (.inr (.inl (by rw [HV]; exact hmd)))
      exact (pp_mod s A1 A2 V (V % 8) w hz1 (by omega) hmod (by simp; omega) (by simp; omega) HC1).mono fun e w' h => RSays.no HA h
end Go.Proofs.YtegjklllnegghaaGreatDoor
