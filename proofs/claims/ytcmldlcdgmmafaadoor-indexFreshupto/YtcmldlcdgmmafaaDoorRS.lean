
-- shelfref11.bsd: a contract.
import Derived.Test.YtcmldlcdgmmafaaDoorPC
import Derived.Lib.IndexBytes
namespace Go.Proofs.YtcmldlcdgmmafaaDoor
open Go.ChangeShapes Go.WideShapes Go.ChangeAt Go.RowKit
set_option linter.unusedVariables false
set_option maxRecDepth 100000
theorem leS_lt (b : List UInt8) (p : Nat) : leW b p 4 < 4294967296 := by
  unfold leW
  exact Nat.lt_of_lt_of_le (leNat_lt _) (Nat.le_trans (Nat.pow_le_pow_right (by omega) (List.length_take_le _ _)) (by decide))
theorem slice_abS (s : ByteArray) (a b : Nat) (x y : Int) (hx : x = (a : Int)) (hy : y = (b : Int)) (h : a ≤ b) (h2 : b ≤ s.size) : ∀ w, (Instr.slice 9 (.string s) (some (.int .i64 x)) (some (.int .i64 y)) none).run Tryd.prog w = .ok (.string (strL ((s.data.toList.drop a).take (b - a)))) w := by
  subst hx hy
  intro w
  rw [run_slice_string w 9 s .i64 .i64 a b Tryd.underlying9 (by omega) (by omega) (by omega), Int.toNat_natCast, Int.toNat_natCast, Lib.extract_eq]; rfl
theorem bsdA_no {b : List UInt8} (h : b.length < 4 ∨ ¬ bsN b % 8 = 0 ∨ b.length < 8 + bsN b ∨ b.length < 8 + bsN b + bsK b) : bsdA b = none := by unfold bsdA; rw [if_pos h]
theorem bsdA_all {b : List UInt8} (h : ¬ (b.length < 4 ∨ ¬ bsN b % 8 = 0 ∨ b.length < 8 + bsN b ∨ b.length < 8 + bsN b + bsK b)) : bsdA b = if bsAll b = true then some ((List.range (bsN b / 8)).map (enB b)) else none := by unfold bsdA; rw [if_neg h]
theorem bsAll_no {b : List UInt8} {i : Nat} (h : i < bsN b / 8) (hn : nmE (bsS b) (leW b (4 + 8 * i) 4) = none) : bsAll b = false := by
  cases q : bsAll b
  · rfl
  · have := (bsAll_iff b).1 q i h
    unfold bsOk at this; rw [hn] at this; cases this
set_option maxHeartbeats 8000000 in
theorem rbsd_c (s : ByteArray) (w : World) (hm : s.size ≤ 67108864) :
    Calls Tryd.prog 24 #[.string s] w fun e w' => ASays (bsdA s.data.toList) w e w' := by
  obtain ⟨iE, hiE, hzE, hsE, hbE⟩ := info_parts infoE
  have hl : s.data.toList.length = s.size := by simp
  have no : ∀ W : World, bsdA s.data.toList = none → Below w.heap.size w W → ASays (bsdA s.data.toList) w (.returned (.tuple #[.slice none 0 0, .int .i64 110])) W := by
    intro W h hB; rw [h]; exact ⟨none, 0, 0, rfl, own_nilE _ _ _ _, hB⟩
  have HNO := hidK no
  clear no
  obtain ⟨gv, hgv⟩ : ∃ gv : Int → Int, ∀ p : Nat, gv p = (leW s.data.toList p 4 : Nat) := ⟨fun z => (leW s.data.toList z.toNat 4 : Nat), fun p => by simp⟩
  have HGET : Hid (∀ (z : Int) (w : World), 0 ≤ z → z + 4 ≤ (s.size : Int) → Calls Tryd.prog 30 #[.string s, .int .i64 z, .int .i64 4, .bool true] w fun e w' => e = .returned (.int .i64 (gv z)) ∧ w' = w) := fun z w h0 h1 => by
    obtain ⟨p, rfl⟩ := Int.eq_ofNat_of_zero_le h0
    have h := rget_le s p 4 w (by omega) (by omega) (by omega)
    rw [getI_pos (Nat.le_trans (Nat.le_of_lt (leS_lt _ _)) (by decide))] at h
    rw [hgv p]; exact h
  have HGV := hidK hgv
  have HL : Hid (s.data.toList.length = s.size) := hl
  clear hl hgv
  by_cases hsh : s.size < 4
  · have HA : Hid (bsdA s.data.toList = none) := bsdA_no (.inl (by rw [HL.out]; exact hsh))
    go_enter Tryd.func24, Tryd.ntmps24
    go_wp2
    go_ret2
    exact HNO.out _ HA.out (Below.refl _ _)
  · obtain ⟨V, hV⟩ : ∃ V, V = bsN s.data.toList := ⟨_, rfl⟩
    have HV : Hid (bsN s.data.toList = V) := hV.symm
    have hVb : V < 4294967296 := by rw [hV]; exact leS_lt _ _
    have g0 : gv 0 = (V : Int) := by have := HGV.out 0; rw [show leW s.data.toList 0 4 = V from HV.out] at this; exact this
    clear hV
    have d1 : decide ((s.size : Int) < 4) = false := decide_eq_false (by omega)
    have hmod : (V : Int).tmod 8 = ((V % 8 : Nat) : Int) := by rw [Int.tmod_eq_emod_of_nonneg (by omega)]; omega
    have h8 : V % 8 < 8 := Nat.mod_lt _ (by omega)
    by_cases hmd : V % 8 = 0
    · rw [hmd] at hmod
      by_cases hlen : s.size < 8 + V
      · have HA : Hid (bsdA s.data.toList = none) := bsdA_no (.inr (.inr (.inl (by rw [HL.out, HV.out]; exact hlen))))
        have c2 : ((s.size : Int) - 8) < (V : Int) := by omega
        clear hlen hmd h8
        go_enter Tryd.func24, Tryd.ntmps24
        go_wp2_with (first
          | (go_at_call 30; refine (HGET.out _ _ (by omega) (by omega)).mono ?_; rintro e w1 ⟨rfl, hw1⟩; subst w1))
        go_ret2
        exact HNO.out _ HA.out (Below.refl _ _)
      · have c2 : ¬ ((s.size : Int) - 8) < (V : Int) := by omega
        have d2 : decide (((s.size : Int) - 8) < (V : Int)) = false := decide_eq_false c2
        obtain ⟨K, hK⟩ : ∃ K, K = bsK s.data.toList := ⟨_, rfl⟩
        have HK : Hid (bsK s.data.toList = K) := hK.symm
        have hKb : K < 4294967296 := by rw [hK]; exact leS_lt _ _
        have g1 : gv (4 + (V : Int)) = (K : Int) := by
          have := HGV.out (4 + V)
          rw [show leW s.data.toList (4 + V) 4 = K by rw [← HK.out, ← HV.out]; rfl, show ((4 + V : Nat) : Int) = 4 + (V : Int) by omega] at this; exact this
        clear hK
        have hin : 8 + (V : Int) ≤ (s.size : Int) := by omega
        by_cases hk2 : s.size < 8 + V + K
        · have HA : Hid (bsdA s.data.toList = none) := bsdA_no (.inr (.inr (.inr (by rw [HL.out, HV.out, HK.out]; exact hk2))))
          have c3 : ((s.size : Int) - 8 - (V : Int)) < (K : Int) := by omega
          clear hlen hmd h8 hk2
          go_enter Tryd.func24, Tryd.ntmps24
          go_wp2_with (first
            | (go_at_call 30; refine (HGET.out _ _ (by omega) (by omega)).mono ?_; rintro e w1 ⟨rfl, hw1⟩; subst w1))
          go_ret2
          exact HNO.out _ HA.out (Below.refl _ _)
        · have c3 : ¬ ((s.size : Int) - 8 - (V : Int)) < (K : Int) := by omega
          have d3 : decide (((s.size : Int) - 8 - (V : Int)) < (K : Int)) = false := decide_eq_false c3
          have HALL : Hid (bsdA s.data.toList = if bsAll s.data.toList = true then some ((List.range (bsN s.data.toList / 8)).map (enB s.data.toList)) else none) := bsdA_all (by rw [HL.out, HV.out, HK.out]; omega)
          have s1 := slice_abS s (8 + V) (8 + V + K) (8 + (V : Int)) (8 + (V : Int) + (K : Int)) (by omega) (by omega) (by omega) (by omega)
          rw [show 8 + V + K - (8 + V) = K by omega, show (s.data.toList.drop (8 + V)).take K = bsS s.data.toList by rw [← HK.out, ← HV.out]; rfl] at s1
          have hSz : (strL (bsS s.data.toList)).size ≤ 67108864 := by
            rw [strL_size]; unfold bsS; rw [List.length_take, List.length_drop, HL.out]; omega
          have HNM : Hid (∀ (p : Nat) (w : World), p ≤ 4294967296 → Calls Tryd.prog 31 #[.string (strL (bsS s.data.toList)), .int .i64 p] w fun e w' => e = .returned (.tuple #[.string (nmV (bsS s.data.toList) p), .bool (nmE (bsS s.data.toList) p).isSome]) ∧ w' = w) := fun p w h => by
            have h := rname_c (strL (bsS s.data.toList)) p w (by omega) (by omega)
            rwa [strL_data] at h
          generalize strL (bsS s.data.toList) = SS at *
          obtain ⟨M, hM⟩ : ∃ M, M = V / 8 := ⟨_, rfl⟩
          have HVM : Hid (V = 8 * M) := by show _ = _; omega
          have HM8 : Hid (bsN s.data.toList / 8 = M) := by show _ = _; rw [HV.out, hM]
          have hMb : M ≤ 67108864 := by omega
          have HF : Hid (8 + V + K ≤ s.size) := by show _ ≤ _; omega
          clear hM hmd h8 hlen hk2
          go_enter Tryd.func24, Tryd.ntmps24
          go_wp2_with (first
            | (go_at_call 30; refine (HGET.out _ _ (by omega) (by omega)).mono ?_; rintro e w1 ⟨rfl, hw1⟩; subst w1))
          go_loopw [7, 8] (fun lv i wx => ∃ (k : Nat) (a : Option Addr) (n c : Nat), k ≤ M ∧ i = .int .i64 (8 * (k : Int)) ∧ lv = .slice a n c ∧ (∀ j, j < k → bsOk s.data.toList j = true) ∧ wx.ownsRow w.heap.size 64 2 (.slice a n c) k (cellsE ((List.range k).map (enB s.data.toList))) ∧ Below w.heap.size w wx) (fun _ i _ => 8 * M - (intOf i).toNat)
          case atStart => exact ⟨0, none, 0, 0, Nat.zero_le _, rfl, rfl, fun j hj => absurd hj (Nat.not_lt_zero _), own_nilE _ _ _ _, Below.refl _ _⟩
          case round =>
            obtain ⟨k, a, n, c, hk, rfl, rfl, hOk, hO, hB⟩ := hrel
            have HOK := hidK hOk
            have HO := hidK hO
            clear hOk hO
            have hvm := HVM.out
            by_cases hlt : k < M
            · have c8 : 8 * (k : Int) < (V : Int) := by omega
              have gP : gv (4 + 8 * (k : Int)) = (leW s.data.toList (4 + 8 * k) 4 : Nat) := by have := HGV.out (4 + 8 * k); rw [show ((4 + 8 * k : Nat) : Int) = 4 + 8 * (k : Int) by omega] at this; exact this
              have gA : gv (8 + 8 * (k : Int)) = (leW s.data.toList (8 + 8 * k) 4 : Nat) := by have := HGV.out (8 + 8 * k); rw [show ((8 + 8 * k : Nat) : Int) = 8 + 8 * (k : Int) by omega] at this; exact this
              have HNK := hidK (fun w => HNM.out (leW s.data.toList (4 + 8 * k) 4) w (Nat.le_of_lt (leS_lt _ _)))
              have hp1 : leW s.data.toList (4 + 8 * k) 4 < 4294967296 := leS_lt _ _
              have hp2 : leW s.data.toList (8 + 8 * k) 4 < 4294967296 := leS_lt _ _
              have hr : 8 + 8 * (k : Int) + 4 ≤ (s.size : Int) := by have := HF.out; omega
              have HR : Hid (k < M) := hlt
              cases hnm : nmE (bsS s.data.toList) (leW s.data.toList (4 + 8 * k) 4) with
              | none =>
                have HA : Hid (bsdA s.data.toList = none) := by show _ = _; rw [HALL.out, bsAll_no (i := k) (by rw [HM8.out]; exact hlt) hnm]; rfl
                rw [hnm] at HNK
                clear hnm hvm hlt hk gA hp2
                generalize nmV (bsS s.data.toList) (leW s.data.toList (4 + 8 * k) 4) = NV at *
                generalize leW s.data.toList (4 + 8 * k) 4 = G at *
                go_wp2_with (first
                  | (go_at_call 30; refine (HGET.out _ _ (by omega) (by omega)).mono ?_; rintro e w1 ⟨rfl, hw1⟩; subst w1)
                  | (go_at_call 31; refine (HNK.out _).mono ?_; rintro e w1 ⟨rfl, hw1⟩; subst w1))
                go_ret2
                exact HNO.out _ HA.out hB
              | some e =>
                have HOK2 : Hid (∀ j, j < k + 1 → bsOk s.data.toList j = true) := fun j hj => by
                  by_cases q : j = k
                  · subst q; unfold bsOk; rw [hnm]; rfl
                  · exact HOK.out j (by omega)
                have HEN : Hid (enB s.data.toList k = ⟨nmS (bsS s.data.toList) (leW s.data.toList (4 + 8 * k) 4), (leW s.data.toList (8 + 8 * k) 4 : Nat)⟩) := rfl
                rw [hnm, nmV_ok hnm] at HNK
                clear hnm hvm hlt hk
                generalize nmS (bsS s.data.toList) (leW s.data.toList (4 + 8 * k) 4) = nm at *
                generalize leW s.data.toList (4 + 8 * k) 4 = P at *
                generalize leW s.data.toList (8 + 8 * k) 4 = G at *
                have hBs := hB.size
                have hkb : k ≤ 67108864 := by omega
                have hO := HO.out
                go_wp2_with (first
                  | (go_at_call 30; refine (HGET.out _ _ (by omega) (by omega)).mono ?_; rintro e' w1 ⟨rfl, hw1⟩; subst w1)
                  | (go_at_call 31; refine (HNK.out _).mono ?_; rintro e' w1 ⟨rfl, hw1⟩; subst w1)
                  | (refine wpList_append_own _ rfl (.tmp 63) (.tmp 70) 31 rfl w.heap.size 64 iE (.agg #[.string ⟨#[]⟩, .int .i64 0]) 2 24 Tryd.underlying31 hiE hzE hsE hbE rfl (by decide) (.slice a n c) k _ rfl (own_upK hO (.cells #[.string nm, .int .i64 (G : Nat)] 64)) ⟨wr.heap.size, 0, none⟩ 1 1 [.string nm, .int .i64 (G : Nat)] rfl rfl (new_rowK wr #[.string nm, .int .i64 (G : Nat)] 64 _ rfl) (by intro u hu; simp at hu; rcases hu with rfl | rfl <;> rfl) (by unfold maxLen; omega) (by omega) (Nat.le_trans hBs (by rw [World.size_alloc]; omega)) ?_; intro v2 w2 o2 g2 _; have hB2 := below_grow (bupK hB (.cells #[.string nm, .int .i64 (G : Nat)] 64)) g2 (own_upK hO (.cells #[.string nm, .int .i64 (G : Nat)] 64)) (Nat.le_refl _); obtain ⟨a2, n2, c2', rfl⟩ := own_sliceE o2; have HO2 := hidK o2; clear o2 g2))
                go_roundw
                case rel =>
                  have hlt := HR.out
                  refine ⟨k + 1, a2, n2, c2', by omega, int_eqG (by omega), rfl, HOK2.out, ?_, hB2⟩
                  rw [cellsE_snoc, HEN.out]; exact HO2.out
                case measure => have hlt := HR.out; simp [intOf]; omega
            · obtain rfl : k = M := by omega
              have c8 : ¬ 8 * (k : Int) < (V : Int) := by omega
              have HA : Hid (bsdA s.data.toList = some ((List.range k).map (enB s.data.toList))) := by
                show _ = _
                rw [HALL.out, if_pos ((bsAll_iff _).2 fun i hi => HOK.out i (by rw [HM8.out] at hi; exact hi)), HM8.out]
              clear hvm hlt hk
              go_wp2
              go_ret2
              rw [HA.out]
              refine ⟨a, n, c, rfl, ?_, hB⟩
              simp only [Option.getD_some, List.length_map, List.length_range]
              exact HO.out
    · have HA : Hid (bsdA s.data.toList = none) := bsdA_no (.inr (.inl (by rw [HV.out]; exact hmd)))
      have c1 : ((((V % 8 : Nat) : Int)) == 0) = false := by simp; omega
      have c1' : ((((V % 8 : Nat) : Int)) != 0) = true := by simp; omega
      generalize V % 8 = Q at *
      go_enter Tryd.func24, Tryd.ntmps24
      go_wp2_with (first
        | (go_at_call 30; refine (HGET.out _ _ (by omega) (by omega)).mono ?_; rintro e w1 ⟨rfl, hw1⟩; subst w1))
      go_ret2
      exact HNO.out _ HA.out (Below.refl _ _)
end Go.Proofs.YtcmldlcdgmmafaaDoor
