
-- shelfref11.big: contracts.
import Derived.Test.YtcmldlcdgmmafaaDoorRG
import Derived.Test.YtcmldlcdgmmafaaDoorEN
namespace Go.Proofs.YtcmldlcdgmmafaaDoor
open Go.ChangeShapes Go.WideShapes Go.ChangeAt Go.RowKit
set_option linter.unusedVariables false
set_option maxRecDepth 100000
def ASays (A : Option (List En)) (w : World) (e : Ending) (w' : World) : Prop := DecSays (if A.isSome = true then 0 else 110) (A.getD []) w e w'
theorem getI_neg {v : Nat} (h : ¬ v ≤ mostI) : getI v = -1 := by unfold getI; rw [if_neg h]
theorem getI_pos {v : Nat} (h : v ≤ mostI) : getI v = v := by unfold getI; rw [if_pos h]
theorem nmE_some {b : List UInt8} {p e : Nat} (h : nmE b p = some e) : p < e ∧ e < b.length ∧ zAt b p = some e := by
  unfold nmE at h
  cases q : zAt b p with
  | none => rw [q] at h; cases h
  | some x =>
    rw [q] at h; simp only [Option.bind_some] at h
    by_cases hx : p < x
    · rw [if_pos hx] at h; injection h with h; subst h; exact ⟨hx, (zAt_some q).2.1, rfl⟩
    · rw [if_neg hx] at h; cases h
theorem nmS_size {b : List UInt8} {p e : Nat} (h : nmE b p = some e) : (nmS b p).size = e - p := by
  obtain ⟨h1, h2, _⟩ := nmE_some h
  unfold nmS; rw [strL_size, h, List.length_take, List.length_drop]; simp; omega
theorem rowP_ge (b : List UInt8) (w n : Nat) : ∀ k p, rowP b w n k = some p → p ≤ b.length ∨ (k = 0 ∧ p = w + w * n) := by
  intro k
  cases k with
  | zero => intro p h; simp only [rowP, Option.some.injEq] at h; exact .inr ⟨rfl, h.symm⟩
  | succ k =>
    intro p h
    simp only [rowP] at h
    cases q : rowP b w n k with
    | none => rw [q] at h; cases h
    | some p0 =>
      rw [q] at h; simp only [Option.bind_some] at h
      cases r : nmE b p0 with
      | none => rw [r] at h; cases h
      | some e =>
        rw [r] at h; simp only [Option.bind_some] at h
        have := (nmE_some r).2.1
        split at h
        · injection h with h; left; omega
        · cases h
theorem rowP_next {b : List UInt8} {w n k p e : Nat} (h : rowP b w n k = some p) (hn : nmE b p = some e) (hp : beW b (w + w * k) w ≤ mostI) : rowP b w n (k + 1) = some (e + 1) := by
  simp only [rowP, h, Option.bind_some, hn]; rw [if_pos hp]
theorem rowP_stop {b : List UInt8} {w n k p : Nat} (h : rowP b w n k = some p) (hx : nmE b p = none ∨ ¬ beW b (w + w * k) w ≤ mostI) : rowP b w n (k + 1) = none := by
  simp only [rowP, h, Option.bind_some]
  rcases hx with hx | hx
  · rw [hx]; rfl
  · cases q : nmE b p with
    | none => rfl
    | some e => simp only [Option.bind_some]; rw [if_neg hx]
theorem rowP_stuck {b : List UInt8} {w n k : Nat} (h : rowP b w n k = none) : ∀ m, k ≤ m → rowP b w n m = none := by
  intro m hm
  induction m with
  | zero => obtain rfl : k = 0 := by omega
            exact h
  | succ m ih =>
    by_cases e : k = m + 1
    · subst e; exact h
    · simp only [rowP, ih (by omega)]; rfl
theorem enR_at {b : List UInt8} {w n k p : Nat} (h : rowP b w n k = some p) : enR b w n k = ⟨nmS b p, (beW b (w + w * k) w : Nat)⟩ := by unfold enR; rw [h]; rfl
theorem rowA_short {b : List UInt8} {w : Nat} (h : b.length < w) : rowA b w = none := by unfold rowA; rw [if_pos h]
theorem rowA_many {b : List UInt8} {w : Nat} (h : (b.length - w) / w < beW b 0 w) : rowA b w = none := by unfold rowA; rw [if_pos h]; split <;> rfl
theorem rowA_stop {b : List UInt8} {w k : Nat} (h : rowP b w (beW b 0 w) k = none) (hk : k ≤ beW b 0 w) : rowA b w = none := by
  unfold rowA; rw [rowP_stuck h _ hk]; split <;> (try rfl); split <;> rfl
theorem rowA_end {b : List UInt8} {w p : Nat} (h1 : ¬ b.length < w) (h2 : ¬ (b.length - w) / w < beW b 0 w) (h : rowP b w (beW b 0 w) (beW b 0 w) = some p) : rowA b w = if zerosB b p = true then some (rowL b w (beW b 0 w)) else none := by
  unfold rowA; rw [if_neg h1, if_neg h2, h]; rfl
theorem zeros_no {b : List UInt8} {p j : Nat} {c : UInt8} (hj : p ≤ j) (h : b[j]? = some c) (hc : ¬ c.toNat = 0) : zerosB b p = false := by
  cases q : zerosB b p
  · rfl
  · exact absurd ((zerosB_iff b p).1 q j c hj h) (fun e => hc (by rw [e]; rfl))
set_option maxHeartbeats 8000000 in
theorem rbig4_c (s : ByteArray) (w : World) (hm : s.size ≤ 67108864) :
    Calls Tryd.prog 23 #[.string s, .int .i64 4] w fun e w' => ASays (rowA s.data.toList 4) w e w' := by
  obtain ⟨iE, hiE, hzE, hsE, hbE⟩ := info_parts infoE
  have hl : s.data.toList.length = s.size := by simp
  have no : ∀ W : World, rowA s.data.toList 4 = none → Below w.heap.size w W → ASays (rowA s.data.toList 4) w (.returned (.tuple #[.slice none 0 0, .int .i64 110])) W := by
    intro W h hB; rw [h]; exact ⟨none, 0, 0, rfl, own_nilE _ _ _ _, hB⟩
  have HNO := hidK no
  clear no
  have HGET : Hid (∀ (p : Nat) (w : World), p + 4 ≤ s.size → Calls Tryd.prog 30 #[.string s, .int .i64 p, .int .i64 4, .bool false] w fun e w' => e = .returned (.int .i64 (getI (beW s.data.toList p 4))) ∧ w' = w) := fun p w h => rget_be s p 4 w (by omega) h (by omega)
  have HNM : Hid (∀ (p : Nat) (w : World), p ≤ 4611686018427387904 → Calls Tryd.prog 31 #[.string s, .int .i64 p] w fun e w' => e = .returned (.tuple #[.string (nmV s.data.toList p), .bool (nmE s.data.toList p).isSome]) ∧ w' = w) := fun p w h => rname_c s p w (by omega) h
  have HL : Hid (s.data.toList.length = s.size) := hl
  clear hl
  by_cases hsh : s.size < 4
  · have HA : Hid (rowA s.data.toList 4 = none) := rowA_short (by rw [HL.out]; exact hsh)
    go_enter Tryd.func23, Tryd.ntmps23
    go_wp2
    go_ret2
    exact HNO.out _ HA.out (Below.refl _ _)
  · obtain ⟨V, hV⟩ : ∃ V, V = beW s.data.toList 0 4 := ⟨_, rfl⟩
    have HV : Hid (beW s.data.toList 0 4 = V) := hV.symm
    have HG0 : Hid (∀ w, Calls Tryd.prog 30 #[.string s, .int .i64 0, .int .i64 4, .bool false] w fun e w' => e = .returned (.int .i64 (getI V)) ∧ w' = w) := fun w => by have h := HGET.out 0 w (by omega); rw [HV.out] at h; exact h
    clear hV
    have hq : ((s.size : Int) - 4).tdiv 4 = ((s.size - 4) / 4 : Nat) := by
      rw [Int.tdiv_eq_ediv_of_nonneg (by omega)]; omega
    by_cases hV0 : V ≤ mostI
    · have gi := getI_pos hV0
      rw [gi] at HG0
      clear gi
      by_cases hmany : (s.size - 4) / 4 < V
      · have HA : Hid (rowA s.data.toList 4 = none) := rowA_many (by rw [HL.out, HV.out]; exact hmany)
        have c2 : (((s.size - 4) / 4 : Nat) : Int) < (V : Int) := by omega
        clear hmany
        unfold mostI at hV0
        have hQb : (s.size - 4) / 4 ≤ 67108864 := by omega
        generalize (s.size - 4) / 4 = Q at *
        go_enter Tryd.func23, Tryd.ntmps23
        go_wp2_with (first
          | (go_at_call 30; refine (HG0.out _).mono ?_; rintro e w1 ⟨rfl, hw1⟩; subst w1))
        go_ret2
        exact HNO.out _ HA.out (Below.refl _ _)
      · have hVs : 4 * V + 4 ≤ s.size := by omega
        have c2 : ¬ (((s.size - 4) / 4 : Nat) : Int) < (V : Int) := by omega
        have HMY : Hid (¬ (s.size - 4) / 4 < V) := hmany
        clear hmany hV0
        have hQb : (s.size - 4) / 4 ≤ 67108864 := by omega
        generalize (s.size - 4) / 4 = Q at hq c2 hQb
        have d1 : decide ((s.size : Int) < 4) = false := decide_eq_false (by omega)
        have d2 : decide ((V : Int) < 0) = false := decide_eq_false (by omega)
        have d3 : decide ((Q : Int) < (V : Int)) = false := decide_eq_false c2
        have d4 : decide (Q < V) = false := decide_eq_false (by omega)
        go_enter Tryd.func23, Tryd.ntmps23
        go_wp2_with (first
          | (go_at_call 30; refine (HG0.out _).mono ?_; rintro e w1 ⟨rfl, hw1⟩; subst w1))
        go_loopw [7, 8, 9] (fun av lv i wx => ∃ (k p : Nat) (a : Option Addr) (n c : Nat), k ≤ V ∧ i = .int .i64 k ∧ av = .int .i64 p ∧ lv = .slice a n c ∧ p ≤ s.size ∧ rowP s.data.toList 4 V k = some p ∧ wx.ownsRow w.heap.size 64 2 (.slice a n c) k (cellsE ((List.range k).map (enR s.data.toList 4 V))) ∧ Below w.heap.size w wx) (fun _ _ i _ => V - (intOf i).toNat)
        case atStart => exact ⟨0, 4 + 4 * V, none, 0, 0, Nat.zero_le _, rfl, by go_num, rfl, by omega, rfl, own_nilE _ _ _ _, Below.refl _ _⟩
        case round =>
          obtain ⟨k, p, a, n, c, hk, rfl, rfl, rfl, hps, hP, hO, hB⟩ := hrel
          have HP := hidK hP
          have HO := hidK hO
          clear hP hO
          by_cases hlt : k < V
          · have hk4 : 4 * k + 4 ≤ 4 * V := by omega
            have HGK : Hid (∀ w, Calls Tryd.prog 30 #[.string s, .int .i64 (4 + 4 * (k : Int)), .int .i64 4, .bool false] w fun e w' => e = .returned (.int .i64 (getI (beW s.data.toList (4 + 4 * k) 4))) ∧ w' = w) := fun w => by
              have h := HGET.out (4 + 4 * k) w (by omega)
              rw [show ((4 + 4 * k : Nat) : Int) = 4 + 4 * (k : Int) by omega] at h; exact h
            have HNK := hidK (fun w => HNM.out p w (by omega))
            cases hnm : nmE s.data.toList p with
            | none =>
              have HA : Hid (rowA s.data.toList 4 = none) := rowA_stop (k := k + 1) (by rw [HV.out]; exact rowP_stop HP.out (.inl hnm)) (by rw [HV.out]; omega)
              rw [hnm] at HNK
              clear hnm
              generalize getI (beW s.data.toList (4 + 4 * k) 4) = G at *
              generalize nmV s.data.toList p = NV at *
              go_wp2_with (first
                | (go_at_call 30; refine (HGK.out _).mono ?_; rintro e w1 ⟨rfl, hw1⟩; subst w1)
                | (go_at_call 31; refine (HNK.out _).mono ?_; rintro e w1 ⟨rfl, hw1⟩; subst w1))
              go_ret2
              exact HNO.out _ HA.out hB
            | some e =>
              rw [hnm, nmV_ok hnm] at HNK
              by_cases hpl : beW s.data.toList (4 + 4 * k) 4 ≤ mostI
              · have HPN : Hid (rowP s.data.toList 4 V (k + 1) = some (e + 1)) := rowP_next HP.out hnm hpl
                have HZ : Hid ((nmS s.data.toList p).size = e - p) := nmS_size hnm
                obtain ⟨he1, he2, _⟩ := nmE_some hnm
                have he2 : e < s.size := by rw [HL.out] at he2; exact he2
                have HEN : Hid (enR s.data.toList 4 V k = ⟨nmS s.data.toList p, (beW s.data.toList (4 + 4 * k) 4 : Nat)⟩) := enR_at HP.out
                rw [getI_pos hpl] at HGK
                have hzz : (nmS s.data.toList p).size = e - p := HZ.out
                generalize nmS s.data.toList p = nm at *
                have hpI : (beW s.data.toList (4 + 4 * k) 4 : Int) ≤ 9223372036854775807 := by unfold mostI at hpl; omega
                clear hpl hnm
                generalize beW s.data.toList (4 + 4 * k) 4 = G at *
                have HO2 : Hid (∀ W2 : World, W2.ownsRow w.heap.size 64 2 (.slice none 0 0) 0 [] → True) := fun _ _ => trivial
                have hO := HO.out
                have hBs := hB.size
                go_wp2_with (first
                  | (go_at_call 30; refine (HGK.out _).mono ?_; rintro e' w1 ⟨rfl, hw1⟩; subst w1)
                  | (go_at_call 31; refine (HNK.out _).mono ?_; rintro e' w1 ⟨rfl, hw1⟩; subst w1)
                  | (refine wpList_append_own _ rfl (.tmp 63) (.tmp 67) 31 rfl w.heap.size 64 iE (.agg #[.string ⟨#[]⟩, .int .i64 0]) 2 24 Tryd.underlying31 hiE hzE hsE hbE rfl (by decide) (.slice a n c) k _ rfl (own_upK hO (.cells #[.string nm, .int .i64 (G : Nat)] 64)) ⟨wr.heap.size, 0, none⟩ 1 1 [.string nm, .int .i64 (G : Nat)] rfl rfl (new_rowK wr #[.string nm, .int .i64 (G : Nat)] 64 _ rfl) (by intro u hu; simp at hu; rcases hu with rfl | rfl <;> rfl) (by unfold maxLen; omega) (by omega) (Nat.le_trans hBs (by rw [World.size_alloc]; omega)) ?_; intro v2 w2 o2 g2 _; have hB2 := below_grow (bupK hB (.cells #[.string nm, .int .i64 (G : Nat)] 64)) g2 (own_upK hO (.cells #[.string nm, .int .i64 (G : Nat)] 64)) (Nat.le_refl _); obtain ⟨a2, n2, c2', rfl⟩ := own_sliceE o2; have HO2 := hidK o2; clear o2 g2))
                go_roundw
                case rel =>
                  refine ⟨k + 1, e + 1, a2, n2, c2', by omega, by go_num, ?_, rfl, by omega, HPN.out, ?_, hB2⟩
                  · exact int_eqG (by omega)
                  · rw [cellsE_snoc, HEN.out]; exact HO2.out
                case measure => simp [intOf]; omega
              · have HA : Hid (rowA s.data.toList 4 = none) := rowA_stop (k := k + 1) (by rw [HV.out]; exact rowP_stop HP.out (.inr hpl)) (by rw [HV.out]; omega)
                rw [getI_neg hpl] at HGK
                clear hpl hnm
                generalize nmS s.data.toList p = NV at *
                go_wp2_with (first
                  | (go_at_call 30; refine (HGK.out _).mono ?_; rintro e w1 ⟨rfl, hw1⟩; subst w1)
                  | (go_at_call 31; refine (HNK.out _).mono ?_; rintro e w1 ⟨rfl, hw1⟩; subst w1))
                go_ret2
                exact HNO.out _ HA.out hB
          · obtain rfl : k = V := by omega
            have HE : Hid (rowA s.data.toList 4 = if zerosB s.data.toList p = true then some (rowL s.data.toList 4 k) else none) := by
              have h := rowA_end (b := s.data.toList) (w := 4) (p := p) (by rw [HL.out]; exact hsh) (by rw [HL.out, HV.out]; exact HMY.out) (by rw [HV.out]; exact HP.out)
              rw [HV.out] at h; exact h
            go_wp2
            go_loopw [13] (fun i wx => ∃ j : Nat, p ≤ j ∧ j ≤ s.size ∧ i = .int .i64 j ∧ wx = wr ∧ (∀ x c, p ≤ x → x < j → s.data.toList[x]? = some c → c = 0)) (fun i _ => s.size - (intOf i).toNat)
            case atStart => exact ⟨p, Nat.le_refl _, hps, rfl, rfl, fun x c h1 h2 => absurd h1 (by omega)⟩
            case round =>
              obtain ⟨j, hpj, hjs, rfl, rfl, hz⟩ := hrel
              have HZ := hidK hz
              clear hz
              by_cases hj : j < s.size
              · have hidx := idxG s j (j : Int) rfl hj
                have HAT : Hid (s.data.toList[j]? = some s[j]) := at_someG s j hj
                by_cases h0 : s[j].toNat = 0
                · have c1 : ((s[j].toNat : Int) == 0) = true := by simp; omega
                  have HNX : Hid (∀ x c, p ≤ x → x < j + 1 → s.data.toList[x]? = some c → c = 0) := fun x c h1 h2 h3 => by
                    by_cases e : x = j
                    · subst e; rw [HAT.out] at h3; injection h3 with h3; rw [← h3]; exact UInt8.toNat_inj.1 h0
                    · exact HZ.out x c h1 (by omega) h3
                  clear h0
                  go_wp2
                  go_roundw
                  case rel => exact ⟨j + 1, by omega, by omega, by go_num, by first | rfl | trivial, HNX.out⟩
                  case measure => simp [intOf]; omega
                · have c1 : ((s[j].toNat : Int) == 0) = false := by simp; omega
                  have HA : Hid (rowA s.data.toList 4 = none) := by show _ = _; rw [HE.out, zeros_no hpj HAT.out h0]; rfl
                  clear h0
                  go_wp2
                  go_ret2
                  exact HNO.out _ HA.out hB
              · have HA : Hid (rowA s.data.toList 4 = some (rowL s.data.toList 4 k)) := by
                  show _ = _
                  rw [HE.out, if_pos ((zerosB_iff _ _).2 fun x c h1 h2 => HZ.out x c h1 (by have := (List.getElem?_eq_some_iff.1 h2).1; rw [HL.out] at this; omega) h2)]
                go_wp2
                go_ret2
                rw [HA.out]
                refine ⟨a, n, c, rfl, ?_, hB⟩
                simp only [Option.getD_some]
                rw [rowL_len]
                exact HO.out
    · have HA : Hid (rowA s.data.toList 4 = none) := rowA_many (by rw [HL.out, HV.out]; unfold mostI at hV0; omega)
      rw [getI_neg hV0] at HG0
      clear hV0
      go_enter Tryd.func23, Tryd.ntmps23
      go_wp2_with (first
        | (go_at_call 30; refine (HG0.out _).mono ?_; rintro e w1 ⟨rfl, hw1⟩; subst w1))
      go_ret2
      exact HNO.out _ HA.out (Below.refl _ _)
set_option maxHeartbeats 8000000 in
theorem rbig8_c (s : ByteArray) (w : World) (hm : s.size ≤ 67108864) :
    Calls Tryd.prog 23 #[.string s, .int .i64 8] w fun e w' => ASays (rowA s.data.toList 8) w e w' := by
  obtain ⟨iE, hiE, hzE, hsE, hbE⟩ := info_parts infoE
  have hl : s.data.toList.length = s.size := by simp
  have no : ∀ W : World, rowA s.data.toList 8 = none → Below w.heap.size w W → ASays (rowA s.data.toList 8) w (.returned (.tuple #[.slice none 0 0, .int .i64 110])) W := by
    intro W h hB; rw [h]; exact ⟨none, 0, 0, rfl, own_nilE _ _ _ _, hB⟩
  have HNO := hidK no
  clear no
  have HGET : Hid (∀ (p : Nat) (w : World), p + 8 ≤ s.size → Calls Tryd.prog 30 #[.string s, .int .i64 p, .int .i64 8, .bool false] w fun e w' => e = .returned (.int .i64 (getI (beW s.data.toList p 8))) ∧ w' = w) := fun p w h => rget_be s p 8 w (by omega) h (by omega)
  have HNM : Hid (∀ (p : Nat) (w : World), p ≤ 4611686018427387904 → Calls Tryd.prog 31 #[.string s, .int .i64 p] w fun e w' => e = .returned (.tuple #[.string (nmV s.data.toList p), .bool (nmE s.data.toList p).isSome]) ∧ w' = w) := fun p w h => rname_c s p w (by omega) h
  have HL : Hid (s.data.toList.length = s.size) := hl
  clear hl
  by_cases hsh : s.size < 8
  · have HA : Hid (rowA s.data.toList 8 = none) := rowA_short (by rw [HL.out]; exact hsh)
    go_enter Tryd.func23, Tryd.ntmps23
    go_wp2
    go_ret2
    exact HNO.out _ HA.out (Below.refl _ _)
  · obtain ⟨V, hV⟩ : ∃ V, V = beW s.data.toList 0 8 := ⟨_, rfl⟩
    have HV : Hid (beW s.data.toList 0 8 = V) := hV.symm
    have HG0 : Hid (∀ w, Calls Tryd.prog 30 #[.string s, .int .i64 0, .int .i64 8, .bool false] w fun e w' => e = .returned (.int .i64 (getI V)) ∧ w' = w) := fun w => by have h := HGET.out 0 w (by omega); rw [HV.out] at h; exact h
    clear hV
    have hq : ((s.size : Int) - 8).tdiv 8 = ((s.size - 8) / 8 : Nat) := by
      rw [Int.tdiv_eq_ediv_of_nonneg (by omega)]; omega
    by_cases hV0 : V ≤ mostI
    · have gi := getI_pos hV0
      rw [gi] at HG0
      clear gi
      by_cases hmany : (s.size - 8) / 8 < V
      · have HA : Hid (rowA s.data.toList 8 = none) := rowA_many (by rw [HL.out, HV.out]; exact hmany)
        have c2 : (((s.size - 8) / 8 : Nat) : Int) < (V : Int) := by omega
        clear hmany
        unfold mostI at hV0
        have hQb : (s.size - 8) / 8 ≤ 67108864 := by omega
        generalize (s.size - 8) / 8 = Q at *
        go_enter Tryd.func23, Tryd.ntmps23
        go_wp2_with (first
          | (go_at_call 30; refine (HG0.out _).mono ?_; rintro e w1 ⟨rfl, hw1⟩; subst w1))
        go_ret2
        exact HNO.out _ HA.out (Below.refl _ _)
      · have hVs : 8 * V + 8 ≤ s.size := by omega
        have c2 : ¬ (((s.size - 8) / 8 : Nat) : Int) < (V : Int) := by omega
        have HMY : Hid (¬ (s.size - 8) / 8 < V) := hmany
        clear hmany hV0
        have hQb : (s.size - 8) / 8 ≤ 67108864 := by omega
        generalize (s.size - 8) / 8 = Q at hq c2 hQb
        have d1 : decide ((s.size : Int) < 8) = false := decide_eq_false (by omega)
        have d2 : decide ((V : Int) < 0) = false := decide_eq_false (by omega)
        have d3 : decide ((Q : Int) < (V : Int)) = false := decide_eq_false c2
        have d4 : decide (Q < V) = false := decide_eq_false (by omega)
        go_enter Tryd.func23, Tryd.ntmps23
        go_wp2_with (first
          | (go_at_call 30; refine (HG0.out _).mono ?_; rintro e w1 ⟨rfl, hw1⟩; subst w1))
        go_loopw [7, 8, 9] (fun av lv i wx => ∃ (k p : Nat) (a : Option Addr) (n c : Nat), k ≤ V ∧ i = .int .i64 k ∧ av = .int .i64 p ∧ lv = .slice a n c ∧ p ≤ s.size ∧ rowP s.data.toList 8 V k = some p ∧ wx.ownsRow w.heap.size 64 2 (.slice a n c) k (cellsE ((List.range k).map (enR s.data.toList 8 V))) ∧ Below w.heap.size w wx) (fun _ _ i _ => V - (intOf i).toNat)
        case atStart => exact ⟨0, 8 + 8 * V, none, 0, 0, Nat.zero_le _, rfl, by go_num, rfl, by omega, rfl, own_nilE _ _ _ _, Below.refl _ _⟩
        case round =>
          obtain ⟨k, p, a, n, c, hk, rfl, rfl, rfl, hps, hP, hO, hB⟩ := hrel
          have HP := hidK hP
          have HO := hidK hO
          clear hP hO
          by_cases hlt : k < V
          · have hk4 : 8 * k + 8 ≤ 8 * V := by omega
            have HGK : Hid (∀ w, Calls Tryd.prog 30 #[.string s, .int .i64 (8 + 8 * (k : Int)), .int .i64 8, .bool false] w fun e w' => e = .returned (.int .i64 (getI (beW s.data.toList (8 + 8 * k) 8))) ∧ w' = w) := fun w => by
              have h := HGET.out (8 + 8 * k) w (by omega)
              rw [show ((8 + 8 * k : Nat) : Int) = 8 + 8 * (k : Int) by omega] at h; exact h
            have HNK := hidK (fun w => HNM.out p w (by omega))
            cases hnm : nmE s.data.toList p with
            | none =>
              have HA : Hid (rowA s.data.toList 8 = none) := rowA_stop (k := k + 1) (by rw [HV.out]; exact rowP_stop HP.out (.inl hnm)) (by rw [HV.out]; omega)
              rw [hnm] at HNK
              clear hnm
              generalize getI (beW s.data.toList (8 + 8 * k) 8) = G at *
              generalize nmV s.data.toList p = NV at *
              go_wp2_with (first
                | (go_at_call 30; refine (HGK.out _).mono ?_; rintro e w1 ⟨rfl, hw1⟩; subst w1)
                | (go_at_call 31; refine (HNK.out _).mono ?_; rintro e w1 ⟨rfl, hw1⟩; subst w1))
              go_ret2
              exact HNO.out _ HA.out hB
            | some e =>
              rw [hnm, nmV_ok hnm] at HNK
              by_cases hpl : beW s.data.toList (8 + 8 * k) 8 ≤ mostI
              · have HPN : Hid (rowP s.data.toList 8 V (k + 1) = some (e + 1)) := rowP_next HP.out hnm hpl
                have HZ : Hid ((nmS s.data.toList p).size = e - p) := nmS_size hnm
                obtain ⟨he1, he2, _⟩ := nmE_some hnm
                have he2 : e < s.size := by rw [HL.out] at he2; exact he2
                have HEN : Hid (enR s.data.toList 8 V k = ⟨nmS s.data.toList p, (beW s.data.toList (8 + 8 * k) 8 : Nat)⟩) := enR_at HP.out
                rw [getI_pos hpl] at HGK
                have hzz : (nmS s.data.toList p).size = e - p := HZ.out
                generalize nmS s.data.toList p = nm at *
                have hpI : (beW s.data.toList (8 + 8 * k) 8 : Int) ≤ 9223372036854775807 := by unfold mostI at hpl; omega
                clear hpl hnm
                generalize beW s.data.toList (8 + 8 * k) 8 = G at *
                have HO2 : Hid (∀ W2 : World, W2.ownsRow w.heap.size 64 2 (.slice none 0 0) 0 [] → True) := fun _ _ => trivial
                have hO := HO.out
                have hBs := hB.size
                go_wp2_with (first
                  | (go_at_call 30; refine (HGK.out _).mono ?_; rintro e' w1 ⟨rfl, hw1⟩; subst w1)
                  | (go_at_call 31; refine (HNK.out _).mono ?_; rintro e' w1 ⟨rfl, hw1⟩; subst w1)
                  | (refine wpList_append_own _ rfl (.tmp 63) (.tmp 67) 31 rfl w.heap.size 64 iE (.agg #[.string ⟨#[]⟩, .int .i64 0]) 2 24 Tryd.underlying31 hiE hzE hsE hbE rfl (by decide) (.slice a n c) k _ rfl (own_upK hO (.cells #[.string nm, .int .i64 (G : Nat)] 64)) ⟨wr.heap.size, 0, none⟩ 1 1 [.string nm, .int .i64 (G : Nat)] rfl rfl (new_rowK wr #[.string nm, .int .i64 (G : Nat)] 64 _ rfl) (by intro u hu; simp at hu; rcases hu with rfl | rfl <;> rfl) (by unfold maxLen; omega) (by omega) (Nat.le_trans hBs (by rw [World.size_alloc]; omega)) ?_; intro v2 w2 o2 g2 _; have hB2 := below_grow (bupK hB (.cells #[.string nm, .int .i64 (G : Nat)] 64)) g2 (own_upK hO (.cells #[.string nm, .int .i64 (G : Nat)] 64)) (Nat.le_refl _); obtain ⟨a2, n2, c2', rfl⟩ := own_sliceE o2; have HO2 := hidK o2; clear o2 g2))
                go_roundw
                case rel =>
                  refine ⟨k + 1, e + 1, a2, n2, c2', by omega, by go_num, ?_, rfl, by omega, HPN.out, ?_, hB2⟩
                  · exact int_eqG (by omega)
                  · rw [cellsE_snoc, HEN.out]; exact HO2.out
                case measure => simp [intOf]; omega
              · have HA : Hid (rowA s.data.toList 8 = none) := rowA_stop (k := k + 1) (by rw [HV.out]; exact rowP_stop HP.out (.inr hpl)) (by rw [HV.out]; omega)
                rw [getI_neg hpl] at HGK
                clear hpl hnm
                generalize nmS s.data.toList p = NV at *
                go_wp2_with (first
                  | (go_at_call 30; refine (HGK.out _).mono ?_; rintro e w1 ⟨rfl, hw1⟩; subst w1)
                  | (go_at_call 31; refine (HNK.out _).mono ?_; rintro e w1 ⟨rfl, hw1⟩; subst w1))
                go_ret2
                exact HNO.out _ HA.out hB
          · obtain rfl : k = V := by omega
            have HE : Hid (rowA s.data.toList 8 = if zerosB s.data.toList p = true then some (rowL s.data.toList 8 k) else none) := by
              have h := rowA_end (b := s.data.toList) (w := 8) (p := p) (by rw [HL.out]; exact hsh) (by rw [HL.out, HV.out]; exact HMY.out) (by rw [HV.out]; exact HP.out)
              rw [HV.out] at h; exact h
            go_wp2
            go_loopw [13] (fun i wx => ∃ j : Nat, p ≤ j ∧ j ≤ s.size ∧ i = .int .i64 j ∧ wx = wr ∧ (∀ x c, p ≤ x → x < j → s.data.toList[x]? = some c → c = 0)) (fun i _ => s.size - (intOf i).toNat)
            case atStart => exact ⟨p, Nat.le_refl _, hps, rfl, rfl, fun x c h1 h2 => absurd h1 (by omega)⟩
            case round =>
              obtain ⟨j, hpj, hjs, rfl, rfl, hz⟩ := hrel
              have HZ := hidK hz
              clear hz
              by_cases hj : j < s.size
              · have hidx := idxG s j (j : Int) rfl hj
                have HAT : Hid (s.data.toList[j]? = some s[j]) := at_someG s j hj
                by_cases h0 : s[j].toNat = 0
                · have c1 : ((s[j].toNat : Int) == 0) = true := by simp; omega
                  have HNX : Hid (∀ x c, p ≤ x → x < j + 1 → s.data.toList[x]? = some c → c = 0) := fun x c h1 h2 h3 => by
                    by_cases e : x = j
                    · subst e; rw [HAT.out] at h3; injection h3 with h3; rw [← h3]; exact UInt8.toNat_inj.1 h0
                    · exact HZ.out x c h1 (by omega) h3
                  clear h0
                  go_wp2
                  go_roundw
                  case rel => exact ⟨j + 1, by omega, by omega, by go_num, by first | rfl | trivial, HNX.out⟩
                  case measure => simp [intOf]; omega
                · have c1 : ((s[j].toNat : Int) == 0) = false := by simp; omega
                  have HA : Hid (rowA s.data.toList 8 = none) := by show _ = _; rw [HE.out, zeros_no hpj HAT.out h0]; rfl
                  clear h0
                  go_wp2
                  go_ret2
                  exact HNO.out _ HA.out hB
              · have HA : Hid (rowA s.data.toList 8 = some (rowL s.data.toList 8 k)) := by
                  show _ = _
                  rw [HE.out, if_pos ((zerosB_iff _ _).2 fun x c h1 h2 => HZ.out x c h1 (by have := (List.getElem?_eq_some_iff.1 h2).1; rw [HL.out] at this; omega) h2)]
                go_wp2
                go_ret2
                rw [HA.out]
                refine ⟨a, n, c, rfl, ?_, hB⟩
                simp only [Option.getD_some]
                rw [rowL_len]
                exact HO.out
    · have HA : Hid (rowA s.data.toList 8 = none) := rowA_many (by rw [HL.out, HV.out]; unfold mostI at hV0; omega)
      rw [getI_neg hV0] at HG0
      clear hV0
      go_enter Tryd.func23, Tryd.ntmps23
      go_wp2_with (first
        | (go_at_call 30; refine (HG0.out _).mono ?_; rintro e w1 ⟨rfl, hw1⟩; subst w1))
      go_ret2
      exact HNO.out _ HA.out (Below.refl _ _)
end Go.Proofs.YtcmldlcdgmmafaaDoor
