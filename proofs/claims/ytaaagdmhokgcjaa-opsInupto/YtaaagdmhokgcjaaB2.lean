
-- twinTexts; the document's placed, Append, Normal; the landed Append.
import Derived.Test.YtaaagdmhokgcjaaB1
import Derived.Test.YtaaagdmhokgcjaaW2
namespace Go.Proofs.Ytaaagdmhokgcjaa
open Go.ChangeShapes Go.WideShapes Go.ChangeAt Go.RowKit
set_option linter.unusedVariables false
set_option maxRecDepth 100000
set_option linter.unusedSimpArgs false
theorem own_pushT {B n : Nat} {w : World} {v : Value} {L : List ByteArray} {x : ByteArray} (hn : n = L.length) (h : w.ownsRow B 9 1 v (n + 1) (L.flatMap txL ++ txL x)) : OwnT B w v (L ++ [x]) := by
  unfold OwnT
  rw [List.length_append, List.flatMap_append, List.flatMap_cons, List.flatMap_nil, List.append_nil, ← hn]
  exact h
theorem own_pushI {B n : Nat} {w : World} {v : Value} {L : List Int} {x : Int} (hn : n = L.length) (h : w.ownsRow B 3 1 v (n + 1) (L.flatMap nmL ++ nmL x)) : OwnI B w v (L ++ [x]) := by
  unfold OwnI
  rw [List.length_append, List.flatMap_append, List.flatMap_cons, List.flatMap_nil, List.append_nil, ← hn]
  exact h
set_option maxHeartbeats 4000000 in
theorem twinTexts_c (v : Value) (L : List ByteArray) (w : World) (h : RowT w v L) (hn : L.length ≤ 16777216) :
    Calls Try.prog 21 #[v] w fun e w' => ∃ u, e = .returned u ∧ OwnT w.heap.size w' u L ∧ Below w.heap.size w w' := by
  obtain ⟨a1, c1, q1, _, _⟩ := h.form
  obtain ⟨i0, hi, hz0, hz1, hz2⟩ := info_parts infoTx
  obtain ⟨n, hnn⟩ : ∃ n, n = L.length := ⟨_, rfl⟩
  have HN := hidK hnn
  have HV := hidK h
  subst q1
  rw [← hnn] at hn ⊢ HV
  clear h hnn
  go_enter Try.func21, Try.ntmps21
  go_wp2
  go_loopw [3, 4] (fun o i wx => ∃ k : Nat, i = .int .i64 k ∧ k ≤ n ∧ OwnT w.heap.size wx o (L.take k) ∧ Below w.heap.size w wx) (fun _ i _ => n - (intOf i).toNat)
  case atStart => exact ⟨0, rfl, Nat.zero_le _, ⟨rfl, .inl ⟨rfl, rfl⟩⟩, Below.refl _ _⟩
  case round =>
    obtain ⟨k, rfl, hkn, ho, hB⟩ := hrel
    have HO := hidK ho
    clear ho
    by_cases hk : k < n
    · have kI : (k : Int) < (n : Int) := by omega
      have k0 : (0 : Int) ≤ (k : Int) := by omega
      have hkl : k < L.length := by have := HN.out; omega
      obtain ⟨x, hx⟩ : ∃ x, L[k]? = some x := ⟨_, List.getElem?_eq_getElem hkl⟩
      obtain ⟨b1, o1, p1, e1, d0⟩ := (HV.out.on hB).tx hx
      have HX := hidK hx
      injection e1 with e1 e1b e1c
      subst e1
      clear hx hkl e1b e1c HV
      have ho : wr.ownsRow w.heap.size 9 1 u3 k ((L.take k).flatMap txL) := by have := HO.out; unfold OwnT at this; rw [lenTake (by have := HN.out; omega)] at this; exact this
      clear HO
      go_wp2_with (refine wpList_append_own _ rfl (.tmp 11) (.tmp 16) 23 rfl (w.heap.size) 9 i0 (.string ⟨#[]⟩) 1 16 Try.underlying23 hi hz0 hz1 hz2 rfl (by decide) u3 k ((L.take k).flatMap txL) rfl (own_upK ho _) ⟨wr.heap.size, 0, none⟩ 1 1 (txL x) rfl rfl (new_rowK wr (txL x).toArray 9 (txL x) rfl) (txL_one x) (by unfold maxLen; omega) (by omega) (by rw [World.size_alloc]; have := (hB).size; omega) ?_; intro v2 w2 o2 g2 _; have HB2 := hidK (below_grow (bupK hB (.cells (txL x).toArray 9)) g2 (own_upK ho _) (Nat.le_refl _)); have HO2 := hidK o2; clear o2 g2 ho)
      go_roundw
      case rel =>
        refine ⟨k + 1, by go_num, by omega, ?_, HB2.out⟩
        rw [takeSucc HX.out]
        exact own_pushT (lenTake (by have := HN.out; omega)).symm HO2.out
      case measure => simp [intOf]; omega
    · obtain rfl : k = n := by omega
      clear HV
      have HO2 := HO.out
      rw [List.take_of_length_le (by have := HN.out; omega)] at HO2
      have HO3 := hidK HO2
      clear HO HO2
      go_wp2
      go_ret
      exact ⟨_, rfl, HO3.out, hB⟩
/-- a round that puts a member of a list behind a row -/
theorem put_one {B n : Nat} {w : World} {v : Value} {P L : List Mx} {k : Nat} {x : Mx} (hx : L[k]? = some x) (hn : n = (P ++ L.take k).length) (h : w.ownsRow B 32 7 v (n + 1) ((P ++ L.take k).flatMap mxL ++ mxL x)) : OwnM B w v (P ++ L.take (k + 1)) := by
  rw [takeSucc hx, ← List.append_assoc]
  exact own_push hn h
set_option maxHeartbeats 4000000 in
theorem placed_c (v1 v2 : Value) (L M : List Mx) (p : Nat) (w : World) (h1 : RowM w v1 L) (h2 : RowM w v2 M) (hp : p ≤ L.length) (hl : L.length ≤ 16777216) (hm : M.length ≤ 16777216) :
    Calls Try.prog 29 #[v1, v2, .int .i64 p] w fun e w' => ∃ u, e = .returned u ∧ OwnM w.heap.size w' u (L.take p ++ (M ++ L.drop p)) ∧ Below w.heap.size w w' := by
  obtain ⟨a1, c1, q1, _, _⟩ := h1.form
  obtain ⟨a2, c2, q2, _, _⟩ := h2.form
  obtain ⟨i0, hi, hz0, hz1, hz2⟩ := info_parts infoMx
  obtain ⟨n, hnn⟩ : ∃ n, n = L.length := ⟨_, rfl⟩
  obtain ⟨m, hmm⟩ : ∃ m, m = M.length := ⟨_, rfl⟩
  have HN := hidK hnn
  have HM := hidK hmm
  have HV := hidK h1
  have HW := hidK h2
  subst q1
  subst q2
  rw [← hnn] at hl hp ⊢ HV
  rw [← hmm] at hm ⊢ HW
  clear h1 h2 hnn hmm
  go_enter Try.func29, Try.ntmps29
  go_wp2
  go_loopw [7, 8] (fun o i wx => ∃ k : Nat, i = .int .i64 k ∧ k ≤ p ∧ OwnM w.heap.size wx o (L.take k) ∧ Below w.heap.size w wx) (fun _ i _ => p - (intOf i).toNat)
  case atStart => exact ⟨0, rfl, Nat.zero_le _, ⟨rfl, .inl ⟨rfl, rfl⟩⟩, Below.refl _ _⟩
  case round =>
    obtain ⟨k, rfl, hkn, ho, hB⟩ := hrel
    have HO := hidK ho
    clear ho
    by_cases hk : k < p
    · have kI : (k : Int) < (p : Int) := by omega
      have kJ : (k : Int) < (n : Int) := by omega
      have kN : k < n := by omega
      have k0 : (0 : Int) ≤ (k : Int) := by omega
      have hkl : k < L.length := by have := HN.out; omega
      obtain ⟨⟨dd, uu, gg, mm, nn, zz, dt⟩, hx⟩ : ∃ x, L[k]? = some x := ⟨_, List.getElem?_eq_getElem hkl⟩
      obtain ⟨b1, o1, p1, e1, d0, d1, d2, d3, d4, d5, d6⟩ := (HV.out.on hB).mx hx
      have HX := hidK hx
      injection e1 with e1 e1b e1c
      subst e1
      clear hx hkl e1b e1c HV HW
      have ho : wr.ownsRow w.heap.size 32 7 u7 k ((L.take k).flatMap mxL) := by have := HO.out; unfold OwnM at this; rw [lenTake (by have := HN.out; omega)] at this; exact this
      clear HO
      go_wp2_with (refine wpList_append_own _ rfl (.tmp 16) (.tmp 21) 22 rfl (w.heap.size) 32 i0 (.agg #[.int .i64 0, .int .i64 0, .int .i64 0, .int .i64 0, .string ⟨#[]⟩, .int .i64 0, .string ⟨#[]⟩]) 7 72 Try.underlying22 hi hz0 hz1 hz2 rfl (by decide) u7 k ((L.take k).flatMap mxL) rfl (own_upK ho _) ⟨wr.heap.size, 0, none⟩ 1 1 (mxL ⟨dd, uu, gg, mm, nn, zz, dt⟩) rfl rfl (new_rowK wr (mxL ⟨dd, uu, gg, mm, nn, zz, dt⟩).toArray 32 (mxL ⟨dd, uu, gg, mm, nn, zz, dt⟩) rfl) (mxL_one ⟨dd, uu, gg, mm, nn, zz, dt⟩) (by unfold maxLen; omega) (by omega) (by rw [World.size_alloc]; have := (hB).size; omega) ?_; intro v2 w2 o2 g2 _; have HB2 := hidK (below_grow (bupK hB (.cells (mxL ⟨dd, uu, gg, mm, nn, zz, dt⟩).toArray 32)) g2 (own_upK ho _) (Nat.le_refl _)); have HO2 := hidK o2; clear o2 g2 ho)
      go_roundw
      case rel =>
        refine ⟨k + 1, by go_num, by omega, ?_, HB2.out⟩
        rw [takeSucc HX.out]
        exact own_push (lenTake (by have := HN.out; omega)).symm HO2.out
      case measure => simp [intOf]; omega
    · obtain rfl : k = p := by omega
      go_wp2
      go_loopw [7, 9] (fun o i wx => ∃ j : Nat, i = .int .i64 j ∧ j ≤ m ∧ OwnM w.heap.size wx o (L.take k ++ M.take j) ∧ Below w.heap.size w wx) (fun _ i _ => m - (intOf i).toNat)
      case atStart => exact ⟨0, rfl, Nat.zero_le _, by rw [List.take_zero, List.append_nil]; exact HO.out, hB⟩
      case round =>
        clear hB HO
        obtain ⟨j, rfl, hjn, ho, hB⟩ := hrel
        have HO := hidK ho
        clear ho
        by_cases hj : j < m
        · have kI : (j : Int) < (m : Int) := by omega
          have k0 : (0 : Int) ≤ (j : Int) := by omega
          have hkl : j < M.length := by have := HM.out; omega
          obtain ⟨⟨dd, uu, gg, mm, nn, zz, dt⟩, hx⟩ : ∃ x, M[j]? = some x := ⟨_, List.getElem?_eq_getElem hkl⟩
          obtain ⟨b1, o1, p1, e1, d0, d1, d2, d3, d4, d5, d6⟩ := (HW.out.on hB).mx hx
          have HX := hidK hx
          injection e1 with e1 e1b e1c
          subst e1
          clear hx hkl e1b e1c HV HW
          have HL : Hid ((L.take k ++ M.take j).length = k + j) := by rw [List.length_append, lenTake (by have := HN.out; omega), lenTake (by have := HM.out; omega)]; exact rfl
          have ho : wr.ownsRow w.heap.size 32 7 u7 (k + j) ((L.take k ++ M.take j).flatMap mxL) := by have := HO.out; unfold OwnM at this; rw [HL.out] at this; exact this
          clear HO
          go_wp2_with (refine wpList_append_own _ rfl (.tmp 29) (.tmp 34) 22 rfl (w.heap.size) 32 i0 (.agg #[.int .i64 0, .int .i64 0, .int .i64 0, .int .i64 0, .string ⟨#[]⟩, .int .i64 0, .string ⟨#[]⟩]) 7 72 Try.underlying22 hi hz0 hz1 hz2 rfl (by decide) u7 (k + j) ((L.take k ++ M.take j).flatMap mxL) rfl (own_upK ho _) ⟨wr.heap.size, 0, none⟩ 1 1 (mxL ⟨dd, uu, gg, mm, nn, zz, dt⟩) rfl rfl (new_rowK wr (mxL ⟨dd, uu, gg, mm, nn, zz, dt⟩).toArray 32 (mxL ⟨dd, uu, gg, mm, nn, zz, dt⟩) rfl) (mxL_one ⟨dd, uu, gg, mm, nn, zz, dt⟩) (by unfold maxLen; omega) (by omega) (by rw [World.size_alloc]; have := (hB).size; omega) ?_; intro v2 w2 o2 g2 _; have HB2 := hidK (below_grow (bupK hB (.cells (mxL ⟨dd, uu, gg, mm, nn, zz, dt⟩).toArray 32)) g2 (own_upK ho _) (Nat.le_refl _)); have HO2 := hidK o2; clear o2 g2 ho)
          go_roundw
          case rel => exact ⟨j + 1, by go_num, by omega, put_one HX.out HL.out.symm HO2.out, HB2.out⟩
          case measure => simp [intOf]; omega
        · obtain rfl : j = m := by omega
          have HO2 := HO.out
          rw [List.take_of_length_le (l := M) (by have := HM.out; omega)] at HO2
          have HO3 := hidK HO2
          clear HO HO2
          go_wp2
          go_loopw [7, 10] (fun o i wx => ∃ i' : Nat, i = .int .i64 i' ∧ k ≤ i' ∧ i' ≤ n ∧ OwnM w.heap.size wx o ((L.take k ++ M) ++ (L.drop k).take (i' - k)) ∧ Below w.heap.size w wx) (fun _ i _ => n - (intOf i).toNat)
          case atStart => exact ⟨k, rfl, Nat.le_refl _, by omega, by rw [Nat.sub_self, List.take_zero, List.append_nil]; exact HO3.out, hB⟩
          case round =>
            clear hB HO3
            obtain ⟨i', rfl, hki, hin, ho, hB⟩ := hrel
            have HO := hidK ho
            clear ho
            by_cases hi' : i' < n
            · have kI : (i' : Int) < (n : Int) := by omega
              have k0 : (0 : Int) ≤ (i' : Int) := by omega
              have hkl : i' < L.length := by have := HN.out; omega
              obtain ⟨⟨dd, uu, gg, mm, nn, zz, dt⟩, hx⟩ : ∃ x, L[i']? = some x := ⟨_, List.getElem?_eq_getElem hkl⟩
              obtain ⟨b1, o1, p1, e1, d0, d1, d2, d3, d4, d5, d6⟩ := (HV.out.on hB).mx hx
              have hxd : (L.drop k)[i' - k]? = some ⟨dd, uu, gg, mm, nn, zz, dt⟩ := by rw [List.getElem?_drop, show k + (i' - k) = i' by omega]; exact hx
              have HX := hidK hxd
              injection e1 with e1 e1b e1c
              subst e1
              clear hx hkl e1b e1c HV HW hxd
              have HL : Hid (((L.take k ++ M) ++ (L.drop k).take (i' - k)).length = k + j + (i' - k)) := by
                have h1 := HN.out; have h2 := HM.out
                show _ = _
                rw [List.length_append, List.length_append, lenTake (by omega), lenTake (by rw [List.length_drop]; omega), h2]
              have ho : wr.ownsRow w.heap.size 32 7 u7 (k + j + (i' - k)) (((L.take k ++ M) ++ (L.drop k).take (i' - k)).flatMap mxL) := by have := HO.out; unfold OwnM at this; rw [HL.out] at this; exact this
              clear HO
              go_wp2_with (refine wpList_append_own _ rfl (.tmp 43) (.tmp 48) 22 rfl (w.heap.size) 32 i0 (.agg #[.int .i64 0, .int .i64 0, .int .i64 0, .int .i64 0, .string ⟨#[]⟩, .int .i64 0, .string ⟨#[]⟩]) 7 72 Try.underlying22 hi hz0 hz1 hz2 rfl (by decide) u7 (k + j + (i' - k)) (((L.take k ++ M) ++ (L.drop k).take (i' - k)).flatMap mxL) rfl (own_upK ho _) ⟨wr.heap.size, 0, none⟩ 1 1 (mxL ⟨dd, uu, gg, mm, nn, zz, dt⟩) rfl rfl (new_rowK wr (mxL ⟨dd, uu, gg, mm, nn, zz, dt⟩).toArray 32 (mxL ⟨dd, uu, gg, mm, nn, zz, dt⟩) rfl) (mxL_one ⟨dd, uu, gg, mm, nn, zz, dt⟩) (by unfold maxLen; omega) (by omega) (by rw [World.size_alloc]; have := (hB).size; omega) ?_; intro v2 w2 o2 g2 _; have HB2 := hidK (below_grow (bupK hB (.cells (mxL ⟨dd, uu, gg, mm, nn, zz, dt⟩).toArray 32)) g2 (own_upK ho _) (Nat.le_refl _)); have HO2 := hidK o2; clear o2 g2 ho)
              go_roundw
              case rel =>
                refine ⟨i' + 1, by go_num, by omega, by omega, ?_, HB2.out⟩
                rw [show i' + 1 - k = i' - k + 1 by omega]
                exact put_one HX.out HL.out.symm HO2.out
              case measure => simp [intOf]; omega
            · obtain rfl : i' = n := by omega
              have HO2 := HO.out
              rw [List.take_of_length_le (l := L.drop k) (by rw [List.length_drop]; have := HN.out; omega), List.append_assoc] at HO2
              have HO3 := hidK HO2
              clear HO HO2 HV HW
              go_wp2
              go_ret
              exact ⟨_, rfl, HO3.out, hB⟩
theorem rappend_c (v1 v2 : Value) (L M : List Mx) (w : World) (h1 : RowM w v1 L) (h2 : RowM w v2 M) (hl : L.length ≤ 16777216) (hm : M.length ≤ 16777216) :
    Calls Try.prog 17 #[v1, v2] w fun e w' => ∃ u, e = .returned u ∧ OwnM w.heap.size w' u (L ++ M) ∧ Below w.heap.size w w' := by
  have HP := hidK (placed_c v1 v2 L M L.length w h1 h2 (Nat.le_refl _) hl hm)
  rw [List.take_of_length_le (Nat.le_refl _), List.drop_eq_nil_of_le (Nat.le_refl _), List.append_nil] at HP
  obtain ⟨a1, c1, q1, _, _⟩ := h1.form
  obtain ⟨n, hnn⟩ : ∃ n, n = L.length := ⟨_, rfl⟩
  subst q1
  rw [← hnn] at hl HP ⊢
  clear h1 h2 hnn
  go_enter Try.func17, Try.ntmps17
  go_wp2_with (go_at_call 29; refine HP.out.mono ?_; rintro e w1 ⟨u, rfl, ho, hb⟩)
  go_ret
  exact ⟨_, rfl, ho, hb⟩
theorem append_c (v1 v2 : Value) (L M : List Mx) (w : World) (h1 : RowM w v1 L) (h2 : RowM w v2 M) (hl : L.length ≤ 16777216) (hm : M.length ≤ 16777216) :
    Calls Try.prog 16 #[v1, v2] w fun e w' => ∃ u, e = .returned u ∧ OwnM w.heap.size w' u (L ++ M) ∧ Below w.heap.size w w' := by
  have HP := hidK (withBlock_c v1 v2 L M L.length w h1 h2 (Nat.le_refl _) hl hm)
  rw [List.take_of_length_le (Nat.le_refl _), List.drop_eq_nil_of_le (Nat.le_refl _), List.append_nil] at HP
  obtain ⟨a1, c1, q1, _, _⟩ := h1.form
  obtain ⟨n, hnn⟩ : ∃ n, n = L.length := ⟨_, rfl⟩
  subst q1
  rw [← hnn] at hl HP ⊢
  clear h1 h2 hnn
  go_enter Try.func16, Try.ntmps16
  go_wp2_with (go_at_call 28; refine HP.out.mono ?_; rintro e w1 ⟨u, rfl, ho, hb⟩)
  go_ret
  exact ⟨_, rfl, ho, hb⟩
end Go.Proofs.Ytaaagdmhokgcjaa
