
-- members, anchored, named, fresh: contracts.
import Derived.Test.YtaaagdmhokgcjabPU
import Derived.Deep.RegionWith
namespace Go.Proofs.Ytaaagdmhokgcjab
open Go.ChangeShapes Go.WideShapes Go.ChangeAt Go.RowKit
set_option linter.unusedVariables false
set_option maxRecDepth 100000
set_option linter.unusedSimpArgs false
set_option maxHeartbeats 4000000 in
theorem members_c (v : Value) (L : List Mx) (q : ByteArray) (w : World) (h : RowM w v L) (hn : L.length ≤ 16777216) :
    Calls Try.prog 19 #[v, .string q] w fun e w' => e = .returned (.int .i64 (cnt (nms L) q : Nat)) ∧ w' = w := by
  obtain ⟨a1, c1, q1, _, _⟩ := h.form
  obtain ⟨n, hnn⟩ : ∃ n, n = L.length := ⟨_, rfl⟩
  have HN := hidK hnn
  have HV := hidK h
  obtain ⟨R, hR⟩ : ∃ R : Nat, R = cnt (nms L) q := ⟨_, rfl⟩
  have HR := hidK hR
  rw [← hR]
  subst q1
  rw [← hnn] at hn ⊢ HV
  clear h hnn hR
  go_enter Try.func19, Try.ntmps19
  go_wp2
  go_loopw [5, 6] (fun c i wx => ∃ k z : Nat, i = .int .i64 k ∧ c = .int .i64 z ∧ k ≤ n ∧ z = cnt (nms (L.take k)) q ∧ wx = w) (fun _ i _ => n - (intOf i).toNat)
  case atStart => exact ⟨0, 0, rfl, rfl, Nat.zero_le _, rfl, rfl⟩
  case round =>
    obtain ⟨k, z, rfl, rfl, hkn, hz, rfl⟩ := hrel
    have hzk : z ≤ k := by rw [hz]; exact Nat.le_trans (cnt_le _ _) (by rw [List.length_map, List.length_take]; omega)
    have HZ := hidK hz
    clear hz
    by_cases hk : k < n
    · have kI : (k : Int) < (n : Int) := by omega
      have k0 : (0 : Int) ≤ (k : Int) := by omega
      have hkl : k < L.length := by have := HN.out; omega
      obtain ⟨⟨dd, uu, gg, mm, nn, zz, dt⟩, hx⟩ : ∃ x, L[k]? = some x := ⟨_, List.getElem?_eq_getElem hkl⟩
      obtain ⟨b1, o1, p1, e1, d0, d1, d2, d3, d4, d5, d6⟩ := HV.out.mx hx
      have HX := hidK hx
      simp only [] at d4
      injection e1 with e1 e1b e1c
      subst e1
      have HSN : Hid (∀ y, cnt (nms (L.take (k + 1))) y = cnt (nms (L.take k)) y + (if nn = y then 1 else 0)) := by
        intro y; rw [takeSnoc HX.out, nms_app13]; exact cnt_snoc _ _ _
      clear hx hkl e1b e1c HV d0 d1 d2 d3 d5 d6 HR
      by_cases hq : nn = q
      · subst hq
        go_wp2
        go_roundw
        case rel => exact ⟨k + 1, z + 1, by go_num, by go_num, by omega, by rw [HSN.out, if_pos rfl, HZ.out], trivial⟩
        case measure => simp [intOf]; omega
      · have h1 := strNe hq
        have HQ := hidK hq
        clear hq
        go_wp2
        go_roundw
        case rel => exact ⟨k + 1, z, by go_num, rfl, by omega, by rw [HSN.out, if_neg HQ.out, HZ.out, Nat.add_zero], trivial⟩
        case measure => simp [intOf]; omega
    · obtain rfl : k = n := by omega
      have HE : Hid (z = R) := by show _ = _; rw [HZ.out, HR.out, List.take_of_length_le (by have := HN.out; omega)]
      clear HV HZ HR
      go_wp2
      go_ret
      exact ⟨by rw [HE.out]; rfl, rfl⟩
def ancB (pw : Int) : Bool := decide (pw = 1 ∨ pw = 2)
theorem anchored_c (pw : Int) (pa : ByteArray) (w : World) :
    Calls Try.prog 18 #[.agg #[.int .i64 pw, .string pa]] w fun e w' => e = .returned (.bool (ancB pw)) ∧ Below w.heap.size w w' := by
  have c00 : (w.alloc (.cells #[.int .i64 pw, .string pa] 25)).cell? ⟨w.heap.size, 0, none⟩ = some (.int .i64 pw) := cell_rowK (heap_alloc_new w _) 0 _ rfl
  have HB0 := hidK (bupK (Below.refl w.heap.size w) (.cells #[.int .i64 pw, .string pa] 25))
  go_enter Try.func18, Try.ntmps18
  by_cases h1 : pw = 1
  · subst h1
    go_wp2
    go_ret
    exact ⟨rfl, HB0.out⟩
  · by_cases h2 : pw = 2
    · subst h2
      go_wp2
      go_ret
      exact ⟨rfl, HB0.out⟩
    · have e : ancB pw = false := by unfold ancB; simp [h1, h2]
      rw [e]
      have b1 : (pw == 1) = false := by simp [h1]
      have b2 : (pw == 2) = false := by simp [h2]
      go_wp2
      go_ret
      exact ⟨by first | rfl | simp [h1, h2], HB0.out⟩
set_option maxHeartbeats 4000000 in
theorem named_c (v : Value) (L : List Mx) (w : World) (h : RowM w v L) (hn : L.length ≤ 16777216) :
    Calls Try.prog 21 #[v] w fun e w' => ∃ u, e = .returned u ∧ OwnT w.heap.size w' u (nms L) ∧ Below w.heap.size w w' := by
  obtain ⟨a1, c1, q1, _, _⟩ := h.form
  obtain ⟨i0, hi, hz0, hz1, hz2⟩ := info_parts infoTx
  obtain ⟨n, hnn⟩ : ∃ n, n = L.length := ⟨_, rfl⟩
  have HN := hidK hnn
  have HV := hidK h
  subst q1
  rw [← hnn] at hn ⊢ HV
  clear h hnn
  go_enter Try.func21, Try.ntmps21
  go_wp2
  go_loopw [3, 4] (fun o i wx => ∃ k : Nat, i = .int .i64 k ∧ k ≤ n ∧ OwnT w.heap.size wx o (nms (L.take k)) ∧ Below w.heap.size w wx) (fun _ i _ => n - (intOf i).toNat)
  case atStart => exact ⟨0, rfl, Nat.zero_le _, ⟨rfl, .inl ⟨rfl, rfl⟩⟩, Below.refl _ _⟩
  case round =>
    obtain ⟨k, rfl, hkn, ho, hB⟩ := hrel
    have HO := hidK ho
    clear ho
    by_cases hk : k < n
    · have kI : (k : Int) < (n : Int) := by omega
      have k0 : (0 : Int) ≤ (k : Int) := by omega
      have hkl : k < L.length := by have := HN.out; omega
      obtain ⟨⟨dd, uu, gg, mm, nn, zz, dt⟩, hx⟩ : ∃ x, L[k]? = some x := ⟨_, List.getElem?_eq_getElem hkl⟩
      obtain ⟨b1, o1, p1, e1, d0, d1, d2, d3, d4, d5, d6⟩ := (HV.out.on hB).mx hx
      have HX := hidK hx
      simp only [] at d4
      injection e1 with e1 e1b e1c
      subst e1
      have HL : Hid ((nms (L.take k)).length = k) := by show _ = _; rw [List.length_map]; exact lenTake (by have := HN.out; omega)
      have ho : wr.ownsRow w.heap.size 9 1 u3 k ((nms (L.take k)).flatMap txL) := ownT_form HL.out HO.out
      clear hx hkl e1b e1c HV d0 d1 d2 d3 d5 d6 HO
      go_wp2_with (refine wpList_append_own _ rfl (.tmp 11) (.tmp 17) 23 rfl (w.heap.size) 9 i0 (.string ⟨#[]⟩) 1 16 Try.underlying23 hi hz0 hz1 hz2 rfl (by decide) u3 k ((nms (L.take k)).flatMap txL) rfl (own_upK ho _) ⟨wr.heap.size, 0, none⟩ 1 1 (txL nn) rfl rfl (new_rowK wr (txL nn).toArray 9 (txL nn) rfl) (txL_one nn) (by unfold maxLen; omega) (by omega) (by rw [World.size_alloc]; have := (hB).size; omega) ?_; intro v2 w2 o2 g2 _; have HB2 := hidK (below_grow (bupK hB (.cells (txL nn).toArray 9)) g2 (own_upK ho _) (Nat.le_refl _)); have HO2 := hidK o2; clear o2 g2 ho)
      go_roundw
      case rel =>
        refine ⟨k + 1, by go_num, by omega, ?_, HB2.out⟩
        rw [takeSucc HX.out, nms_app13]
        exact own_pushT HL.out.symm HO2.out
      case measure => simp [intOf]; omega
    · obtain rfl : k = n := by omega
      have HO2 := HO.out
      rw [List.take_of_length_le (by have := HN.out; omega)] at HO2
      have HO3 := hidK HO2
      clear HO HO2 HV
      go_wp2
      go_ret
      exact ⟨_, rfl, HO3.out, hB⟩
/-- the beginning of a list -/
theorem row_take {w : World} {b off cap n k : Nat} {L : List Mx} (h : RowM w (.slice (some ⟨b, off, none⟩) n cap) L) (hn : L.length = n) (hk : k ≤ n) : RowM w (.slice (some ⟨b, off, none⟩) k cap) (L.take k) := by
  obtain ⟨ao, c1, e, h1, h2, h3, h4⟩ := h
  injection e with e1 e2 e3
  subst e1
  subst e3
  have l1 : (L.take k).length = k := lenTake (by omega)
  refine ⟨_, cap, by rw [l1], by rw [l1]; omega, h2, h3, fun hp => ?_⟩
  rw [l1] at hp
  obtain ⟨b', off', e', hc⟩ := h4 (by omega)
  refine ⟨b', off', e', fun j u hu => hc j u ?_⟩
  rw [← flatG_take mxL 7 mxL_len, List.getElem?_take] at hu
  split at hu
  · exact hu
  · cases hu
set_option maxHeartbeats 8000000 in
theorem fresh_c (v v2 : Value) (L M : List Mx) (w : World) (h : RowM w v L) (h2 : RowM w v2 M) (hl : L.length ≤ 16777216) (hm : M.length ≤ 16777216) :
    Calls Try.prog 20 #[v, v2] w fun e w' => ∃ u, e = .returned u ∧ OwnM w.heap.size w' u (frsh L M M.length) ∧ Below w.heap.size w w' := by
  obtain ⟨a1, c1, q1, _, _⟩ := h.form
  obtain ⟨a2, c2, q2, hcc, hcm⟩ := h2.form
  obtain ⟨i0, hi, hz0, hz1, hz2⟩ := info_parts infoMx
  obtain ⟨n, hnn⟩ : ∃ n, n = L.length := ⟨_, rfl⟩
  obtain ⟨m, hmm⟩ : ∃ m, m = M.length := ⟨_, rfl⟩
  have HN := hidK hnn
  have HM := hidK hmm
  have HV := hidK h
  have HW := hidK h2
  subst q1
  subst q2
  rw [← hnn] at hl ⊢ HV
  rw [← hmm] at hm ⊢ HW hcc
  have hcm' : c2 ≤ 9223372036854775807 := hcm
  clear h h2 hnn hmm hcm
  go_enter Try.func20, Try.ntmps20
  go_wp2
  go_loopw [5, 6] (fun o i wx => ∃ k : Nat, i = .int .i64 k ∧ k ≤ m ∧ OwnM w.heap.size wx o (frsh L M k) ∧ Below w.heap.size w wx) (fun _ i _ => m - (intOf i).toNat)
  case atStart => exact ⟨0, rfl, Nat.zero_le _, ⟨rfl, .inl ⟨rfl, rfl⟩⟩, Below.refl _ _⟩
  case round =>
    obtain ⟨k, rfl, hkn, ho, hB⟩ := hrel
    have HO := hidK ho
    clear ho
    by_cases hk : k < m
    · have kI : (k : Int) < (m : Int) := by omega
      have k0 : (0 : Int) ≤ (k : Int) := by omega
      have kc : (k : Int) ≤ (c2 : Int) := by omega
      have hkc : k ≤ c2 := by omega
      have hkl : k < M.length := by have := HM.out; omega
      obtain ⟨⟨dd, uu, gg, mm, nn, zz, dt⟩, hx⟩ : ∃ x, M[k]? = some x := ⟨_, List.getElem?_eq_getElem hkl⟩
      obtain ⟨b1, o1, p1, e1, d0, d1, d2, d3, d4, d5, d6⟩ := (HW.out.on hB).mx hx
      have HX := hidK hx
      simp only [] at d0 d1 d2 d3 d4 d5 d6
      injection e1 with e1 e1b e1c
      subst e1
      have HC1 := hidK (fun (W : World) (hb : Below w.heap.size w W) => members_c (.slice a1 n c1) L nn W (HV.out.on hb) (by have := HN.out; omega))
      have HC2 := hidK (fun (W : World) (hb : Below w.heap.size w W) => members_c (.slice (some ⟨b1, o1, none⟩) k c2) (M.take k) nn W (row_take (HW.out.on hb) HM.out.symm (by omega)) (by rw [List.length_take]; have := HM.out; omega))
      obtain ⟨z1, hz1⟩ : ∃ z1, z1 = cnt (nms L) nn := ⟨_, rfl⟩
      obtain ⟨z2, hz2'⟩ : ∃ z2, z2 = cnt (nms (M.take k)) nn := ⟨_, rfl⟩
      have HZ1 := hidK hz1
      have HZ2 := hidK hz2'
      rw [← hz1] at HC1
      rw [← hz2'] at HC2
      have HBr := hidK hB
      clear hx hkl e1b e1c HV HW hz1 hz2' hB
      by_cases hA : z1 = 0
      · subst hA
        by_cases hD : z2 = 0
        · subst hD
          have HF := hidK (frsh_in (L := L) HX.out HZ1.out.symm HZ2.out.symm)
          go_wp2_with fail
          go_quiet (first | (go_at_call_of 19 a1; exact Calls.quiet_of_same (HC1.out _ (by first | exact HBr.out | exact belDrewN HBr.out _))) | (go_at_call_of 19 b1; exact Calls.quiet_of_same (HC2.out _ (by first | exact HBr.out | exact belDrewN HBr.out _))))
          have hbq := belDrewN (Below.refl wr.heap.size wr) nq
          generalize wr.drewN nq = w3 at hbq ⊢
          have hB3 := bel3K HBr.out hbq
          obtain ⟨lf, hlf⟩ : ∃ lf, (frsh L M k).length = lf := ⟨_, rfl⟩
          have hlb : lf ≤ 16777216 := by rw [← hlf]; exact Nat.le_trans (frsh_len _ _ _) (by omega)
          have HLF := hidK hlf
          have ho := ownM_form hlf (HO.out.on hbq)
          have d0 := cell_onA d0 hbq
          have d1 := cell_onA d1 hbq
          have d2 := cell_onA d2 hbq
          have d3 := cell_onA d3 hbq
          have d4 := cell_onA d4 hbq
          have d5 := cell_onA d5 hbq
          have d6 := cell_onA d6 hbq
          clear hbq hlf HO HC1 HC2 HBr HZ1 HZ2
          go_wp2_with (refine wpList_append_own _ rfl (.tmp 33) (.tmp 38) 22 rfl (w.heap.size) 29 i0 (.agg #[.int .i64 0, .int .i64 0, .int .i64 0, .int .i64 0, .string ⟨#[]⟩, .int .i64 0, .string ⟨#[]⟩]) 7 72 Try.underlying22 hi hz0 hz1 hz2 rfl (by decide) u5 lf ((frsh L M k).flatMap mxL) rfl (own_upK ho _) ⟨w3.heap.size, 0, none⟩ 1 1 (mxL ⟨dd, uu, gg, mm, nn, zz, dt⟩) rfl rfl (new_rowK w3 (mxL ⟨dd, uu, gg, mm, nn, zz, dt⟩).toArray 29 (mxL ⟨dd, uu, gg, mm, nn, zz, dt⟩) rfl) (mxL_one ⟨dd, uu, gg, mm, nn, zz, dt⟩) (by unfold maxLen; omega) (by omega) (by rw [World.size_alloc]; have := (hB3).size; omega) ?_; intro v2 w2 o2 g2 _; have HB2 := hidK (below_grow (bupK hB3 (.cells (mxL ⟨dd, uu, gg, mm, nn, zz, dt⟩).toArray 29)) g2 (own_upK ho _) (Nat.le_refl _)); have HO2 := hidK o2; clear o2 g2 ho)
          go_roundw
          case rel =>
            refine ⟨k + 1, by go_num, by omega, ?_, HB2.out⟩
            rw [HF.out]
            exact own_push HLF.out.symm HO2.out
          case measure => simp [intOf]; omega
        · have HF := hidK (frsh_out (L := L) HX.out (fun h => hD (by rw [HZ2.out]; exact h.2)))
          have t1 : ((z2 : Int) == 0) = false := by simp; omega
          have t2 : decide ((z2 : Int) = 0) = false := by simp; omega
          have t3 : ¬ ((z2 : Int) = 0) := by omega
          go_wp2_with fail
          go_quiet (first | (go_at_call_of 19 a1; exact Calls.quiet_of_same (HC1.out _ (by first | exact HBr.out | exact belDrewN HBr.out _))) | (go_at_call_of 19 b1; exact Calls.quiet_of_same (HC2.out _ (by first | exact HBr.out | exact belDrewN HBr.out _))))
          have hbq := belDrewN (Below.refl wr.heap.size wr) nq
          generalize wr.drewN nq = w3 at hbq ⊢
          have HB3 := hidK (bel3K HBr.out hbq)
          have HO3 := hidK (HO.out.on hbq)
          clear hbq HO HC1 HC2 HBr HZ1 HZ2
          go_wp2
          go_roundw
          case rel => exact ⟨k + 1, by go_num, by omega, by rw [HF.out]; exact HO3.out, HB3.out⟩
          case measure => simp [intOf]; omega
      · have HF := hidK (frsh_out (L := L) HX.out (fun h => hA (by rw [HZ1.out]; exact h.1)))
        have t1 : ((z1 : Int) == 0) = false := by simp; omega
        have t2 : decide ((z1 : Int) = 0) = false := by simp; omega
        have t3 : ¬ ((z1 : Int) = 0) := by omega
        go_wp2_with fail
        go_quiet (first | (go_at_call_of 19 a1; exact Calls.quiet_of_same (HC1.out _ (by first | exact HBr.out | exact belDrewN HBr.out _))) | (go_at_call_of 19 b1; exact Calls.quiet_of_same (HC2.out _ (by first | exact HBr.out | exact belDrewN HBr.out _))))
        have hbq := belDrewN (Below.refl wr.heap.size wr) nq
        generalize wr.drewN nq = w3 at hbq ⊢
        have HB3 := hidK (bel3K HBr.out hbq)
        have HO3 := hidK (HO.out.on hbq)
        clear hbq HO HC1 HC2 HBr HZ1 HZ2
        go_wp2
        go_roundw
        case rel => exact ⟨k + 1, by go_num, by omega, by rw [HF.out]; exact HO3.out, HB3.out⟩
        case measure => simp [intOf]; omega
    · obtain rfl : k = m := by omega
      clear HV HW
      go_wp2
      go_ret
      exact ⟨_, rfl, HO.out, hB⟩
end Go.Proofs.Ytaaagdmhokgcjab
