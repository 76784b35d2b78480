
-- ops.without, ops.only: contracts.
import Derived.Test.YtaaagdmhokgcjabS2
import Derived.Test.YtaaagdmhokgcjabPD
namespace Go.Proofs.Ytaaagdmhokgcjab
open Go.ChangeShapes Go.WideShapes Go.ChangeAt Go.RowKit
set_option linter.unusedVariables false
set_option maxRecDepth 100000
set_option linter.unusedSimpArgs false
/-- a truth -/
def boL (x : Bool) : List Value := [.bool x]
theorem boL_len (x : Bool) : (boL x).length = 1 := rfl
theorem infoBo : (Try.prog.info? 4).map (fun i => (i.zero, i.size, i.bytes)) = some (some (.bool false), 1, 1) := by kernel_rfl
theorem mk_bools (n : Nat) (hn : n ≤ 67108864) (W : World) : (Instr.makeSlice 85 (.int .i64 n) (.int .i64 n)).run Try.prog W = .ok (.slice (some ⟨W.heap.size, 0, none⟩) n n) (W.alloc (.cells ((List.replicate n false).flatMap boL).toArray 4)) := by
  obtain ⟨i0, hi, hz0, hz1, hz2⟩ := info_parts infoBo
  rw [run_make W 85 4 i0 _ Try.underlying85 hi hz0 .i64 .i64 n n (by omega) (by omega) (by rw [hz2]; omega) (by omega), hz1, Int.toNat_natCast, ← made_flat boL 1 (by decide) boL_len false n]
  rfl
theorem mk_room (n : Nat) (hn : n ≤ 67108864) : ∃ Z : Array Value, Z.size = n * 7 ∧ ∀ W : World, (Instr.makeSlice 22 (.int .i64 0) (.int .i64 n)).run Try.prog W = .ok (.slice (some ⟨W.heap.size, 0, none⟩) 0 n) (W.alloc (.cells Z 29)) := by
  obtain ⟨i0, hi, hz0, hz1, hz2⟩ := info_parts infoMx
  refine ⟨madeCells #[.int .i64 0, .int .i64 0, .int .i64 0, .int .i64 0, .string ⟨#[]⟩, .int .i64 0, .string ⟨#[]⟩] (n * 7), size_madeCells _ _, fun W => ?_⟩
  rw [run_make W 22 29 i0 _ Try.underlying22 hi hz0 .i64 .i64 0 n (by omega) (by omega) (by rw [hz2]; omega) (by omega), hz1, Int.toNat_natCast]
  rfl
theorem fitB {R : List Bool} {k : Nat} (hk : k < R.length) : Nat.ble (k + 1) (R.flatMap boL).toArray.size = true := by
  have := fitG boL_len hk
  rwa [Nat.mul_one] at this
theorem putB {R : List Bool} {k : Nat} {x : Bool} (hk : k < R.length) : putG (R.flatMap boL).toArray k (boL x).toArray = ((R.set k x).flatMap boL).toArray := by
  have := putG_flat boL 1 boL_len R k x hk
  rwa [Nat.mul_one] at this
theorem cellB {w : World} {g k : Nat} {R : List Bool} {x : Bool} (h : w.heap[g]? = some (.cells (R.flatMap boL).toArray 4 (0, 0))) (hx : R[k]? = some x) : w.cell? ⟨g, k, none⟩ = some (.bool x) := by
  refine cell_rowK h k _ ?_
  have h2 := flatG_get boL_len R k 0 _ hx (by decide)
  rw [Nat.mul_one, Nat.add_zero] at h2
  rw [List.getElem?_toArray, h2]; rfl
theorem natList {J : List Nat} {k : Nat} {x : Int} (h : (J.map Int.ofNat)[k]? = some x) : ∃ j, J[k]? = some j ∧ x = (j : Int) := by
  rw [List.getElem?_map] at h
  obtain ⟨j, hj, e⟩ := Option.map_eq_some_iff.1 h
  exact ⟨j, hj, e.symm⟩
set_option maxHeartbeats 8000000 in
theorem without_c (v u : Value) (L : List Mx) (J : List Nat) (w : World) (h : RowM w v L) (hu : RowI w u (J.map Int.ofNat)) (hl : L.length ≤ 16777216) (hj : ∀ j ∈ J, j < L.length) (hjl : J.length ≤ L.length) :
    Calls Try.prog 31 #[v, u] w fun e w' => ∃ x, e = .returned x ∧ OwnM w.heap.size w' x (othersA L J) ∧ Below w.heap.size w w' := by
  obtain ⟨a1, c1, q1, _, _⟩ := h.form
  obtain ⟨a2, c2, q2, _, _⟩ := hu.form
  rw [List.length_map] at q2
  obtain ⟨i0, hi, hz0, hz1, hz2⟩ := info_parts infoMx
  have HMB := mk_bools L.length (by omega)
  obtain ⟨Z, hZ, HMR⟩ := mk_room (L.length - J.length) (by omega)
  obtain ⟨n, hnn⟩ : ∃ n, n = L.length := ⟨_, rfl⟩
  obtain ⟨m, hmm⟩ : ∃ m, m = J.length := ⟨_, rfl⟩
  have HN := hidK hnn
  have HM := hidK hmm
  have HV := hidK h
  have HU := hidK hu
  have HJ := hidK hj
  have HZ := hidK hZ
  subst q1
  subst q2
  rw [← hnn] at hl HMB HMR HZ ⊢ HV hjl
  rw [← hmm] at HMR HZ ⊢ HU hjl
  rw [Int.ofNat_sub hjl] at HMR
  clear h hu hnn hmm hj hZ
  have hw1 : IntKind.i64.wrap ((n : Int) - (m : Int)) = (n : Int) - (m : Int) := by rw [IntKind.wrap_i64]; omega
  have HG1 := hidK (heap_alloc_new w (.cells ((List.replicate n false).flatMap boL).toArray 4))
  have HB1 := hidK (bupK (Below.refl w.heap.size w) (.cells ((List.replicate n false).flatMap boL).toArray 4))
  go_enter Try.func31, Try.ntmps31
  go_wp2
  go_loopw [16] (fun i wx => ∃ k : Nat, i = .int .i64 k ∧ k ≤ m ∧ (∃ R : List Bool, R.length = n ∧ (∀ j, j < n → R[j]? = some (decide (j ∈ J.take k))) ∧ wx.heap[w.heap.size]? = some (.cells (R.flatMap boL).toArray 4 (0, 0))) ∧ Below w.heap.size w wx) (fun i _ => m - (intOf i).toNat)
  case atStart =>
    refine ⟨0, rfl, Nat.zero_le _, ⟨_, List.length_replicate, ?_, HG1.out⟩, HB1.out⟩
    intro j hj
    rw [List.getElem?_replicate, if_pos hj]; simp
  case round =>
    clear HG1 HB1
    obtain ⟨k, rfl, hkn, ⟨R, hRn, hRk, hR⟩, hB⟩ := hrel
    have HRN := hidK hRn
    have HRK := hidK hRk
    have HR := hidK hR
    clear hRn hRk hR
    by_cases hk : k < m
    · have kI : (k : Int) < (m : Int) := by omega
      have k0 : (0 : Int) ≤ (k : Int) := by omega
      have hkl : k < (J.map Int.ofNat).length := by rw [List.length_map]; have := HM.out; omega
      obtain ⟨x, hx⟩ : ∃ x, (J.map Int.ofNat)[k]? = some x := ⟨_, List.getElem?_eq_getElem hkl⟩
      obtain ⟨b1, o1, p1, e1, d0⟩ := (HU.out.on hB).nm hx
      obtain ⟨j, hjx, rfl⟩ := natList hx
      have hjn : j < n := by have := HJ.out j (List.mem_of_getElem? hjx); have := HN.out; omega
      have HX := hidK hjx
      have j0 : (0 : Int) ≤ (j : Int) := by omega
      have jI : (j : Int) < (n : Int) := by omega
      rw [List.length_map, ← HM.out] at e1
      injection e1 with e1 e1b e1c
      subst e1
      have HKR : Hid (j < R.length) := by show _ < _; rw [HRN.out]; exact hjn
      clear hx hkl e1b e1c HV HU hjx HMR HMB
      go_wp2_with (refine wpList_store_row_G rfl rfl 4 (.tmp 22) (.const (.bool true)) rfl w.heap.size j (.bool true) rfl rfl 4 (R.flatMap boL).toArray ((R.set j true).flatMap boL).toArray HR.out (by kernel_rfl) (fitB HKR.out) rfl (putB HKR.out) ?_; intro W3 hW3 hG3; have HW3 := hidK hW3; have HB3 := hidK (below_some hB hG3 (Nat.le_refl _) (Nat.le_refl _)); clear hW3 hG3)
      go_roundw
      case rel =>
        refine ⟨k + 1, by go_num, by omega, ⟨_, by rw [List.length_set]; exact HRN.out, ?_, HW3.out⟩, HB3.out⟩
        intro i hi
        rw [takeSucc HX.out]
        by_cases hij : i = j
        · subst hij; rw [List.getElem?_set_self HKR.out]; simp
        · rw [List.getElem?_set_ne (Ne.symm hij), HRK.out i hi]; simp [hij]
      case measure => simp [intOf]; omega
    · obtain rfl : k = m := by omega
      have HRJ : Hid (∀ j, j < n → R[j]? = some (decide (j ∈ J))) := by
        intro j hj
        have := HRK.out j hj
        rwa [List.take_of_length_le (by have := HM.out; omega)] at this
      obtain ⟨B2, hB2⟩ : ∃ B2, B2 = wr.heap.size := ⟨_, rfl⟩
      have hWB : w.heap.size < B2 := by rw [hB2]; exact (Array.getElem?_eq_some_iff.1 HR.out).1
      have HR5 := hidK (hupK HR.out (.cells Z 29))
      have HB5 := hidK (bupK2 hB (.cells Z 29))
      have HO5 : Hid ((wr.alloc (.cells Z 29)).ownsRow B2 29 7 (.slice (some ⟨wr.heap.size, 0, none⟩) 0 (n - k)) 0 []) :=
        ⟨rfl, .inr ⟨wr.heap.size, n - k, Z, rfl, by rw [hB2]; exact Nat.le_refl _, heap_alloc_new _ _, Nat.zero_le _, by unfold maxLen; omega, HZ.out, by simp⟩⟩
      have HS5 : Hid (B2 ≤ (wr.alloc (.cells Z 29)).heap.size) := by show _ ≤ _; rw [World.size_alloc]; omega
      clear HRK HR HU hB2 hB HMB
      go_wp2
      go_loopw [8, 32] (fun o i wx => ∃ k : Nat, i = .int .i64 k ∧ k ≤ n ∧ wx.heap[w.heap.size]? = some (.cells (R.flatMap boL).toArray 4 (0, 0)) ∧ OwnM B2 wx o (othersTo L J k) ∧ B2 ≤ wx.heap.size ∧ Below w.heap.size w wx) (fun _ i _ => n - (intOf i).toNat)
      case atStart => exact ⟨0, rfl, Nat.zero_le _, HR5.out, HO5.out, HS5.out, HB5.out⟩
      case round =>
        clear HR5 HO5 HS5 HB5 hk hkn HMR
        rename_i kq _
        obtain ⟨k, rfl, hkn, hR, ho, hB2, hB⟩ := hrel
        have HO := hidK ho
        have HR := hidK hR
        clear ho
        by_cases hk : k < n
        · have kI : (k : Int) < (n : Int) := by omega
          have k0 : (0 : Int) ≤ (k : Int) := by omega
          have hkl : k < L.length := by have := HN.out; omega
          obtain ⟨⟨dd, uu, gg, mm, nn, zz, dt⟩, hx⟩ : ∃ x, L[k]? = some x := ⟨_, List.getElem?_eq_getElem hkl⟩
          obtain ⟨b1, o1, p1, e1, d0, d1, d2, d3, d4, d5, d6⟩ := (HV.out.on hB).mx hx
          have HX := hidK hx
          injection e1 with e1 e1b e1c
          subst e1
          have hcb : (wr.alloc (.cells #[.int .i64 dd, .int .i64 uu, .int .i64 gg, .int .i64 mm, .string nn, .int .i64 zz, .string dt] 29)).cell? ⟨w.heap.size, k, none⟩ = some (.bool (decide (k ∈ J))) := cellB (hupK hR _) (HRJ.out k hk)
          obtain ⟨lo, hlo⟩ : ∃ lo, (othersTo L J k).length = lo := ⟨_, rfl⟩
          have hlb : lo ≤ 16777216 := by rw [← hlo]; exact Nat.le_trans (othersTo_len _ _ _) (by omega)
          have HLO := hidK hlo
          have ho : (wr.alloc (.cells (mxL ⟨dd, uu, gg, mm, nn, zz, dt⟩).toArray 29)).ownsRow B2 29 7 u8 lo ((othersTo L J k).flatMap mxL) := own_upK (ownM_form hlo HO.out) _
          have HB1 := hidK (bupK2 hB (.cells (mxL ⟨dd, uu, gg, mm, nn, zz, dt⟩).toArray 29))
          have HR1 := hidK (hupK HR.out (.cells (mxL ⟨dd, uu, gg, mm, nn, zz, dt⟩).toArray 29))
          clear hx hkl e1b e1c HV hR hlo HO HR
          by_cases hin : k ∈ J
          · have HI := hidK (othersTo_in (L := L) hin)
            rw [decide_eq_true hin] at hcb
            clear hin
            go_wp2
            go_roundw
            case rel =>
              refine ⟨k + 1, by go_num, by omega, HR1.out, ?_, by rw [World.size_alloc]; omega, HB1.out⟩
              rw [HI.out]; unfold OwnM; rw [HLO.out]; exact ho
            case measure => simp [intOf]; omega
          · have HI := hidK (othersTo_out hin HX.out)
            rw [decide_eq_false hin] at hcb
            clear hin
            go_wp2_with (refine wpList_append_own _ rfl (.tmp 42) (.tmp 44) 22 rfl (B2) 29 i0 (.agg #[.int .i64 0, .int .i64 0, .int .i64 0, .int .i64 0, .string ⟨#[]⟩, .int .i64 0, .string ⟨#[]⟩]) 7 72 Try.underlying22 hi hz0 hz1 hz2 rfl (by decide) u8 lo ((othersTo L J k).flatMap mxL) rfl (own_upK ho _) ⟨wr.heap.size + 1, 0, none⟩ 1 1 (mxL ⟨dd, uu, gg, mm, nn, zz, dt⟩) rfl rfl (new_rowS (wr.alloc (.cells (mxL ⟨dd, uu, gg, mm, nn, zz, dt⟩).toArray 29)) (wr.heap.size + 1) (by simp only [World.size_alloc]) (mxL ⟨dd, uu, gg, mm, nn, zz, dt⟩).toArray 29 (mxL ⟨dd, uu, gg, mm, nn, zz, dt⟩) rfl) (mxL_one ⟨dd, uu, gg, mm, nn, zz, dt⟩) (by unfold maxLen; omega) (by omega) (by simp only [World.size_alloc]; have := (hB).size; omega) ?_; intro v2 w5 o2 g2 _; have HK := hidK (fun g hg => kept_low (own_upK ho (.cells (mxL ⟨dd, uu, gg, mm, nn, zz, dt⟩).toArray 29)) g2 (g := g) hg (by rw [World.size_alloc]; omega)); have HB2 := hidK (below_row (bupK2 HB1.out (.cells (mxL ⟨dd, uu, gg, mm, nn, zz, dt⟩).toArray 29)) g2 (own_upK ho (.cells (mxL ⟨dd, uu, gg, mm, nn, zz, dt⟩).toArray 29)) (Nat.le_of_lt hWB) (Nat.le_refl _)); have HS2 := hidK (size_up g2); have HO2 := hidK o2; clear o2 g2 ho hcb)
            go_roundw
            case rel =>
              refine ⟨k + 1, by go_num, by omega, (HK.out _ hWB).trans HR1.out, ?_, ?_, HB2.out⟩
              · rw [HI.out]; exact own_push HLO.out.symm HO2.out
              · have := HS2.out; rw [World.size_alloc] at this; omega
            case measure => simp [intOf]; omega
        · obtain rfl : k = n := by omega
          have HE : Hid (othersTo L J k = othersA L J) := by show _ = _; unfold othersA; rw [← HN.out]
          clear HV
          go_wp2
          go_ret
          exact ⟨_, rfl, by rw [← HE.out]; exact HO.out.le (Nat.le_of_lt hWB), hB⟩
set_option maxHeartbeats 8000000 in
theorem only_c (v u : Value) (L : List Mx) (J : List Nat) (w : World) (h : RowM w v L) (hu : RowI w u (J.map Int.ofNat)) (hl : L.length ≤ 16777216) (hj : ∀ j ∈ J, j < L.length) (hjl : J.length ≤ 16777216) :
    Calls Try.prog 33 #[v, u] w fun e w' => ∃ x, e = .returned x ∧ OwnM w.heap.size w' x (takenA L J) ∧ Below w.heap.size w w' := by
  obtain ⟨a1, c1, q1, _, _⟩ := h.form
  obtain ⟨a2, c2, q2, _, _⟩ := hu.form
  rw [List.length_map] at q2
  have HMR := mk_memsR J.length (by omega)
  obtain ⟨n, hnn⟩ : ∃ n, n = L.length := ⟨_, rfl⟩
  obtain ⟨m, hmm⟩ : ∃ m, m = J.length := ⟨_, rfl⟩
  have HN := hidK hnn
  have HM := hidK hmm
  have HV := hidK h
  have HU := hidK hu
  have HJ := hidK hj
  subst q1
  subst q2
  rw [← hnn] at hl ⊢ HV
  rw [← hmm] at HMR ⊢ HU hjl
  clear h hu hnn hmm hj
  have HG1 := hidK (heap_alloc_new w (.cells ((List.replicate m zMx).flatMap mxL).toArray 29))
  have HB1 := hidK (bupK (Below.refl w.heap.size w) (.cells ((List.replicate m zMx).flatMap mxL).toArray 29))
  go_enter Try.func33, Try.ntmps33
  go_wp2
  go_loopw [13] (fun i wx => ∃ k : Nat, i = .int .i64 k ∧ k ≤ m ∧ (∃ R : List Mx, R.length = m ∧ R.take k = takenA L (J.take k) ∧ wx.heap[w.heap.size]? = some (.cells (R.flatMap mxL).toArray 29 (0, 0))) ∧ Below w.heap.size w wx) (fun i _ => m - (intOf i).toNat)
  case atStart => exact ⟨0, rfl, Nat.zero_le _, ⟨_, List.length_replicate, rfl, HG1.out⟩, HB1.out⟩
  case round =>
    clear HG1 HB1
    obtain ⟨k, rfl, hkn, ⟨R, hRn, hRk, hR⟩, hB⟩ := hrel
    have HRN := hidK hRn
    have HRK := hidK hRk
    have HR := hidK hR
    clear hRn hRk hR
    by_cases hk : k < m
    · have kI : (k : Int) < (m : Int) := by omega
      have k0 : (0 : Int) ≤ (k : Int) := by omega
      have hkl : k < (J.map Int.ofNat).length := by rw [List.length_map]; have := HM.out; omega
      obtain ⟨x, hx⟩ : ∃ x, (J.map Int.ofNat)[k]? = some x := ⟨_, List.getElem?_eq_getElem hkl⟩
      obtain ⟨b1, o1, p1, e1, d0⟩ := (HU.out.on hB).nm hx
      obtain ⟨j, hjx, rfl⟩ := natList hx
      have hjn : j < n := by have := HJ.out j (List.mem_of_getElem? hjx); have := HN.out; omega
      have HX := hidK hjx
      have j0 : (0 : Int) ≤ (j : Int) := by omega
      have jI : (j : Int) < (n : Int) := by omega
      rw [List.length_map, ← HM.out] at e1
      injection e1 with e1 e1b e1c
      subst e1
      have hjl2 : j < L.length := by have := HN.out; omega
      obtain ⟨⟨dd, uu, gg, mm, nn, zz, dt⟩, hy⟩ : ∃ x, L[j]? = some x := ⟨_, List.getElem?_eq_getElem hjl2⟩
      obtain ⟨b2, o2, p2, e2, f0, f1, f2, f3, f4, f5, f6⟩ := (HV.out.on hB).mx hy
      have HY := hidK hy
      injection e2 with e2 e2b e2c
      subst e2
      have HKR : Hid (k < R.length) := by show _ < _; rw [HRN.out]; exact hk
      clear hx hkl e1b e1c e2b e2c HV HU hjx HMR hy hjl2
      go_wp2_with (refine wpList_store_row_G rfl rfl 29 (.tmp 24) (.tmp 23) rfl w.heap.size (k * 7) (.agg #[.int .i64 dd, .int .i64 uu, .int .i64 gg, .int .i64 mm, .string nn, .int .i64 zz, .string dt]) rfl rfl 29 (R.flatMap mxL).toArray ((R.set k ⟨dd, uu, gg, mm, nn, zz, dt⟩).flatMap mxL).toArray HR.out (by kernel_rfl) (fitG mxL_len HKR.out) rfl (putG_flat mxL 7 mxL_len R k ⟨dd, uu, gg, mm, nn, zz, dt⟩ HKR.out) ?_; intro W3 hW3 hG3; have HW3 := hidK hW3; have HB3 := hidK (below_some hB hG3 (Nat.le_refl _) (Nat.le_refl _)); clear hW3 hG3)
      go_roundw
      case rel =>
        refine ⟨k + 1, by go_num, by omega, ⟨_, by rw [List.length_set]; exact HRN.out, ?_, HW3.out⟩, HB3.out⟩
        rw [setTake HKR.out, HRK.out, takeSucc HX.out, takenA_snoc HY.out]
      case measure => simp [intOf]; omega
    · obtain rfl : k = m := by omega
      have HF : Hid (OwnM w.heap.size wr (.slice (some ⟨w.heap.size, 0, none⟩) k k) (takenA L J)) := by
        have e : R = takenA L J := by
          have := HRK.out
          rw [List.take_of_length_le (by rw [HRN.out]; exact Nat.le_refl _), List.take_of_length_le (by have := HM.out; omega)] at this
          exact this
        have h2 := HR.out
        rw [e] at h2
        exact own_whole (by rw [← e]; exact HRN.out) (Nat.le_refl _) (by unfold maxLen; omega) h2
      clear HV HU HR HRK HRN
      go_wp2
      go_ret
      exact ⟨_, rfl, HF.out, hB⟩
end Go.Proofs.Ytaaagdmhokgcjab
