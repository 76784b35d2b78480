
-- The document's Decode (3): verbs, words.
import Derived.Test.YtdamhdceajmdfaaDoorDT
import Derived.Test.YtdamhdceajmdfaaDoorCO
namespace Go.Proofs.YtdamhdceajmdfaaDoor
open Go.ChangeShapes Go.WideShapes Go.ChangeAt Go.RowKit Go.MapKept
set_option linter.unusedVariables false
set_option maxRecDepth 100000
set_option linter.unusedSimpArgs false
theorem conv_one19 (w : World) (b : UInt8) : (convert 44 9 (.slice (some ⟨w.heap.size, 0, none⟩) 1 1)).run Tryd.prog (w.alloc (.cells #[.int .u8 (b.toNat : Int)] 5)) = .ok (.string (byB [b])) (w.alloc (.cells #[.int .u8 (b.toNat : Int)] 5)) := by
  refine run_convert_bytes_back _ 44 9 5 ⟨w.heap.size, 0, none⟩ 1 [b] Tryd.underlying44 Tryd.underlying5 Tryd.underlying9 (fun j hj => ?_)
  have hj0 : j = 0 := by simpa using hj
  subst hj0
  exact cell_rowK (heap_alloc_new w _) 0 _ rfl
def CpRel (w : World) (s : ByteArray) (o i : Value) (wx : World) : Prop := ∃ k : Nat, i = .int .i64 k ∧ k ≤ s.size ∧ o = .string (byB (((byL s).take k).map capB)) ∧ Below w.heap.size w wx
set_option maxHeartbeats 4000000 in
theorem rcapital_c (s : ByteArray) (w : World) (hs : s.size ≤ 1099511627776) :
    Calls Tryd.prog 55 #[.string s] w fun e w' => e = .returned (.string (byB ((byL s).map capB))) ∧ Below w.heap.size w w' := by
  go_enter Tryd.func55, Tryd.ntmps55
  go_wp2
  go_loopw [3, 4] (fun o i wx => CpRel w s o i wx) (fun _ i _ => s.size - (intOf i).toNat)
  case atStart => exact ⟨0, rfl, Nat.zero_le _, rfl, Below.refl _ _⟩
  case round =>
    obtain ⟨k, rfl, hks, rfl, hB⟩ := hrel
    have HB := hidK hB
    clear hB
    by_cases hk : k < s.size
    · have hidx := idx32 s k hk
      have hat := at32 s k hk
      obtain ⟨bb, hbb⟩ : ∃ b, b = s[k] := ⟨_, rfl⟩
      rw [← hbb] at hidx hat
      have HTK : Hid (((byL s).take (k + 1)).map capB = ((byL s).take k).map capB ++ [capB bb]) := by show _ = _; rw [takeSucc hat, List.map_append]; rfl
      obtain ⟨a, ha⟩ : ∃ a, (byB (((byL s).take k).map capB)).size = a := ⟨_, rfl⟩
      have hal : a = k := by rw [← ha, byB_size, List.length_map, List.length_take, byL_size]; omega
      obtain ⟨X, hX⟩ : ∃ X, X = byB (((byL s).take k).map capB) := ⟨_, rfl⟩
      rw [← hX] at ha ⊢
      have HX := hidK hX
      have hcap := capB_nat bb
      have hlt := bb.toNat_lt
      have hcv := conv_one19 wr (capB bb)
      obtain ⟨Y, hY⟩ : ∃ Y, Y = byB [capB bb] := ⟨_, rfl⟩
      have hYs : Y.size = 1 := by rw [hY, byB_size]; rfl
      rw [← hY] at hcv
      have HY := hidK hY
      obtain ⟨C, hC⟩ : ∃ C : Nat, C = (capB bb).toNat := ⟨_, rfl⟩
      rw [← hC] at hcap hcv
      obtain ⟨B, hBn⟩ : ∃ B : Nat, B = bb.toNat := ⟨_, rfl⟩
      rw [← hBn] at hidx hcap hlt
      have hz1 : ¬ 9223372036854775807 < a + 1 := by omega
      have HBX := hidK (bupK HB.out (.cells #[.int .u8 (C : Int)] 5))
      clear hat hbb hX hY hC hBn hal
      by_cases h0 : 97 ≤ B
      · by_cases h1 : B ≤ 122
        · rw [if_pos ⟨h0, h1⟩] at hcap
          have e1 : IntKind.u8.wrap ((B : Int) - 97) = (B : Int) - 97 := by rw [IntKind.wrap_u8]; omega
          have e2 : IntKind.u8.wrap ((B : Int) - 97 + 65) = (C : Int) := by rw [IntKind.wrap_u8]; omega
          have i0 : (97 : Int) ≤ (B : Int) := by omega
          have i1 : (B : Int) ≤ 122 := by omega
          have HC := hidK hcap
          clear hcap
          go_wp2
          go_roundw
          case rel => exact ⟨k + 1, by go_num, by omega, by rw [HTK.out, byB_app, ← HX.out, ← HY.out], HBX.out⟩
          case measure => simp [intOf]; omega
        · rw [if_neg (fun h => h1 h.2)] at hcap
          subst hcap
          have i0 : (97 : Int) ≤ (C : Int) := by omega
          have i1 : ¬ ((C : Int) ≤ 122) := by omega
          go_wp2
          go_roundw
          case rel => exact ⟨k + 1, by go_num, by omega, by rw [HTK.out, byB_app, ← HX.out, ← HY.out], HBX.out⟩
          case measure => simp [intOf]; omega
      · rw [if_neg (fun h => h0 h.1)] at hcap
        subst hcap
        have i0 : ¬ ((97 : Int) ≤ (C : Int)) := by omega
        go_wp2
        go_roundw
        case rel => exact ⟨k + 1, by go_num, by omega, by rw [HTK.out, byB_app, ← HX.out, ← HY.out], HBX.out⟩
        case measure => simp [intOf]; omega
    · obtain rfl : k = s.size := by omega
      have HE : Hid ((byL s).take s.size = byL s) := List.take_of_length_le (by rw [byL_size]; exact Nat.le_refl _)
      go_wp2
      go_ret
      exact ⟨by rw [HE.out]; rfl, HB.out⟩
/-- verb -/
def vrbF (c : List UInt8) (k : Nat) : Prop := ∀ j, 0 < j → j < k → wordL.getD j [] ≠ c
theorem vrb_find {c : List UInt8} {k : Nat} (h0 : 0 < k) (hk : k < 14) (hF : vrbF c k) (he : wordL.getD k [] = c) : (((List.range 14).find? fun v => wordL.getD v [] == c).getD 0) = k := by
  have hc0 : c ≠ [] := by rw [← he]; exact (wordL_ok k h0 hk).2.1
  have : (List.range 14).find? (fun v => wordL.getD v [] == c) = some k := by
    rw [List.find?_eq_some_iff_getElem]
    refine ⟨by rw [he]; exact beq_self_eq_true _, k, by simpa using hk, by simp, fun j hj => ?_⟩
    simp only [List.getElem_range, Bool.not_eq_true', beq_eq_false_iff_ne]
    by_cases hj0 : j = 0
    · subst hj0; exact fun e => hc0 e.symm
    · exact hF j (by omega) hj
  rw [this]; rfl
theorem vrb_none {c : List UInt8} (hF : vrbF c 14) : (((List.range 14).find? fun v => wordL.getD v [] == c).getD 0) = 0 := by
  cases h : (List.range 14).find? (fun v => wordL.getD v [] == c) with
  | none => rfl
  | some k =>
    have h1 := List.find?_some h
    have h2 := List.mem_of_find?_eq_some h
    simp only [List.mem_range] at h2
    simp only [beq_iff_eq] at h1
    by_cases hk : k = 0
    · rw [hk]; rfl
    · exact absurd h1 (hF k (by omega) h2)
set_option maxHeartbeats 4000000 in
theorem rverb_c (t : ByteArray) (w : World) (hW : WT w) (ht : t.size ≤ 1099511627776) :
    Calls Tryd.prog 45 #[.string t] w fun e w' => e = .returned (.int .i64 (verbN t : Nat)) ∧ Below w.heap.size w w' := by
  obtain ⟨C, hC⟩ : ∃ C, C = byB ((byL t).map capB) := ⟨_, rfl⟩
  have HC : Hid (∀ wx, Calls Tryd.prog 55 #[.string t] wx fun e w' => e = .returned (.string C) ∧ Below wx.heap.size wx w') := fun wx => by rw [hC]; exact rcapital_c t wx ht
  have HV : Hid (verbN t = (((List.range 14).find? fun v => wordL.getD v [] == byL C).getD 0)) := by
    show _ = _; rw [hC, byL_byB]; rfl
  have HW := hidK hW
  have tlC : C.toList = byL C := by rw [ByteArray.toList_eq]; rfl
  have HTL := hidK tlC
  clear hC hW tlC
  go_enter Tryd.func45, Tryd.ntmps45
  go_upto_region 2 with (go_at_call 55; refine (HC.out _).mono ?_; rintro e w1 ⟨rfl, b1⟩; have HB1 := hidK b1; clear b1)
  have HW1 := hidK (HW.out.up HB1.out)
  go_wp2
  go_loop [4] (fun i => ∃ k : Nat, i = .int .i64 k ∧ 0 < k ∧ k ≤ 14 ∧ vrbF (byL C) k) (fun i => 14 - (intOf i).toNat)
  case atStart => exact ⟨1, rfl, by omega, by omega, fun j h0 h1 => by omega⟩
  case round =>
    obtain ⟨k, rfl, h0, hk, hF⟩ := hrel
    have HF := hidK hF
    clear hF
    by_cases hk14 : k < 14
    · have kI : (k : Int) ≤ 13 := by omega
      have k0 : (0 : Int) ≤ (k : Int) := by omega
      have kJ : (k : Int) < 14 := by omega
      have cv := HW1.out.2 k hk14
      obtain ⟨V, hV⟩ : ∃ V, V = wordB k := ⟨_, rfl⟩
      rw [← hV] at cv
      have hvl : byL V = wordL.getD k [] := by rw [hV]; unfold wordB; rw [byL_byB]
      have HVL := hidK hvl
      clear hV hvl
      by_cases he : V = C
      · subst he
        have hbe : (V.toList == V.toList) = true := beq_self_eq_true _
        have HR : Hid (verbN t = k) := by show _ = _; rw [HV.out]; exact vrb_find h0 hk14 HF.out HVL.out.symm
        go_wp2
        go_ret
        exact ⟨by rw [HR.out]; rfl, HB1.out⟩
      · have hbe := strNe he
        have HN : Hid (vrbF (byL C) (k + 1)) := fun j j0 j1 => by
          by_cases hj : j < k
          · exact HF.out j j0 hj
          · have : j = k := by omega
            subst this
            rw [← HVL.out]
            exact fun e => he (byL_inj e)
        clear he
        go_wp2
        go_roundw
        case rel => exact ⟨k + 1, by go_num, by omega, by omega, HN.out⟩
        case measure => simp [intOf]; omega
    · obtain rfl : k = 14 := by omega
      have HR : Hid (verbN t = 0) := by show _ = _; rw [HV.out]; exact vrb_none HF.out
      go_wp2
      go_ret
      exact ⟨by rw [HR.out]; rfl, HB1.out⟩
/-- named -/
def nmdB (L : List ByteArray) (a b : Int) : Bool := !L.any isBr && (decide (a ≤ (L.length : Int)) && (decide (b < 0) || decide ((L.length : Int) ≤ b)))
set_option maxHeartbeats 4000000 in
theorem rnamed_c (v : Value) (L : List ByteArray) (a b : Int) (w : World) (h : RowT w v L) (hn : L.length ≤ 67108864) :
    Calls Tryd.prog 46 #[v, .int .i64 a, .int .i64 b] w fun e w' => e = .returned (.bool (nmdB L a b)) ∧ w' = w := by
  obtain ⟨a1, c1, q1, _, _⟩ := h.form
  obtain ⟨n, hnn⟩ : ∃ n, n = L.length := ⟨_, rfl⟩
  have HN := hidK hnn
  have HQ := hidK h
  rw [← hnn] at q1 hn
  subst q1
  clear h hnn
  go_enter Tryd.func46, Tryd.ntmps46
  go_wp2
  go_loop [7] (fun i => ∃ k : Nat, k ≤ n ∧ i = .int .i64 k ∧ Hid ((L.take k).any isBr = false)) (fun i => n - (intOf i).toNat)
  case atStart => exact ⟨0, Nat.zero_le _, rfl, by show _ = _; simp⟩
  case round =>
    obtain ⟨k, hkn, rfl, hT⟩ := hrel
    by_cases hk : k < n
    · have kI : (k : Int) < (n : Int) := by omega
      have k0 : (0 : Int) ≤ (k : Int) := by omega
      obtain ⟨x, hx⟩ : ∃ x, L[k]? = some x := ⟨_, List.getElem?_eq_getElem (by have := HN.out; omega)⟩
      obtain ⟨b1, o1, p1, e1, d0⟩ := HQ.out.tx hx
      have HT2 : Hid ((L.take (k + 1)).any isBr = isBr x) := by show _ = _; rw [takeSucc hx, List.any_append, hT.out]; simp
      have HNO : Hid (isBr x = true → L.any isBr = true) := fun q => List.any_eq_true.2 ⟨x, List.mem_of_getElem? hx, q⟩
      have t0 := tl_eq x [40]
      have t1 := tl_eq x [41]
      have HB : Hid (isBr x = ((x.toList == [40]) || (x.toList == [41]))) := by show _ = _; unfold isBr; rw [← t0, ← t1]
      injection e1 with e1 e1b e1c
      subst e1
      clear hx e1b e1c hT t0 t1
      cases h40 : (x.toList == [40])
      · cases h41 : (x.toList == [41])
        · have HF : Hid (isBr x = false) := by show _ = _; rw [HB.out, h40, h41]; rfl
          clear HB HNO
          go_wp2
          go_roundw
          case rel => exact ⟨k + 1, by omega, by go_num, by show _ = _; rw [HT2.out, HF.out]⟩
          case measure => simp [intOf]; omega
        · have HF : Hid (nmdB L a b = false) := by show _ = _; unfold nmdB; rw [HNO.out (by rw [HB.out, h40, h41]; rfl)]; rfl
          clear HB HNO
          go_wp2
          go_ret
          exact ⟨by rw [HF.out]; rfl, rfl⟩
      · have HF : Hid (nmdB L a b = false) := by show _ = _; unfold nmdB; rw [HNO.out (by rw [HB.out, h40]; rfl)]; rfl
        clear HB HNO
        go_wp2
        go_ret
        exact ⟨by rw [HF.out]; rfl, rfl⟩
    · obtain rfl : k = n := by omega
      have HA : Hid (L.any isBr = false) := by
        have := hT.out
        rw [List.take_of_length_le (by rw [HN.out]; exact Nat.le_refl _)] at this
        exact this
      have HF : Hid (nmdB L a b = (decide (a ≤ (k : Int)) && (decide (b < 0) || decide ((k : Int) ≤ b)))) := by show _ = _; unfold nmdB; rw [HA.out, ← HN.out]; rfl
      clear hT
      by_cases h1 : a ≤ (k : Int)
      · by_cases h2 : b < 0
        · go_wp2
          go_ret
          exact ⟨by rw [HF.out]; simp [h1, h2], rfl⟩
        · by_cases h3 : (k : Int) ≤ b
          · go_wp2
            go_ret
            exact ⟨by rw [HF.out]; simp [h1, h2, h3], rfl⟩
          · go_wp2
            go_ret
            exact ⟨by rw [HF.out]; simp [h1, h2, h3], rfl⟩
      · go_wp2
        go_ret
        exact ⟨by rw [HF.out]; (simp <;> omega), rfl⟩
end Go.Proofs.YtdamhdceajmdfaaDoor
