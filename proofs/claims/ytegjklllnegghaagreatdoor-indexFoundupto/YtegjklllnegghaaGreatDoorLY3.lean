
-- shelflaw11.fitted: a contract.
import Derived.Test.YtegjklllnegghaaGreatDoorLY1
namespace Go.Proofs.YtegjklllnegghaaGreatDoor
open Go.ChangeShapes Go.WideShapes Go.ChangeAt Go.RowKit
set_option linter.unusedVariables false
set_option maxRecDepth 100000
set_option maxHeartbeats 8000000 in
theorem fitted_3a (ao : Option Addr) (n c : Nat) (L : List En) (w : World) (hn : L.length = n) (hv : RowE w (.slice ao n c) L) (hc : n ≤ c) (hb : n ≤ 2000) (hN : n ≤ 1048576) (hz : ∀ x ∈ L, x.name.size ≤ 1048576) :
    Calls Tryz.prog 8 #[.int .i64 3, .slice ao n c] w fun e w' => ∃ ao' c', e = .returned (.slice ao' L.length c') ∧ RowE w' (.slice ao' L.length c') (L.map (fitE 3)) ∧ Below w.heap.size w w' ∧ (ao' = none → c' = 0) := by
  obtain ⟨i0, hi, hz0, hz1, hz2⟩ := info_parts infoE
  have HN := hidK hn
  have HV := hidK hv
  have HZ := hidK hz
  have hNI : (n : Int) ≤ 1048576 := by omega
  have hbI : (n : Int) ≤ 2000 := by omega
  have hcI : (n : Int) ≤ (c : Int) := by omega
  clear hv hn hz
  go_enter Tryz.func8, Tryz.ntmps8
  go_wp2
  go_loopw [5, 6] (fun u i wx => ∃ j : Nat, j ≤ n ∧ i = .int .i64 j ∧ wx.ownsRow w.heap.size 33 2 u j (cellsE ((L.take j).map (fitE 3))) ∧ Below w.heap.size w wx) (fun u i _ => n - (intOf i).toNat)
  case atStart => exact ⟨0, Nat.zero_le _, rfl, ⟨rfl, .inl ⟨rfl, rfl⟩⟩, Below.refl _ _⟩
  case round =>
    obtain ⟨j, hj, rfl, hown, hK⟩ := hrel
    rename World => wx
    by_cases hjn : j < n
    · have hkl : j < L.length := by have := HN.out; omega
      obtain ⟨⟨nm, pl⟩, hx⟩ : ∃ x, L[j]? = some x := ⟨_, List.getElem?_eq_getElem hkl⟩
      obtain ⟨b, off, cap, e1, d1, d2⟩ := (HV.out.on hK).atK hx
      injection e1 with e1 e2 e3
      subst e1
      simp only [] at d1 d2
      have hjI : (j : Int) < (n : Int) := by omega
      have hj0 : (0 : Int) ≤ (j : Int) := by omega
      have HG : Hid (∀ w, Calls Tryz.prog 18 #[.string nm] w fun e w' => e = .returned (.string (gdN nm)) ∧ w' = w) := fun w => good_c nm w (HZ.out _ (List.mem_of_getElem? hx))
      have ha1 := i64_and63 pl
      have ha2 := i64_and32 (pl % 9223372036854775808)
      obtain ⟨P, hP⟩ : ∃ P, P = fitP 3 pl := ⟨_, rfl⟩
      have hP' : pl % 9223372036854775808 % 4294967296 = P := by rw [hP]; rfl
      have hft : cellsE ((L.take (j + 1)).map (fitE 3)) = cellsE ((L.take j).map (fitE 3)) ++ [.string (gdN nm), .int .i64 P] := by rw [hP]; exact cellsE_next hx
      
      rw [hP'] at ha2
      obtain ⟨G, hG⟩ : ∃ G, G = gdN nm := ⟨_, rfl⟩
      rw [← hG] at HG hft
      have HO := hidK (And.intro hown (And.intro hK hft))
      have hOW := hown.alloc (.cells #[.string G, .int .i64 P] 33)
      have hBK := hK.size
      clear hx e2 e3 hft hown hK HV hkl HZ hP hP' hG
      go_wp2_with (first
        | (go_at_call 18; refine (HG.out _).mono ?_; rintro e wa ⟨rfl, hwa⟩; subst wa)
        | (at_builtin; refine wpList_append_own _ rfl _ _ 22 rfl w.heap.size 33 i0 (.agg #[.string ⟨#[]⟩, .int .i64 0]) 2 24 Tryz.underlying22 hi hz0 hz1 hz2 rfl (by decide) _ _ _ rfl hOW ⟨wx.heap.size, 0, none⟩ 1 1 [.string G, .int .i64 P] rfl rfl ?c1 ?c2 ?c3 ?c4 ?c5 ?_))
      case c1 => exact new_rowK wx _ _ _ rfl
      case c2 => intro u hu; simp at hu; rcases hu with rfl | rfl <;> rfl
      case c3 => unfold maxLen; omega
      case c4 => omega
      case c5 => simp; omega
      intro v' w5 hown5 hgrow _
      obtain ⟨hown, hK, hft⟩ := HO.out
      have hrow : ∀ q, u5.ownBlock = some q → w.heap.size ≤ q := fun q hq => (hown.lt q hq).1
      have hbR : Below w.heap.size wx w5 := Below.grown (Below.alloc (Below.refl _ _) hBK _) hgrow (by simp; omega) hrow
      have HF : Hid (w5.ownsRow w.heap.size 33 2 v' (j + 1) (cellsE ((L.take (j + 1)).map (fitE 3))) ∧ Below w.heap.size w w5) := ⟨by rw [hft]; first | exact hown5 | simpa using hown5, hK.trans hbR⟩
      clear hown hK hft hrow hbR hown5 hgrow hOW HO HG
      go_wp2
      go_roundw
      case rel => exact ⟨j + 1, hjn, by go_num, HF.out⟩
      case measure => clear HF; simp [intOf]; omega
    · obtain rfl : j = n := by omega
      have hft : L.take j = L := List.take_of_length_le (by have := HN.out; omega)
      rw [hft] at hown
      have HO := hidK (And.intro hown hK)
      clear hown hK hft HV HZ
      go_wp2
      go_ret
      obtain ⟨o1, o2⟩ := HO.out
      rw [← HN.out] at o1
      obtain ⟨ao', c', e', z'⟩ := own_freeE o1
      refine ⟨ao', c', by rw [← e']; rfl, ?_, o2, z'⟩
      rw [← e']
      exact rowE_own (B := w.heap.size) (by rw [List.length_map]; exact o1)
set_option maxHeartbeats 8000000 in
theorem fitted_3b (ao : Option Addr) (n c : Nat) (L : List En) (w : World) (hn : L.length = 2000) (hv : RowE w (.slice ao 2000 c) L) (hc : n ≤ c) (hb : 2000 < n) (hN : n ≤ 1048576) (hz : ∀ x ∈ L, x.name.size ≤ 1048576) :
    Calls Tryz.prog 8 #[.int .i64 3, .slice ao n c] w fun e w' => ∃ ao' c', e = .returned (.slice ao' L.length c') ∧ RowE w' (.slice ao' L.length c') (L.map (fitE 3)) ∧ Below w.heap.size w w' ∧ (ao' = none → c' = 0) := by
  obtain ⟨i0, hi, hz0, hz1, hz2⟩ := info_parts infoE
  have HN := hidK hn
  have HV := hidK hv
  have HZ := hidK hz
  have hNI : (n : Int) ≤ 1048576 := by omega
  have hbI : (2000 : Int) < (n : Int) := by omega
  have hcI : (2000 : Int) ≤ (c : Int) := by omega
  obtain ⟨b0, off0, cap0, hform, -⟩ : ∃ b off cap, (Value.slice ao 2000 c = .slice (some ⟨b, off, none⟩) L.length cap) ∧ True := by
    rcases hv with ⟨h0, _⟩ | ⟨b, off, cap, e, _⟩
    · rw [h0] at hn; simp at hn
    · exact ⟨b, off, cap, e, trivial⟩
  injection hform with hform hq2 hq3
  clear hq2 hq3
  subst hform
  have hsl := slice2000 ⟨b0, off0, none⟩ n c (by omega)
  clear hv hn hz
  go_enter Tryz.func8, Tryz.ntmps8
  go_wp2
  go_loopw [5, 6] (fun u i wx => ∃ j : Nat, j ≤ 2000 ∧ i = .int .i64 j ∧ wx.ownsRow w.heap.size 33 2 u j (cellsE ((L.take j).map (fitE 3))) ∧ Below w.heap.size w wx) (fun u i _ => 2000 - (intOf i).toNat)
  case atStart => exact ⟨0, Nat.zero_le _, rfl, ⟨rfl, .inl ⟨rfl, rfl⟩⟩, Below.refl _ _⟩
  case round =>
    obtain ⟨j, hj, rfl, hown, hK⟩ := hrel
    rename World => wx
    by_cases hjn : j < 2000
    · have hkl : j < L.length := by have := HN.out; omega
      obtain ⟨⟨nm, pl⟩, hx⟩ : ∃ x, L[j]? = some x := ⟨_, List.getElem?_eq_getElem hkl⟩
      obtain ⟨b, off, cap, e1, d1, d2⟩ := (HV.out.on hK).atK hx
      injection e1 with e1 e2 e3
      injection e1 with e1; injection e1 with e1a e1b _; subst e1a; subst e1b
      simp only [] at d1 d2
      have hjI : (j : Int) < 2000 := by omega
      have hj0 : (0 : Int) ≤ (j : Int) := by omega
      have HG : Hid (∀ w, Calls Tryz.prog 18 #[.string nm] w fun e w' => e = .returned (.string (gdN nm)) ∧ w' = w) := fun w => good_c nm w (HZ.out _ (List.mem_of_getElem? hx))
      have ha1 := i64_and63 pl
      have ha2 := i64_and32 (pl % 9223372036854775808)
      obtain ⟨P, hP⟩ : ∃ P, P = fitP 3 pl := ⟨_, rfl⟩
      have hP' : pl % 9223372036854775808 % 4294967296 = P := by rw [hP]; rfl
      have hft : cellsE ((L.take (j + 1)).map (fitE 3)) = cellsE ((L.take j).map (fitE 3)) ++ [.string (gdN nm), .int .i64 P] := by rw [hP]; exact cellsE_next hx
      
      rw [hP'] at ha2
      obtain ⟨G, hG⟩ : ∃ G, G = gdN nm := ⟨_, rfl⟩
      rw [← hG] at HG hft
      have HO := hidK (And.intro hown (And.intro hK hft))
      have hOW := hown.alloc (.cells #[.string G, .int .i64 P] 33)
      have hBK := hK.size
      clear hx e2 e3 hft hown hK HV hkl HZ hP hP' hG
      go_wp2_with (first
        | (go_at_call 18; refine (HG.out _).mono ?_; rintro e wa ⟨rfl, hwa⟩; subst wa)
        | (at_builtin; refine wpList_append_own _ rfl _ _ 22 rfl w.heap.size 33 i0 (.agg #[.string ⟨#[]⟩, .int .i64 0]) 2 24 Tryz.underlying22 hi hz0 hz1 hz2 rfl (by decide) _ _ _ rfl hOW ⟨wx.heap.size, 0, none⟩ 1 1 [.string G, .int .i64 P] rfl rfl ?c1 ?c2 ?c3 ?c4 ?c5 ?_))
      case c1 => exact new_rowK wx _ _ _ rfl
      case c2 => intro u hu; simp at hu; rcases hu with rfl | rfl <;> rfl
      case c3 => unfold maxLen; omega
      case c4 => omega
      case c5 => simp; omega
      intro v' w5 hown5 hgrow _
      obtain ⟨hown, hK, hft⟩ := HO.out
      have hrow : ∀ q, u5.ownBlock = some q → w.heap.size ≤ q := fun q hq => (hown.lt q hq).1
      have hbR : Below w.heap.size wx w5 := Below.grown (Below.alloc (Below.refl _ _) hBK _) hgrow (by simp; omega) hrow
      have HF : Hid (w5.ownsRow w.heap.size 33 2 v' (j + 1) (cellsE ((L.take (j + 1)).map (fitE 3))) ∧ Below w.heap.size w w5) := ⟨by rw [hft]; first | exact hown5 | simpa using hown5, hK.trans hbR⟩
      clear hown hK hft hrow hbR hown5 hgrow hOW HO HG
      go_wp2
      go_roundw
      case rel => exact ⟨j + 1, hjn, by go_num, HF.out⟩
      case measure => clear HF; simp [intOf]; omega
    · obtain rfl : j = 2000 := by omega
      have hft : L.take 2000 = L := List.take_of_length_le (by have := HN.out; omega)
      rw [hft] at hown
      have HO := hidK (And.intro hown hK)
      clear hown hK hft HV HZ
      go_wp2
      go_ret
      obtain ⟨o1, o2⟩ := HO.out
      rw [← HN.out] at o1
      obtain ⟨ao', c', e', z'⟩ := own_freeE o1
      refine ⟨ao', c', by rw [← e']; rfl, ?_, o2, z'⟩
      rw [← e']
      exact rowE_own (B := w.heap.size) (by rw [List.length_map]; exact o1)
end Go.Proofs.YtegjklllnegghaaGreatDoor
