
-- shelflaw11: names, twin, fitted: contracts.
import Derived.Test.YtcmldlcdgmmafabGreatDoorLW
import Derived.Test.YtcmldlcdgmmafabGreatDoorWP
namespace Go.Proofs.YtcmldlcdgmmafabGreatDoor
open Go.ChangeShapes Go.WideShapes Go.ChangeAt Go.RowKit
set_option linter.unusedVariables false
set_option maxRecDepth 100000
theorem cellsE_oneX (l : List En) : ∀ u ∈ cellsE l, u.oneCell' = true := by
  intro u hu
  obtain ⟨j, hj, e⟩ := List.mem_iff_getElem.1 hu
  rw [cellsE_len] at hj
  have hi : j / 2 < l.length := by omega
  obtain ⟨b1, b2⟩ := cellsE_get l (j / 2) _ (List.getElem?_eq_getElem hi)
  have hu' : (cellsE l)[j]? = some u := by rw [List.getElem?_eq_getElem (by rw [cellsE_len]; exact hj), e]
  rcases Nat.mod_two_eq_zero_or_one j with h | h
  · rw [show 2 * (j / 2) = j by omega, hu'] at b1; injection b1 with b1; rw [b1]; rfl
  · rw [show 2 * (j / 2) + 1 = j by omega, hu'] at b2; injection b2 with b2; rw [b2]; rfl
theorem rowE_news {w : World} {ad : Addr} {n c : Nat} {L : List En} (h : RowE w (.slice (some ad) n c) L) : n = L.length ∧ ∀ j u, (cellsE L)[j]? = some u → w.cell? (ad.add j) = some u := by
  rcases h with ⟨rfl, ao, c', e⟩ | ⟨b, off, cap, e, hc⟩
  · injection e with _ e _
    exact ⟨e, fun j u hu => by simp [cellsE] at hu⟩
  · injection e with e1 e2 e3
    injection e1 with e1
    subst e1
    refine ⟨e2, fun j u hu => ?_⟩
    have hj : j < L.length * 2 := by have := (List.getElem?_eq_some_iff.1 hu).1; rwa [cellsE_len] at this
    have hi : j / 2 < L.length := by omega
    obtain ⟨b1, b2⟩ := cellsE_get L (j / 2) _ (List.getElem?_eq_getElem hi)
    obtain ⟨d1, d2⟩ := hc (j / 2) _ (List.getElem?_eq_getElem hi)
    have ea : (⟨b, off, none⟩ : Addr).add j = ⟨b, off + j, none⟩ := by unfold Addr.add; split <;> simp_all
    rw [ea]
    rcases Nat.mod_two_eq_zero_or_one j with h | h
    · rw [show 2 * (j / 2) = j by omega] at b1 d1; rw [hu] at b1; injection b1 with b1; rw [b1]; exact d1
    · rw [show 2 * (j / 2) + 1 = j by omega] at b2; rw [Nat.add_assoc, show 2 * (j / 2) + 1 = j by omega] at d2; rw [hu] at b2; injection b2 with b2; rw [b2]; exact d2
set_option maxHeartbeats 4000000 in
theorem twin11_c (ao : Option Addr) (c : Nat) (L : List En) (w : World) (hr : RowE w (.slice ao L.length c) L) (h0 : ao = none → c = 0) (hn : L.length ≤ 1100000) :
    Calls Tryz.prog 9 #[.slice ao L.length c] w fun e w' => ∃ v, e = .returned v ∧ RowE w' v L ∧ Below w.heap.size w w' := by
  obtain ⟨i0, hi, hz0, hz1, hz2⟩ := info_parts infoE
  cases ao with
  | none =>
    obtain rfl := h0 rfl
    have hL : L = [] := by
      rcases hr with ⟨h, _⟩ | ⟨b, off, cap, e, _⟩
      · exact h
      · cases e
    subst hL
    go_enter Tryz.func9, Tryz.ntmps9
    go_wp2_with (refine wpList_append_own_none rfl _ _ 22 rfl w.heap.size 31 i0 2 Tryz.underlying22 hi (.slice none 0 0) 0 [] rfl ⟨rfl, .inl ⟨rfl, rfl⟩⟩ rfl ?_)
    go_ret
    exact ⟨_, rfl, .inl ⟨rfl, _, _, rfl⟩, Below.refl _ _⟩
  | some ad =>
    obtain ⟨_, hc⟩ := rowE_news hr
    have HC := hidK hc
    clear hc hr h0
    go_enter Tryz.func9, Tryz.ntmps9
    go_wp2_with (refine wpList_append_own _ rfl _ _ 22 rfl w.heap.size 31 i0 (.agg #[.string ⟨#[]⟩, .int .i64 0]) 2 24 Tryz.underlying22 hi hz0 hz1 hz2 rfl (by decide) (.slice none 0 0) 0 [] rfl ⟨rfl, .inl ⟨rfl, rfl⟩⟩ ad L.length c (cellsE L) rfl (by rw [cellsE_len]) HC.out (cellsE_oneX L) (by unfold maxLen; omega) (by omega) (Nat.le_refl _) ?_; intro v1 w1 o1 g1 _; rw [Nat.zero_add, List.nil_append] at o1; have HO := hidK o1; clear o1)
    go_ret
    exact ⟨_, rfl, rowE_own HO.out, (Below.refl _ _).grown g1 (Nat.le_refl _) (fun q hq => by cases hq)⟩
theorem rowS_ofOwnX {w : World} {B : Nat} {v : Value} {l : List ByteArray} (h : w.ownsRow B 9 1 v l.length (l.map .string)) : RowS w v l := by
  rcases h.2 with ⟨rfl, h0⟩ | ⟨g, cap, cur, rfl, hg, hr, hc, hm, hs, ht⟩
  · exact .inl ⟨List.eq_nil_of_length_eq_zero h0, _, _, rfl⟩
  · refine .inr ⟨g, 0, cap, rfl, fun j hj => ?_⟩
    rw [Nat.zero_add]
    refine cell_rowK hr j _ ?_
    have : (cur.toList.take (l.length * 1))[j]? = (l.map Value.string)[j]? := by rw [ht]
    rw [List.getElem?_take_of_lt (by omega), List.getElem?_map, List.getElem?_eq_getElem hj, Array.getElem?_toList] at this
    rw [this]; simp [List.getD, List.getElem?_eq_getElem hj]
set_option maxHeartbeats 4000000 in
theorem names11_c (v : Value) (L : List En) (w : World) (hv : RowE w v L) (hn : L.length ≤ 1100000) :
    Calls Tryz.prog 15 #[v] w fun e w' => ∃ r, e = .returned r ∧ RowS w' r (L.map En.name) ∧ Below w.heap.size w w' := by
  obtain ⟨a1, c1, q1⟩ := hv.form
  obtain ⟨n, hnn⟩ : ∃ n, n = L.length := ⟨_, rfl⟩
  have HN := hidK hnn
  have HV := hidK hv
  subst q1
  rw [← hnn] at hn ⊢ HV
  obtain ⟨i0, hi, hz0, hz1, hz2⟩ := info_parts info9K
  clear hv hnn
  go_enter Tryz.func15, Tryz.ntmps15
  go_wp2
  go_loopw [3, 4] (fun u i wx => ∃ j : Nat, j ≤ n ∧ i = .int .i64 j ∧ wx.ownsRow w.heap.size 9 1 u j (((L.take j).map En.name).map .string) ∧ Below w.heap.size w wx) (fun u i _ => n - (intOf i).toNat)
  case atStart => exact ⟨0, Nat.zero_le _, rfl, ⟨rfl, .inl ⟨rfl, rfl⟩⟩, Below.refl _ _⟩
  case round =>
    obtain ⟨j, hj, rfl, hown, hK⟩ := hrel
    rename World => wx
    by_cases hjn : j < n
    · have hkl : j < L.length := by have := HN.out; omega
      obtain ⟨⟨nm, pl⟩, hx⟩ : ∃ x, L[j]? = some x := ⟨_, List.getElem?_eq_getElem hkl⟩
      obtain ⟨b, off, cap, e1, d1, d2⟩ := (HV.out.on hK).atK hx
      injection e1 with e1 e2 e3
      subst e1
      simp only [] at d1 d2
      have hjI : (j : Int) < (n : Int) := by omega
      have hj0 : (0 : Int) ≤ (j : Int) := by omega
      have hft : (((L.take (j + 1)).map En.name).map Value.string) = (((L.take j).map En.name).map Value.string) ++ [.string nm] := by rw [take_snoc hx, List.map_append, List.map_append]; rfl
      have HO := hidK (And.intro hown (And.intro hK hft))
      have hOW := hown.alloc (.cells #[.string nm] 9)
      have hBK := hK.size
      clear hx e2 e3 hft hown hK d2 HV hkl
      go_wp2_with (at_builtin; refine wpList_append_own _ rfl _ _ 42 rfl w.heap.size 9 i0 (.string ⟨#[]⟩) 1 16 Tryz.underlying42 hi hz0 hz1 hz2 rfl (by decide) _ _ _ rfl hOW ⟨wx.heap.size, 0, none⟩ 1 1 [.string nm] rfl rfl ?c1 (by intro u hu; simp at hu; subst hu; rfl) ?c3 ?c4 ?c5 ?_)
      case c1 => exact new_rowK wx _ _ _ rfl
      case c3 => unfold maxLen; omega
      case c4 => omega
      case c5 => simp; omega
      intro v' w5 hown5 hgrow _
      obtain ⟨hown, hK, hft⟩ := HO.out
      have hrow : ∀ q, u3.ownBlock = some q → w.heap.size ≤ q := fun q hq => (hown.lt q hq).1
      have hbR : Below w.heap.size wx w5 := Below.grown (Below.alloc (Below.refl _ _) hBK _) hgrow (by simp; omega) hrow
      have HF : Hid (w5.ownsRow w.heap.size 9 1 v' (j + 1) (((L.take (j + 1)).map En.name).map .string) ∧ Below w.heap.size w w5) := ⟨by rw [hft]; simpa using hown5, hK.trans hbR⟩
      clear hown hK hft hrow hbR hown5 hgrow hOW HO
      go_wp2
      go_roundw
      case rel => exact ⟨j + 1, hjn, by go_num, HF.out⟩
      case measure => clear HF; simp [intOf]; omega
    · obtain rfl : j = n := by omega
      have hft : L.take j = L := List.take_of_length_le (by have := HN.out; omega)
      rw [hft] at hown
      have HO := hidK (And.intro hown hK)
      clear hown hK hft HV
      go_wp2
      go_ret
      refine ⟨_, rfl, rowS_ofOwnX (B := w.heap.size) ?_, HO.out.2⟩
      have := HO.out.1
      rw [List.length_map, ← HN.out]; exact this
end Go.Proofs.YtcmldlcdgmmafabGreatDoor
