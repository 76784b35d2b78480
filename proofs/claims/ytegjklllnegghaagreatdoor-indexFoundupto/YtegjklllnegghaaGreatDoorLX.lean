
-- shelflaw11: names, twin, fitted: contracts.
import Derived.Test.YtegjklllnegghaaGreatDoorLW
import Derived.Test.YtegjklllnegghaaGreatDoorWP
namespace Go.Proofs.YtegjklllnegghaaGreatDoor
open Go.ChangeShapes Go.WideShapes Go.ChangeAt Go.RowKit
set_option linter.unusedVariables false
set_option maxRecDepth 100000
theorem cellsE_oneX (l : List En) : ∀ u ∈ cellsE l, u.oneCell' = true := by
  intro u hu
  obtain ⟨j, hj, e⟩ := List.mem_iff_getElem.1 hu
  rw [cellsE_len] at hj
  have hi : j / 2 < l.length := by omega
  obtain ⟨b1, b2⟩ := cellsE_get l (j / 2) _ (List.getElem?_eq_getElem hi)
  have hu' : (cellsE l)[j]? = some u := by rw [List.getElem?_eq_getElem (by rw [cellsE_len]; exact hj), e]
  rcases Nat.mod_two_eq_zero_or_one j with h | h
  · rw [show 2 * (j / 2) = j by omega, hu'] at b1; injection b1 with b1; rw [b1]; rfl
  · rw [show 2 * (j / 2) + 1 = j by omega, hu'] at b2; injection b2 with b2; rw [b2]; rfl
theorem rowE_news {w : World} {ad : Addr} {n c : Nat} {L : List En} (h : RowE w (.slice (some ad) n c) L) : n = L.length ∧ ∀ j u, (cellsE L)[j]? = some u → w.cell? (ad.add j) = some u := by
  rcases h with ⟨rfl, ao, c', e⟩ | ⟨b, off, cap, e, hc⟩
  · injection e with _ e _
    exact ⟨e, fun j u hu => by simp [cellsE] at hu⟩
  · injection e with e1 e2 e3
    injection e1 with e1
    subst e1
    refine ⟨e2, fun j u hu => ?_⟩
    have hj : j < L.length * 2 := by have := (List.getElem?_eq_some_iff.1 hu).1; rwa [cellsE_len] at this
    have hi : j / 2 < L.length := by omega
    obtain ⟨b1, b2⟩ := cellsE_get L (j / 2) _ (List.getElem?_eq_getElem hi)
    obtain ⟨d1, d2⟩ := hc (j / 2) _ (List.getElem?_eq_getElem hi)
    have ea : (⟨b, off, none⟩ : Addr).add j = ⟨b, off + j, none⟩ := by unfold Addr.add; split <;> simp_all
    rw [ea]
    rcases Nat.mod_two_eq_zero_or_one j with h | h
    · rw [show 2 * (j / 2) = j by omega] at b1 d1; rw [hu] at b1; injection b1 with b1; rw [b1]; exact d1
    · rw [show 2 * (j / 2) + 1 = j by omega] at b2; rw [Nat.add_assoc, show 2 * (j / 2) + 1 = j by omega] at d2; rw [hu] at b2; injection b2 with b2; rw [b2]; exact d2
set_option maxHeartbeats 4000000 in
theorem twin11_c (ao : Option Addr) (c : Nat) (L : List En) (w : World) (hr : RowE w (.slice ao L.length c) L) (h0 : ao = none → c = 0) (hn : L.length ≤ 1100000) :
    Calls Tryz.prog 10 #[.slice ao L.length c] w fun e w' => ∃ v, e = .returned v ∧ RowE w' v L ∧ Below w.heap.size w w' := by
  obtain ⟨i0, hi, hz0, hz1, hz2⟩ := info_parts infoE
  cases ao with
  | none =>
    obtain rfl := h0 rfl
    have hL : L = [] := by
      rcases hr with ⟨h, _⟩ | ⟨b, off, cap, e, _⟩
      · exact h
      · cases e
    subst hL
    go_enter Tryz.func10, Tryz.ntmps10
    go_wp2_with (refine wpList_append_own_none rfl _ _ 22 rfl w.heap.size 33 i0 2 Tryz.underlying22 hi (.slice none 0 0) 0 [] rfl ⟨rfl, .inl ⟨rfl, rfl⟩⟩ rfl ?_)
    go_ret
    exact ⟨_, rfl, .inl ⟨rfl, _, _, rfl⟩, Below.refl _ _⟩
  | some ad =>
    obtain ⟨_, hc⟩ := rowE_news hr
    have HC := hidK hc
    clear hc hr h0
    go_enter Tryz.func10, Tryz.ntmps10
    go_wp2_with (refine wpList_append_own _ rfl _ _ 22 rfl w.heap.size 33 i0 (.agg #[.string ⟨#[]⟩, .int .i64 0]) 2 24 Tryz.underlying22 hi hz0 hz1 hz2 rfl (by decide) (.slice none 0 0) 0 [] rfl ⟨rfl, .inl ⟨rfl, rfl⟩⟩ ad L.length c (cellsE L) rfl (by rw [cellsE_len]) HC.out (cellsE_oneX L) (by unfold maxLen; omega) (by omega) (Nat.le_refl _) ?_; intro v1 w1 o1 g1 _; rw [Nat.zero_add, List.nil_append] at o1; have HO := hidK o1; clear o1)
    go_ret
    exact ⟨_, rfl, rowE_own HO.out, (Below.refl _ _).grown g1 (Nat.le_refl _) (fun q hq => by cases hq)⟩
theorem rowS_ofOwnX {w : World} {B : Nat} {v : Value} {l : List ByteArray} (h : w.ownsRow B 9 1 v l.length (l.map .string)) : RowS w v l := by
  rcases h.2 with ⟨rfl, h0⟩ | ⟨g, cap, cur, rfl, hg, hr, hc, hm, hs, ht⟩
  · exact .inl ⟨List.eq_nil_of_length_eq_zero h0, _, _, rfl⟩
  · refine .inr ⟨g, 0, cap, rfl, fun j hj => ?_⟩
    rw [Nat.zero_add]
    refine cell_rowK hr j _ ?_
    have : (cur.toList.take (l.length * 1))[j]? = (l.map Value.string)[j]? := by rw [ht]
    rw [List.getElem?_take_of_lt (by omega), List.getElem?_map, List.getElem?_eq_getElem hj, Array.getElem?_toList] at this
    rw [this]; simp [List.getD, List.getElem?_eq_getElem hj]
end Go.Proofs.YtegjklllnegghaaGreatDoor
