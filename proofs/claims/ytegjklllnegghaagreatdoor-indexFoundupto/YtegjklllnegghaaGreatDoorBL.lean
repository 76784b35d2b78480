
-- Plain mathematics: an index of form 3 that was written is read as it was.
import Derived.Test.YtegjklllnegghaaGreatDoorBK
namespace Go.Proofs.YtegjklllnegghaaGreatDoor
set_option linter.unusedVariables false
set_option maxRecDepth 100000
theorem prB_at (L : List En) (k : Nat) : ∀ n, k < n → ∃ r, prB L n = prB L k ++ (nb3 (begN (L.take k)) ++ nb3 ((L[k]?.map En.pl).getD 0).toNat) ++ r
  | 0, h => absurd h (Nat.not_lt_zero _)
  | n + 1, h => by
    rcases Nat.lt_or_ge k n with h' | h'
    · obtain ⟨r, hr⟩ := prB_at L k n h'
      exact ⟨r ++ (nb3 (begN (L.take n)) ++ nb3 ((L[n]?.map En.pl).getD 0).toNat), by rw [prB, hr]; simp only [List.append_assoc]⟩
    · obtain rfl : k = n := by omega
      exact ⟨[], by rw [prB, List.append_nil]⟩
theorem back3 (L : List En) (hL : L.length ≤ 2000) (hT : totN (L.map En.name) ≤ 2147483648) (hg : goodAll (L.map En.name) = true) (hp : ∀ x ∈ L, 0 ≤ x.pl ∧ x.pl < 4294967296) : decA 3 (encB3 L) = some L := by
  unfold decA
  rw [if_neg (by omega), if_neg (by omega), if_pos rfl]
  obtain ⟨E, hE⟩ : ∃ E, E = evenN (totN (L.map En.name)) := ⟨_, rfl⟩
  have hE1 : totN (L.map En.name) ≤ E ∧ E ≤ 2147483649 := by rw [hE]; unfold evenN; omega
  obtain ⟨b, hb0⟩ : ∃ b, b = encB3 L := ⟨_, rfl⟩
  have hb : b = nb3 (8 * L.length) ++ (prB L L.length ++ (nb3 E ++ (nmB L ++ List.replicate (E - totN (L.map En.name)) 0))) := by rw [hb0]; unfold encB3; rw [← hE]; simp only [List.append_assoc]
  rw [← hb0]
  have hlen : b.length = 8 + 8 * L.length + E := by
    rw [hb]; simp only [List.length_append, List.length_replicate, nb3_len, prB_len, nmB_len]; omega
  have hN : bsN b = 8 * L.length := by
    unfold bsN leW
    rw [pieceK (pre := []) (x := nb3 (8 * L.length)) (post := prB L L.length ++ (nb3 E ++ (nmB L ++ List.replicate (E - totN (L.map En.name)) 0))) 0 4 (by rw [hb]; simp) rfl (nb3_len _), nb3_le _ (by omega)]
  have hK : bsK b = E := by
    unfold bsK leW
    rw [hN, pieceK (pre := nb3 (8 * L.length) ++ prB L L.length) (x := nb3 E) (post := nmB L ++ List.replicate (E - totN (L.map En.name)) 0) (4 + 8 * L.length) 4 (by rw [hb]; simp only [List.append_assoc]) (by rw [List.length_append, nb3_len, prB_len]; omega) (nb3_len _), nb3_le _ (by omega)]
  have hS : bsS b = nmB L ++ List.replicate (E - totN (L.map En.name)) 0 := by
    unfold bsS
    rw [hN, hK]
    exact pieceK (pre := nb3 (8 * L.length) ++ (prB L L.length ++ nb3 E)) (post := []) (8 + 8 * L.length) E (by rw [hb]; simp only [List.append_assoc, List.append_nil]) (by simp only [List.length_append, nb3_len, prB_len]; omega) (by rw [List.length_append, List.length_replicate, nmB_len]; omega)
  have hdiv : bsN b / 8 = L.length := by rw [hN]; omega
  have hat : ∀ k x, L[k]? = some x → leW b (4 + 8 * k) 4 = begN (L.take k) ∧ leW b (8 + 8 * k) 4 = x.pl.toNat := by
    intro k x hx
    have hk : k < L.length := (List.getElem?_eq_some_iff.1 hx).1
    obtain ⟨r, hr⟩ := prB_at L k L.length hk
    rw [hx] at hr
    have hr' : prB L L.length = prB L k ++ (nb3 (begN (L.take k)) ++ nb3 x.pl.toNat) ++ r := hr
    have hbg : begN (L.take k) ≤ totN (L.map En.name) := by unfold begN; rw [List.map_take]; exact totN_takeK _ _
    have hpx := hp x (List.mem_of_getElem? hx)
    constructor
    · unfold leW
      rw [pieceK (pre := nb3 (8 * L.length) ++ prB L k) (x := nb3 (begN (L.take k))) (post := nb3 x.pl.toNat ++ (r ++ (nb3 E ++ (nmB L ++ List.replicate (E - totN (L.map En.name)) 0)))) (4 + 8 * k) 4 (by rw [hb, hr']; simp only [List.append_assoc]) (by rw [List.length_append, nb3_len, prB_len]; omega) (nb3_len _), nb3_le _ (by omega)]
    · unfold leW
      rw [pieceK (pre := nb3 (8 * L.length) ++ (prB L k ++ nb3 (begN (L.take k)))) (x := nb3 x.pl.toNat) (post := r ++ (nb3 E ++ (nmB L ++ List.replicate (E - totN (L.map En.name)) 0))) (8 + 8 * k) 4 (by rw [hb, hr']; simp only [List.append_assoc]) (by simp only [List.length_append, nb3_len, prB_len]; omega) (nb3_len _), nb3_le _ (by omega)]
  have hnm : ∀ k x, L[k]? = some x → nmE (bsS b) (begN (L.take k)) = some (begN (L.take k) + x.name.size) ∧ nmS (bsS b) (begN (L.take k)) = x.name := by
    intro k x hx
    have q := nmE_at (b := bsS b) (pre := nmB (L.take k)) (post := nmB (L.drop (k + 1)) ++ List.replicate (E - totN (L.map En.name)) 0) (s := x.name) (by
      rw [hS]
      conv => lhs; rw [show nmB L = nmB (L.take k) ++ (x.name.data.toList ++ [0] ++ nmB (L.drop (k + 1))) by
        conv => lhs; rw [atK hx]
        rw [nmB_app, nmB_cons]]
      simp only [List.append_assoc]) (goodAll_at hg hx)
    rw [nmB_len] at q
    exact q
  have hall : bsAll b = true := by
    rw [bsAll_iff, hdiv]
    intro i hi
    obtain ⟨x, hx⟩ : ∃ x, L[i]? = some x := ⟨_, List.getElem?_eq_getElem hi⟩
    unfold bsOk
    rw [(hat i x hx).1, (hnm i x hx).1]; rfl
  unfold bsdA
  rw [if_neg (by rw [hN, hK]; omega), if_pos hall, hdiv]
  congr 1
  apply List.ext_getElem?
  intro k
  by_cases hk : k < L.length
  · obtain ⟨x, hx⟩ : ∃ x, L[k]? = some x := ⟨_, List.getElem?_eq_getElem hk⟩
    rw [List.getElem?_map, List.getElem?_range hk, hx]
    show some (enB b k) = some x
    have hpx := hp x (List.mem_of_getElem? hx)
    unfold enB
    rw [(hat k x hx).1, (hat k x hx).2, (hnm k x hx).2]
    obtain ⟨a, c⟩ := x
    congr 2
    simp only at hpx ⊢; omega
  · rw [List.getElem?_eq_none (by simp; omega), List.getElem?_eq_none (by omega)]
/-- the bytes in each form -/
def encB (f : Int) (L : List En) : List UInt8 := if f = 1 then encB1 L else if f = 2 then encB2 L else encB3 L
theorem encB_len (f : Int) (L : List En) (hf : known f) : (encB f L).length = headN f L.length + evenN (totN (L.map En.name)) := by
  have hE : totN (L.map En.name) ≤ evenN (totN (L.map En.name)) := by unfold evenN; omega
  rcases hf with rfl | rfl | rfl
  · simp only [encB, if_pos, encB1, headN, List.length_append, List.length_replicate, nb1_len, flat_nb _ (fun x => nb1_len _), nmB_len]; omega
  · rw [encB, if_neg (by omega), if_pos rfl, headN, if_neg (by omega)]
    simp only [encB2, List.length_append, List.length_replicate, nb2_len, flat_nb _ (fun x => nb2_len _), nmB_len]; omega
  · rw [encB, if_neg (by omega), if_neg (by omega), headN, if_neg (by omega)]
    simp only [encB3, List.length_append, List.length_replicate, nb3_len, prB_len, nmB_len]; omega
end Go.Proofs.YtegjklllnegghaaGreatDoor
