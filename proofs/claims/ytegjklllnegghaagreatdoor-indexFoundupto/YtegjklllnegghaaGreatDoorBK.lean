
-- Plain mathematics: an index that was written is read as it was.
import Derived.Test.YtegjklllnegghaaGreatDoorEP1
import Derived.Test.YtegjklllnegghaaGreatDoorEP2
import Derived.Test.YtegjklllnegghaaGreatDoorEP3
import Derived.Test.YtegjklllnegghaaGreatDoorRB
namespace Go.Proofs.YtegjklllnegghaaGreatDoor
set_option linter.unusedVariables false
set_option maxRecDepth 100000
theorem pieceK {b pre x post : List UInt8} (p w : Nat) (h : b = pre ++ x ++ post) (hp : pre.length = p) (hx : x.length = w) : (b.drop p).take w = x := by
  subst h hp hx
  rw [List.append_assoc, List.drop_left, List.take_left]
theorem nb1_be (v : Nat) (h : v < 4294967296) : beNat (nb1 v) = v := by
  unfold nb1 beNat; rw [List.reverse_reverse, leNat_leBytes]; exact Nat.mod_eq_of_lt h
theorem nb2_be (v : Nat) (h : v < 18446744073709551616) : beNat (nb2 v) = v := by
  unfold nb2 beNat; rw [List.reverse_reverse, leNat_leBytes]; exact Nat.mod_eq_of_lt h
theorem nb3_le (v : Nat) (h : v < 4294967296) : leNat (nb3 v) = v := by
  unfold nb3; rw [leNat_leBytes]; exact Nat.mod_eq_of_lt h
theorem beNat_nb (k v : Nat) (h : v < 256 ^ k) : beNat (leBytes k v).reverse = v := by
  unfold beNat; rw [List.reverse_reverse, leNat_leBytes, Nat.mod_eq_of_lt h]
theorem atK {L : List En} {k : Nat} {x : En} (h : L[k]? = some x) : L = L.take k ++ x :: L.drop (k + 1) := by
  obtain ⟨h1, h2⟩ := List.getElem?_eq_some_iff.1 h
  rw [← h2, List.getElem_cons_drop, List.take_append_drop]
theorem nmB_app (a b : List En) : nmB (a ++ b) = nmB a ++ nmB b := by unfold nmB; simp
theorem nmB_cons (x : En) (r : List En) : nmB (x :: r) = x.name.data.toList ++ [0] ++ nmB r := by unfold nmB; simp
/-- the name that stands at p -/
theorem nmE_at {b pre post : List UInt8} {s : ByteArray} (h : b = pre ++ (s.data.toList ++ [0]) ++ post) (hg : goodL s.data.toList = true) :
    nmE b pre.length = some (pre.length + s.size) ∧ nmS b pre.length = s := by
  obtain ⟨g1, g2⟩ := (goodL_iff _).1 hg
  have hs : s.data.toList.length = s.size := rfl
  have hz : zAt b pre.length = some (pre.length + s.size) := by
    refine zAt_at b _ _ (by omega) ?_ fun j hj hji hc => ?_
    · rw [h, List.append_assoc, List.getElem?_append_right (by omega), show pre.length + s.size - pre.length = s.data.toList.length by omega]
      rw [List.append_assoc, List.getElem?_append_right (Nat.le_refl _), Nat.sub_self]; rfl
    · rw [h, List.append_assoc, List.getElem?_append_right hj, List.append_assoc, List.getElem?_append_left (by omega)] at hc
      exact g2 (List.mem_of_getElem? hc)
  have hpos : 0 < s.size := by
    rw [← hs]; exact List.length_pos_iff.2 g1
  have hE : nmE b pre.length = some (pre.length + s.size) := by
    unfold nmE; rw [hz]
    show (if pre.length < pre.length + s.size then some (pre.length + s.size) else none) = _
    rw [if_pos (by omega)]
  refine ⟨hE, ?_⟩
  unfold nmS
  rw [hE]
  show strL ((b.drop pre.length).take (pre.length + s.size - pre.length)) = s
  rw [pieceK (x := s.data.toList) (pre := pre) (post := [0] ++ post) pre.length _ (by rw [h]; simp) rfl (by rw [hs]; omega)]
  exact strL_of s
theorem goodAll_at {L : List En} {k : Nat} {x : En} (hg : goodAll (L.map En.name) = true) (h : L[k]? = some x) : goodL x.name.data.toList = true := by
  unfold goodAll at hg
  rw [List.all_eq_true] at hg
  exact hg x.name (List.mem_map.2 ⟨x, List.mem_of_getElem? h, rfl⟩)
theorem rowBack {b : List UInt8} {w : Nat} (nb : Nat → List UInt8) (L : List En) (z : Nat) (hw : 0 < w) (hl : ∀ v, (nb v).length = w)
    (hb : b = nb L.length ++ (L.flatMap (fun x => nb x.pl.toNat) ++ (nmB L ++ List.replicate z 0)))
    (hn : beNat (nb L.length) = L.length) (hv : ∀ x ∈ L, 0 ≤ x.pl ∧ x.pl ≤ 9223372036854775807 ∧ beNat (nb x.pl.toNat) = x.pl.toNat)
    (hg : goodAll (L.map En.name) = true) : rowA b w = some L := by
  have hfl : ∀ l : List En, (l.flatMap (fun x => nb x.pl.toNat)).length = l.length * w := fun l => flat_nb _ (fun x => hl _) l
  have hcnt : beW b 0 w = L.length := by
    unfold beW
    rw [pieceK (pre := []) (x := nb L.length) (post := L.flatMap (fun x => nb x.pl.toNat) ++ (nmB L ++ List.replicate z 0)) 0 w (by rw [hb]; simp) rfl (hl _), hn]
  have hlen : b.length = w + (L.length * w + (totN (L.map En.name) + z)) := by
    rw [hb]; simp only [List.length_append, List.length_replicate, hl, hfl, nmB_len]
  have hpl : ∀ k x, L[k]? = some x → beW b (w + w * k) w = x.pl.toNat := by
    intro k x hx
    have hk : k < L.length := (List.getElem?_eq_some_iff.1 hx).1
    unfold beW
    rw [pieceK (pre := nb L.length ++ (L.take k).flatMap (fun x => nb x.pl.toNat)) (x := nb x.pl.toNat) (post := (L.drop (k + 1)).flatMap (fun x => nb x.pl.toNat) ++ (nmB L ++ List.replicate z 0)) (w + w * k) w ?_ ?_ (hl _)]
    · exact (hv x (List.mem_of_getElem? hx)).2.2
    · rw [hb]
      conv => lhs; rw [show L.flatMap (fun x => nb x.pl.toNat) = (L.take k).flatMap (fun x => nb x.pl.toNat) ++ (nb x.pl.toNat ++ (L.drop (k + 1)).flatMap (fun x => nb x.pl.toNat)) by
        conv => lhs; rw [atK hx]
        rw [List.flatMap_append, List.flatMap_cons]]
      simp only [List.append_assoc]
    · rw [List.length_append, hl, hfl, List.length_take, Nat.min_eq_left (by omega), Nat.mul_comm]
  have hnm : ∀ k x, L[k]? = some x → nmE b (w + w * L.length + totN ((L.take k).map En.name)) = some (w + w * L.length + totN ((L.take k).map En.name) + x.name.size) ∧ nmS b (w + w * L.length + totN ((L.take k).map En.name)) = x.name := by
    intro k x hx
    have q := nmE_at (b := b) (pre := nb L.length ++ (L.flatMap (fun x => nb x.pl.toNat) ++ nmB (L.take k))) (post := nmB (L.drop (k + 1)) ++ List.replicate z 0) (s := x.name) (by
      rw [hb]
      conv => lhs; rw [show nmB L = nmB (L.take k) ++ (x.name.data.toList ++ [0] ++ nmB (L.drop (k + 1))) by
        conv => lhs; rw [atK hx]
        rw [nmB_app, nmB_cons]]
      simp only [List.append_assoc]) (goodAll_at hg hx)
    rw [show (nb L.length ++ (L.flatMap (fun x => nb x.pl.toNat) ++ nmB (L.take k))).length = w + w * L.length + totN ((L.take k).map En.name) by
      rw [List.length_append, List.length_append, hl, hfl, nmB_len, Nat.mul_comm]; omega] at q
    exact q
  have hP : ∀ k, k ≤ L.length → rowP b w L.length k = some (w + w * L.length + totN ((L.take k).map En.name)) := by
    intro k
    induction k with
    | zero => intro _; simp [rowP, totN]
    | succ k ih =>
      intro hk
      obtain ⟨x, hx⟩ : ∃ x, L[k]? = some x := ⟨_, List.getElem?_eq_getElem (by omega)⟩
      have hp := hpl k x hx
      have hvv := hv x (List.mem_of_getElem? hx)
      rw [rowP_next (ih (by omega)) (hnm k x hx).1 (by rw [hp]; unfold mostI; omega), take_snoc hx, List.map_append]
      show some _ = some (_ + totN ((L.take k).map En.name ++ [x.name]))
      rw [totN_snoc]
      exact congrArg some (by omega)
  have hend := hP L.length (Nat.le_refl _)
  rw [List.take_length] at hend
  have hmul : w * L.length = L.length * w := Nat.mul_comm _ _
  have hdiv : ¬ (b.length - w) / w < L.length := by
    rw [Nat.not_lt, Nat.le_div_iff_mul_le hw]; omega
  rw [rowA_end (p := w + w * L.length + totN (L.map En.name)) (by omega) (by rw [hcnt]; exact hdiv) (by rw [hcnt]; exact hend), hcnt]
  rw [if_pos]
  · congr 1
    unfold rowL
    apply List.ext_getElem?
    intro k
    by_cases hk : k < L.length
    · obtain ⟨x, hx⟩ : ∃ x, L[k]? = some x := ⟨_, List.getElem?_eq_getElem hk⟩
      rw [List.getElem?_map, List.getElem?_range hk, hx]
      show some (enR b w L.length k) = some x
      rw [enR_at (hP k (by omega)), (hnm k x hx).2, hpl k x hx]
      have hvv := hv x (List.mem_of_getElem? hx)
      obtain ⟨a, c⟩ := x
      congr 2
      simp only at hvv ⊢; omega
    · rw [List.getElem?_eq_none (by simp; omega), List.getElem?_eq_none (by omega)]
  · rw [zerosB_iff]
    intro j c hj hc
    rw [hb, List.getElem?_append_right (by rw [hl]; omega), List.getElem?_append_right (by rw [hl, hfl]; omega), List.getElem?_append_right (by rw [hl, hfl, nmB_len]; omega)] at hc
    exact (List.mem_replicate.1 (List.mem_of_getElem? hc)).2
theorem back1 (L : List En) (hL : L.length ≤ 2000) (hg : goodAll (L.map En.name) = true) (hp : ∀ x ∈ L, 0 ≤ x.pl ∧ x.pl < 4294967296) : decA 1 (encB1 L) = some L := by
  unfold decA
  rw [if_pos rfl]
  refine rowBack nb1 L (evenN (totN (L.map En.name)) - totN (L.map En.name)) (by omega) nb1_len (by unfold encB1; simp only [List.append_assoc]) (nb1_be _ (by omega)) (fun x hx => ?_) hg
  have := hp x hx
  exact ⟨this.1, by omega, nb1_be _ (by omega)⟩
theorem back2 (L : List En) (hL : L.length ≤ 2000) (hg : goodAll (L.map En.name) = true) (hp : ∀ x ∈ L, 0 ≤ x.pl ∧ x.pl < 9223372036854775808) : decA 2 (encB2 L) = some L := by
  unfold decA
  rw [if_neg (by omega), if_pos rfl]
  refine rowBack nb2 L (evenN (totN (L.map En.name)) - totN (L.map En.name)) (by omega) nb2_len (by unfold encB2; simp only [List.append_assoc]) (nb2_be _ (by omega)) (fun x hx => ?_) hg
  have := hp x hx
  exact ⟨this.1, by omega, nb2_be _ (by omega)⟩
end Go.Proofs.YtegjklllnegghaaGreatDoor
