import Derived.Test.YtegjklllnegghaaGreatDoorBLz

-- Plain mathematics: an index that is cut off is refused.
namespace Go.Proofs.YtegjklllnegghaaGreatDoor
set_option linter.unusedVariables false
set_option maxRecDepth 100000
theorem takeK {b x post : List UInt8} {c : Nat} (h : b = x ++ post) (hc : x.length ≤ c) : b.take c = x ++ post.take (c - x.length) := by
  rw [h, List.take_append, List.take_of_length_le hc]
theorem beW_cut (b : List UInt8) (p w c : Nat) (h : p + w ≤ c) : beW (b.take c) p w = beW b p w := by
  unfold beW
  rw [List.drop_take, List.take_take, Nat.min_eq_left (by omega)]
theorem leW_cut (b : List UInt8) (p w c : Nat) (h : p + w ≤ c) : leW (b.take c) p w = leW b p w := by
  unfold leW
  rw [List.drop_take, List.take_take, Nat.min_eq_left (by omega)]
theorem rowCut {b : List UInt8} {w : Nat} (nb : Nat → List UInt8) (L : List En) (z c : Nat) (hw : 0 < w) (hl : ∀ v, (nb v).length = w)
    (hb : b = nb L.length ++ (L.flatMap (fun x => nb x.pl.toNat) ++ (nmB L ++ List.replicate z 0)))
    (hn : beNat (nb L.length) = L.length) (hg : goodAll (L.map En.name) = true) (hpm : ∀ x ∈ L, beNat (nb x.pl.toNat) ≤ mostI)
    (hc : c < w + w * L.length + totN (L.map En.name)) : rowA (b.take c) w = none := by
  have hfl : ∀ l : List En, (l.flatMap (fun x => nb x.pl.toNat)).length = l.length * w := fun l => flat_nb _ (fun x => hl _) l
  have hmul : w * L.length = L.length * w := Nat.mul_comm _ _
  have hlen : b.length = w + (L.length * w + (totN (L.map En.name) + z)) := by
    rw [hb]; simp only [List.length_append, List.length_replicate, hl, hfl, nmB_len]
  have hcl : (b.take c).length = c := by rw [List.length_take]; omega
  by_cases h1 : c < w
  · exact rowA_short (by rw [hcl]; exact h1)
  have hcnt : beW (b.take c) 0 w = L.length := by
    rw [beW_cut b 0 w c (by omega)]
    unfold beW
    rw [pieceK (pre := []) (x := nb L.length) (post := L.flatMap (fun x => nb x.pl.toNat) ++ (nmB L ++ List.replicate z 0)) 0 w (by rw [hb]; simp) rfl (hl _), hn]
  by_cases h2 : c < w + w * L.length
  · refine rowA_many ?_
    rw [hcl, hcnt, Nat.div_lt_iff_lt_mul hw]; omega
  have hfull : ∀ k x, L[k]? = some x → w + w * L.length + totN ((L.take (k + 1)).map En.name) ≤ c → nmE (b.take c) (w + w * L.length + totN ((L.take k).map En.name)) = some (w + w * L.length + totN ((L.take k).map En.name) + x.name.size) := by
    intro k x hx hcc
    have hsn : totN ((L.take (k + 1)).map En.name) = totN ((L.take k).map En.name) + (x.name.size + 1) := by rw [take_snoc hx, List.map_append]; exact totN_snoc _ _
    have hpl : (nb L.length ++ (L.flatMap (fun x => nb x.pl.toNat) ++ nmB (L.take k))).length = w + w * L.length + totN ((L.take k).map En.name) := by
      rw [List.length_append, List.length_append, hl, hfl, nmB_len, Nat.mul_comm]; omega
    have hs : x.name.data.toList.length = x.name.size := rfl
    have q := nmE_at (b := b.take c) (pre := nb L.length ++ (L.flatMap (fun x => nb x.pl.toNat) ++ nmB (L.take k))) (post := (nmB (L.drop (k + 1)) ++ List.replicate z 0).take (c - (nb L.length ++ (L.flatMap (fun x : En => nb x.pl.toNat) ++ nmB (L.take k)) ++ (x.name.data.toList ++ [0])).length)) (s := x.name) (by
      refine takeK ?_ ?_
      · rw [hb]
        conv => lhs; rw [show nmB L = nmB (L.take k) ++ (x.name.data.toList ++ [0] ++ nmB (L.drop (k + 1))) by
          conv => lhs; rw [atK hx]
          rw [nmB_app, nmB_cons]]
        simp only [List.append_assoc]
      · rw [List.length_append, hpl, List.length_append, hs]; simp only [List.length_cons, List.length_nil]; omega) (goodAll_at hg hx)
    rw [hpl] at q
    exact q.1
  have hstop : ∀ k x, L[k]? = some x → w + w * L.length + totN ((L.take k).map En.name) ≤ c → c < w + w * L.length + totN ((L.take (k + 1)).map En.name) → nmE (b.take c) (w + w * L.length + totN ((L.take k).map En.name)) = none := by
    intro k x hx hc1 hc2
    have hsn : totN ((L.take (k + 1)).map En.name) = totN ((L.take k).map En.name) + (x.name.size + 1) := by rw [take_snoc hx, List.map_append]; exact totN_snoc _ _
    have hpl : (nb L.length ++ (L.flatMap (fun x => nb x.pl.toNat) ++ nmB (L.take k))).length = w + w * L.length + totN ((L.take k).map En.name) := by
      rw [List.length_append, List.length_append, hl, hfl, nmB_len, Nat.mul_comm]; omega
    have hs : x.name.data.toList.length = x.name.size := rfl
    have hbb : b = (nb L.length ++ (L.flatMap (fun x => nb x.pl.toNat) ++ nmB (L.take k))) ++ (x.name.data.toList ++ ([0] ++ (nmB (L.drop (k + 1)) ++ List.replicate z 0))) := by
      rw [hb]
      conv => lhs; rw [show nmB L = nmB (L.take k) ++ (x.name.data.toList ++ [0] ++ nmB (L.drop (k + 1))) by
        conv => lhs; rw [atK hx]
        rw [nmB_app, nmB_cons]]
      simp only [List.append_assoc]
    unfold nmE
    rw [zAt_no, Option.bind_none]
    intro j hj hz
    have hjc : j < c := by have := (List.getElem?_eq_some_iff.1 hz).1; omega
    rw [List.getElem?_take_of_lt hjc, hbb, List.getElem?_append_right (by omega), hpl, List.getElem?_append_left (by omega)] at hz
    exact ((goodL_iff _).1 (goodAll_at hg hx)).2 (List.mem_of_getElem? hz)
  have hplv : ∀ k x, L[k]? = some x → beW (b.take c) (w + w * k) w ≤ mostI := by
    intro k x hx
    have hk : k < L.length := (List.getElem?_eq_some_iff.1 hx).1
    have hkm : w * (k + 1) ≤ w * L.length := Nat.mul_le_mul_left w hk
    rw [Nat.mul_add, Nat.mul_one] at hkm
    rw [beW_cut b (w + w * k) w c (by omega)]
    unfold beW
    rw [pieceK (pre := nb L.length ++ (L.take k).flatMap (fun x => nb x.pl.toNat)) (x := nb x.pl.toNat) (post := (L.drop (k + 1)).flatMap (fun x => nb x.pl.toNat) ++ (nmB L ++ List.replicate z 0)) (w + w * k) w ?_ ?_ (hl _)]
    · exact hpm x (List.mem_of_getElem? hx)
    · rw [hb]
      conv => lhs; rw [show L.flatMap (fun x => nb x.pl.toNat) = (L.take k).flatMap (fun x => nb x.pl.toNat) ++ (nb x.pl.toNat ++ (L.drop (k + 1)).flatMap (fun x => nb x.pl.toNat)) by
        conv => lhs; rw [atK hx]
        rw [List.flatMap_append, List.flatMap_cons]]
      simp only [List.append_assoc]
    · rw [List.length_append, hl, hfl, List.length_take, Nat.min_eq_left (by omega), Nat.mul_comm]
  have key : ∀ k, k ≤ L.length → (rowP (b.take c) w L.length k = some (w + w * L.length + totN ((L.take k).map En.name)) ∧ w + w * L.length + totN ((L.take k).map En.name) ≤ c) ∨ rowP (b.take c) w L.length k = none := by
    intro k
    induction k with
    | zero => intro _; left; simp [rowP, totN]; omega
    | succ k ih =>
      intro hk
      obtain ⟨x, hx⟩ : ∃ x, L[k]? = some x := ⟨_, List.getElem?_eq_getElem (by omega)⟩
      rcases ih (by omega) with ⟨e1, e2⟩ | e
      · by_cases hcc : w + w * L.length + totN ((L.take (k + 1)).map En.name) ≤ c
        · left
          refine ⟨?_, hcc⟩
          rw [rowP_next e1 (hfull k x hx hcc) (hplv k x hx), take_snoc hx, List.map_append]
          show some _ = some (_ + totN ((L.take k).map En.name ++ [x.name]))
          rw [totN_snoc]
          exact congrArg some (by omega)
        · right
          exact rowP_stop e1 (.inl (hstop k x hx e2 (by omega)))
      · right
        simp only [rowP, e]; rfl
  rcases key L.length (Nat.le_refl _) with ⟨_, e2⟩ | e
  · rw [List.take_length] at e2; omega
  · exact rowA_stop (k := L.length) (by rw [hcnt]; exact e) (by rw [hcnt]; exact Nat.le_refl _)
theorem cut1 (L : List En) (c : Nat) (hL : L.length ≤ 2000) (hg : goodAll (L.map En.name) = true) (hp : ∀ x ∈ L, 0 ≤ x.pl ∧ x.pl < 4294967296) (hc : c < headN 1 L.length + totN (L.map En.name)) : decA 1 ((encB1 L).take c) = none := by
  unfold decA
  rw [if_pos rfl]
  refine rowCut nb1 L (evenN (totN (L.map En.name)) - totN (L.map En.name)) c (by omega) nb1_len (by unfold encB1; simp only [List.append_assoc]) (nb1_be _ (by omega)) hg (fun x hx => ?_) (by unfold headN at hc; rw [if_pos rfl] at hc; exact hc)
  have := hp x hx
  rw [nb1_be _ (by omega)]; unfold mostI; omega
theorem cut2 (L : List En) (c : Nat) (hL : L.length ≤ 2000) (hg : goodAll (L.map En.name) = true) (hp : ∀ x ∈ L, 0 ≤ x.pl ∧ x.pl < 9223372036854775808) (hc : c < headN 2 L.length + totN (L.map En.name)) : decA 2 ((encB2 L).take c) = none := by
  unfold decA
  rw [if_neg (by omega), if_pos rfl]
  refine rowCut nb2 L (evenN (totN (L.map En.name)) - totN (L.map En.name)) c (by omega) nb2_len (by unfold encB2; simp only [List.append_assoc]) (nb2_be _ (by omega)) hg (fun x hx => ?_) (by unfold headN at hc; rw [if_neg (by omega)] at hc; exact hc)
  have := hp x hx
  rw [nb2_be _ (by omega)]; unfold mostI; omega
theorem cut3 (L : List En) (c : Nat) (hL : L.length ≤ 2000) (hT : totN (L.map En.name) ≤ 2147483648) (hc : c < (encB3 L).length) : decA 3 ((encB3 L).take c) = none := by
  unfold decA
  rw [if_neg (by omega), if_neg (by omega), if_pos rfl]
  obtain ⟨E, hE⟩ : ∃ E, E = evenN (totN (L.map En.name)) := ⟨_, rfl⟩
  have hE1 : totN (L.map En.name) ≤ E ∧ E ≤ 2147483649 := by rw [hE]; unfold evenN; omega
  obtain ⟨b, hb0⟩ : ∃ b, b = encB3 L := ⟨_, rfl⟩
  have hb : b = nb3 (8 * L.length) ++ (prB L L.length ++ (nb3 E ++ (nmB L ++ List.replicate (E - totN (L.map En.name)) 0))) := by rw [hb0]; unfold encB3; rw [← hE]; simp only [List.append_assoc]
  rw [← hb0] at hc ⊢
  have hlen : b.length = 8 + 8 * L.length + E := by
    rw [hb]; simp only [List.length_append, List.length_replicate, nb3_len, prB_len, nmB_len]; omega
  have hcl : (b.take c).length = c := by rw [List.length_take]; omega
  unfold bsdA
  rw [if_pos]
  rw [hcl]
  by_cases h1 : c < 4
  · exact .inl h1
  have hN : bsN (b.take c) = 8 * L.length := by
    unfold bsN
    rw [leW_cut b 0 4 c (by omega)]
    unfold leW
    rw [pieceK (pre := []) (x := nb3 (8 * L.length)) (post := prB L L.length ++ (nb3 E ++ (nmB L ++ List.replicate (E - totN (L.map En.name)) 0))) 0 4 (by rw [hb]; simp) rfl (nb3_len _), nb3_le _ (by omega)]
  by_cases h2 : c < 8 + 8 * L.length
  · exact .inr (.inr (.inl (by rw [hN]; exact h2)))
  have hK : bsK (b.take c) = E := by
    unfold bsK
    rw [hN, leW_cut b _ 4 c (by omega)]
    unfold leW
    rw [pieceK (pre := nb3 (8 * L.length) ++ prB L L.length) (x := nb3 E) (post := nmB L ++ List.replicate (E - totN (L.map En.name)) 0) (4 + 8 * L.length) 4 (by rw [hb]; simp only [List.append_assoc]) (by rw [List.length_append, nb3_len, prB_len]; omega) (nb3_len _), nb3_le _ (by omega)]
  exact .inr (.inr (.inr (by rw [hN, hK]; omega)))
/-- without its last byte 0 an index of form 1 or 2 is read as it was -/
theorem whole1 (L : List En) (hL : L.length ≤ 2000) (hg : goodAll (L.map En.name) = true) (hp : ∀ x ∈ L, 0 ≤ x.pl ∧ x.pl < 4294967296) : decA 1 ((encB1 L).take (headN 1 L.length + totN (L.map En.name))) = some L := by
  unfold decA
  rw [if_pos rfl]
  refine rowBack nb1 L 0 (by omega) nb1_len ?_ (nb1_be _ (by omega)) (fun x hx => ?_) hg
  · have e : (nb1 L.length ++ L.flatMap (fun x => nb1 x.pl.toNat) ++ nmB L).length = headN 1 L.length + totN (L.map En.name) := by
      simp only [List.length_append, nb1_len, flat_nb _ (fun x => nb1_len _), nmB_len, headN, if_pos]; omega
    unfold encB1
    rw [List.take_append_of_le_length (by omega), List.take_of_length_le (by omega)]; simp only [List.replicate_zero, List.append_nil, List.append_assoc]
  · have := hp x hx
    exact ⟨this.1, by omega, nb1_be _ (by omega)⟩
theorem whole2 (L : List En) (hL : L.length ≤ 2000) (hg : goodAll (L.map En.name) = true) (hp : ∀ x ∈ L, 0 ≤ x.pl ∧ x.pl < 9223372036854775808) : decA 2 ((encB2 L).take (headN 2 L.length + totN (L.map En.name))) = some L := by
  unfold decA
  rw [if_neg (by omega), if_pos rfl]
  refine rowBack nb2 L 0 (by omega) nb2_len ?_ (nb2_be _ (by omega)) (fun x hx => ?_) hg
  · have e : (nb2 L.length ++ L.flatMap (fun x => nb2 x.pl.toNat) ++ nmB L).length = headN 2 L.length + totN (L.map En.name) := by
      rw [headN, if_neg (by omega)]
      simp only [List.length_append, nb2_len, flat_nb _ (fun x => nb2_len _), nmB_len]; omega
    unfold encB2
    rw [List.take_append_of_le_length (by omega), List.take_of_length_le (by omega)]; simp only [List.replicate_zero, List.append_nil, List.append_assoc]
  · have := hp x hx
    exact ⟨this.1, by omega, nb2_be _ (by omega)⟩
theorem cut_ok (f : Int) (hf : known f) (L : List En) (c : Nat) (hL : L.length ≤ 2000) (hT : totN (L.map En.name) ≤ 2147483648) (hg : goodAll (L.map En.name) = true) (hp : ∀ x ∈ L, 0 ≤ x.pl ∧ x.pl < 9223372036854775808 ∧ (¬ f = 2 → x.pl < 4294967296)) (hc : c < (encB f L).length) (hc2 : ¬ f = 3 → c < headN f L.length + totN (L.map En.name)) : decA f ((encB f L).take c) = none := by
  rcases hf with rfl | rfl | rfl
  · have e : encB 1 L = encB1 L := by unfold encB; rw [if_pos rfl]
    rw [e]; exact cut1 L c hL hg (fun x hx => ⟨(hp x hx).1, (hp x hx).2.2 (by omega)⟩) (hc2 (by omega))
  · have e : encB 2 L = encB2 L := by unfold encB; rw [if_neg (by omega), if_pos rfl]
    rw [e]; exact cut2 L c hL hg (fun x hx => ⟨(hp x hx).1, (hp x hx).2.1⟩) (hc2 (by omega))
  · have e : encB 3 L = encB3 L := by unfold encB; rw [if_neg (by omega), if_neg (by omega)]
    rw [e] at hc ⊢; exact cut3 L c hL hT hc
theorem whole_ok (f : Int) (hf : known f) (h3 : ¬ f = 3) (L : List En) (hL : L.length ≤ 2000) (hg : goodAll (L.map En.name) = true) (hp : ∀ x ∈ L, 0 ≤ x.pl ∧ x.pl < 9223372036854775808 ∧ (¬ f = 2 → x.pl < 4294967296)) : decA f ((encB f L).take (headN f L.length + totN (L.map En.name))) = some L := by
  rcases hf with rfl | rfl | rfl
  · have e : encB 1 L = encB1 L := by unfold encB; rw [if_pos rfl]
    rw [e]; exact whole1 L hL hg (fun x hx => ⟨(hp x hx).1, (hp x hx).2.2 (by omega)⟩)
  · have e : encB 2 L = encB2 L := by unfold encB; rw [if_neg (by omega), if_pos rfl]
    rw [e]; exact whole2 L hL hg (fun x hx => ⟨(hp x hx).1, (hp x hx).2.1⟩)
  · exact absurd rfl h3
end Go.Proofs.YtegjklllnegghaaGreatDoor
