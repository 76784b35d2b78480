
-- The document's picked, ordered, Sort.
import Derived.Test.YtbmdclgndlddbaaRB
import Derived.Deep.CutRange
namespace Go.Proofs.Ytbmdclgndlddbaa
open Go.ChangeShapes Go.WideShapes Go.ChangeAt Go.RowKit Go.Sort
set_option linter.unusedVariables false
set_option maxRecDepth 100000
theorem OwnF.rowNR {α : Type} {c : α → List Value} {z e sl bytes : Nat} {F G : Nat → Prop} {w : World} {v : Value} {L : List α} (E : El c z e sl bytes) (h : OwnF F c z e w v L) (hn : ∀ b, F b → b < w.heap.size → ¬ G b) : RowN G c w v L := by
  obtain ⟨ao, cap, e1, h1, h2, h3, h4⟩ := OwnF.row E h
  refine ⟨ao, cap, e1, h1, h2, h3, fun hp => ?_⟩
  obtain ⟨b, off, e2, hc⟩ := h4 hp
  have hb : v.ownBlock = some b := by rw [e1, e2]; rfl
  exact ⟨b, off, e2, hn b (h.2 b hb) (h.lt b hb), hc⟩
theorem rowR_take {F : Nat → Prop} {w : World} {ao : Option Addr} {n c : Nat} {L : List Rw} (h : RowN F rwL w (.slice ao n c) L) {k : Nat} (hk : k ≤ n) : RowN F rwL w (.slice ao k c) (L.take k) := by
  obtain ⟨a, cap, e, h1, h2, h3, h4⟩ := h
  injection e with e1 e2 e3
  subst e1; subst e3
  have hl : (L.take k).length = k := by rw [List.length_take]; omega
  refine ⟨ao, c, by rw [hl], by omega, h2, h3, fun hp => ?_⟩
  obtain ⟨b, off, e, hnf, hc⟩ := h4 (by omega)
  refine ⟨b, off, e, hnf, fun j u hu => hc j u ?_⟩
  have hj : j < k * 8 := by have := (List.getElem?_eq_some_iff.1 hu).1; rw [flatG_len rwL 8 rwL_len, hl] at this; exact this
  rw [← flatG_take rwL 8 rwL_len, List.getElem?_take_of_lt hj] at hu
  exact hu
theorem rowR_drop {F : Nat → Prop} {w : World} {b off n c : Nat} {L : List Rw} (h : RowN F rwL w (.slice (some ⟨b, off, none⟩) n c) L) {k : Nat} (hk : k < n) : RowN F rwL w (.slice (some ⟨b, off + k * 8, none⟩) (n - k) (c - k)) (L.drop k) := by
  obtain ⟨a, cap, e, h1, h2, h3, h4⟩ := h
  injection e with e1 e2 e3
  subst e3
  have hl : (L.drop k).length = n - k := by rw [List.length_drop]; omega
  refine ⟨_, _, by rw [hl], by omega, by omega, (fun h => by cases h), fun hp => ?_⟩
  obtain ⟨b', off', e', hnf, hc⟩ := h4 (by omega)
  rw [← e1] at e'
  injection e' with e'
  injection e' with e2' e3' _
  subst e2'; subst e3'
  refine ⟨b, off + k * 8, rfl, hnf, fun j u hu => ?_⟩
  rw [← flatG_drop rwL 8 rwL_len, List.getElem?_drop] at hu
  have := hc (k * 8 + j) u hu
  rw [← Nat.add_assoc] at this
  exact this
set_option maxHeartbeats 8000000 in
theorem ordered_c (num : Bool) (B : Nat) : ∀ (f : Nat) (v : Value) (L : List Rw) (w : World), L.length ≤ f → RowN (fun b => b < B) rwL w v L → L.length ≤ 1048576 → B ≤ w.heap.size →
    Calls Try.prog 20 #[v, .bool num] w fun e w' => ∃ u, e = .returned u ∧ RowN (fun b => b < B) rwL w' u (ordG (ltR num) L.length L) ∧ Below w.heap.size w w' := by
  intro f
  induction f with
  | zero =>
    intro v L w hf h hn hBw
    obtain rfl : L = [] := List.eq_nil_of_length_eq_zero (by omega)
    obtain ⟨a1, c1, q1, _, _⟩ := h.row.form
    have HV := hidK h
    subst q1
    clear h
    go_enter Try.func20, Try.ntmps20
    go_wp2
    go_ret
    exact ⟨_, rfl, HV.out, Below.refl _ _⟩
  | succ f ih =>
    intro v L w hf h hn hBw
    obtain ⟨a1, c1, q1, hc1, hc2⟩ := h.row.form
    obtain ⟨n, hnn⟩ : ∃ n, n = L.length := ⟨_, rfl⟩
    have HN := hidK hnn
    have HV := hidK h
    subst q1
    rw [← hnn] at hn hf HV hc1 ⊢
    by_cases hl : n < 2
    · have HE : Hid (ordG (ltR num) n L = L) := by
        show _ = _
        rw [hnn]
        cases q : L.length with
        | zero => rfl
        | succ k => unfold ordG; rw [if_pos (by omega)]
      have lI : (n : Int) < 2 := by omega
      clear h hnn
      go_enter Try.func20, Try.ntmps20
      go_wp2
      go_ret
      exact ⟨_, rfl, by rw [HE.out]; exact HV.out, Below.refl _ _⟩
    · have lI : ¬ (n : Int) < 2 := by omega
      have HBB := hidK hBw
      obtain ⟨k, hk⟩ : ∃ k, k = n / 2 := ⟨_, rfl⟩
      have hk1 : 0 < k ∧ k < n := by omega
      obtain ⟨b, off, rfl⟩ : ∃ b off, a1 = some ⟨b, off, none⟩ := by
        obtain ⟨a, cap, e, _, _, _, h4⟩ := h
        obtain ⟨b, off, e2, _, _⟩ := h4 (by omega)
        injection e with e _ _
        exact ⟨b, off, by rw [e, e2]⟩
      have HT : Hid (∀ W, Below w.heap.size w W → RowN (fun b => b < B) rwL W (.slice (some ⟨b, off, none⟩) k c1) (L.take k) ∧ RowN (fun b => b < B) rwL W (.slice (some ⟨b, off + k * 8, none⟩) (n - k) (c1 - k)) (L.drop k)) := fun W hb => ⟨rowR_take (HV.out.kp (Kp.of_below hb)) (by omega), rowR_drop (HV.out.kp (Kp.of_below hb)) (by omega)⟩
      have H1 := hidK (ih (.slice (some ⟨b, off, none⟩) k c1) (L.take k) w (by rw [List.length_take]; omega) (HT.out w (Below.refl _ _)).1 (by rw [List.length_take]; omega) hBw)
      have H2 : Hid (∀ W, Below w.heap.size w W → Calls Try.prog 20 #[.slice (some ⟨b, off + k * 8, none⟩) (n - k) (c1 - k), .bool num] W fun e w' => ∃ u, e = .returned u ∧ RowN (fun b => b < B) rwL w' u (ordG (ltR num) (L.drop k).length (L.drop k)) ∧ Below W.heap.size W w') := fun W hb => ih _ (L.drop k) W (by rw [List.length_drop]; omega) (HT.out W hb).2 (by rw [List.length_drop]; omega) (Nat.le_trans hBw hb.size)
      have HE : Hid (ordG (ltR num) n L = mrg (ltR num) (ordG (ltR num) (L.take k).length (L.take k)) (ordG (ltR num) (L.drop k).length (L.drop k))) := by
        show _ = _
        rw [ordG_step (by omega) (by omega), ← hnn, ← hk]
      have kq : ((n : Int) / 2) = (k : Int) := by omega
      have kq2 : Int.tdiv (n : Int) 2 = (k : Int) := by rw [Int.tdiv_eq_ediv_of_nonneg (by omega)]; omega
      have kw : IntKind.i64.wrap (k : Int) = (k : Int) := by rw [IntKind.wrap_i64]; omega
      have kn : (k : Int) ≤ (n : Int) := by omega
      have kc : (k : Int) ≤ (c1 : Int) := by omega
      have k0 : (0 : Int) ≤ (k : Int) := by omega
      have kl : k < n := hk1.2
      have kcl : k < c1 := by omega
      have HLL : Hid ((L.take k).length ≤ 1048576 ∧ (L.drop k).length ≤ 1048576) := ⟨by rw [List.length_take]; omega, by rw [List.length_drop]; omega⟩
      clear h hnn ih hf hl hk hk1 HV
      go_enter Try.func20, Try.ntmps20
      go_upto_region 5 with (go_at_call 20; refine H1.out.mono ?_; rintro e w1 ⟨u1, rfl, hr, hb⟩; have HR1 := hidK hr; have HB1 := hidK hb; clear hr hb)
      have HA2 := hidK (H2.out w1 HB1.out)
      go_upto_region 6 with (go_at_call 20; refine HA2.out.mono ?_; rintro e w2 ⟨u2, rfl, hr, hb⟩; have HR2 := hidK hr; have HB2 := hidK hb; clear hr hb)
      have HA3 := hidK (merged_c num u1 u2 _ _ w2 (HR1.out.kp (Kp.of_below HB2.out)).row HR2.out.row (by rw [ordG_len]; exact HLL.out.1) (by rw [ordG_len]; exact HLL.out.2))
      go_wp2_with (go_at_call 25; refine HA3.out.mono ?_; rintro e w3 ⟨a3, l3, c3, rfl, hr, hb⟩; have HR3 := hidK hr; have HB3 := hidK hb; clear hr hb)
      go_ret
      have h2 := HB1.out.trans (HB2.out.mono HB1.out.size)
      exact ⟨_, rfl, by rw [HE.out]; exact OwnF.rowNR elR HR3.out (fun q h1 _ h3 => by have h1' : w2.heap.size ≤ q := h1; have h3' : q < B := h3; have := HBB.out; have := h2.size; omega), h2.trans (HB3.out.mono h2.size)⟩
end Go.Proofs.Ytbmdclgndlddbaa
