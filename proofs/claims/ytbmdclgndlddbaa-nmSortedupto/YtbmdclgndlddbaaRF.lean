
-- The document's Sort.
import Derived.Test.YtbmdclgndlddbaaRD
namespace Go.Proofs.Ytbmdclgndlddbaa
open Go.ChangeShapes Go.WideShapes Go.ChangeAt Go.RowKit Go.Sort
set_option linter.unusedVariables false
set_option maxRecDepth 100000
set_option maxHeartbeats 16000000 in
theorem rnmSort_c (v : Value) (L : List Rw) (o : Op7) (w : World) (h : RowG rwL w v L) (hn : L.length ≤ 1048576) :
    Calls Try.prog 9 #[v, opV o] w fun e w' => ∃ u, e = .returned u ∧ RowN (fun b => b < w.heap.size) rwL w' u (sortL o L) ∧ Below w.heap.size w w' := by
  obtain ⟨Y, hY⟩ : ∃ Y, Y = opO o := ⟨_, rfl⟩
  obtain ⟨w1, hw1⟩ : ∃ w1, w1 = w.alloc Y := ⟨_, rfl⟩
  have hb1 : Below w.heap.size w w1 := by rw [hw1]; exact (Below.refl _ _).alloc (Nat.le_refl _) _
  have y0 : w1.heap[w.heap.size]? = some (opO o) := by rw [hw1, heap_alloc_new, hY]
  have HP := hidK (rpicked_c v L o w1 (h.on hb1) hn)
  have HB1 := hidK hb1
  have HY := hidK y0
  have HPL : Hid ((pickL o.g o.u L).length ≤ 1048576) := Nat.le_trans (pick_len _ _ _) hn
  obtain ⟨x1, x2, x3, x4, x5, x6, x7⟩ := op_cells y0
  have HOL : Hid (ordL o L = if o.p = true then pickL o.g o.u L else ordG (ltR o.n) (pickL o.g o.u L).length (pickL o.g o.u L)) := rfl
  have HSL : Hid (sortL o L = if o.r = true then (ordL o L).reverse else ordL o L) := rfl
  have HLN : Hid ((ordL o L).length ≤ 1048576) := Nat.le_trans (ordL_len _ _) hn
  obtain ⟨og, ou, on, op, or, oa, os⟩ := o
  unfold opO at hY
  unfold opV at HP ⊢
  simp only at hY HP HPL HOL HSL x1 x2 x3 x4 x5 x6 x7 ⊢
  obtain ⟨Q, hQ⟩ : ∃ Q, Q = ordL ⟨og, ou, on, op, or, oa, os⟩ L := ⟨_, rfl⟩
  obtain ⟨R, hR⟩ : ∃ Q, Q = sortL ⟨og, ou, on, op, or, oa, os⟩ L := ⟨_, rfl⟩
  rw [← hQ] at HOL HSL HLN
  rw [← hR] at HSL ⊢
  clear h hb1 y0 hQ hR
  subst hY
  go_enter Try.func9, Try.ntmps9
  go_upto_region 1 with fail
  rw [← hw1]
  clear hw1
  go_upto_region 2 with (go_at_call 19; refine HP.out.mono ?_; rintro e w2 ⟨a2, l2, c2, rfl, ho, hb⟩; have HO : Hid (RowN (fun b => b < w.heap.size) rwL w2 (.slice a2 l2 c2) (pickL og ou L)) := OwnF.rowNR elR ho (fun q h1 _ h3 => by have h1' : w1.heap.size ≤ q := h1; have h3' : q < w.heap.size := h3; have := HB1.out.size; omega); have HB2 := hidK hb; clear ho hb)
  clear x1 x2 x3 x4 x5 x6 x7
  obtain ⟨x1, x2, x3, x4, x5, x6, x7⟩ := op_cells (hkeepK HB2.out HY.out)
  have HSRT := hidK (ordered_c on w.heap.size _ (.slice a2 l2 c2) _ w2 (Nat.le_refl _) HO.out HPL.out (Nat.le_trans HB1.out.size HB2.out.size))
  go_upto_if 13 with fail
  go_cut [5] from 14 to 17 (fun s5 wx => RowN (fun b => b < w.heap.size) rwL wx s5 Q ∧ Below w2.heap.size w2 wx)
  case first =>
    cases op with
    | true =>
      go_wp2
      go_meet
      case rel => exact ⟨by rw [HOL.out]; exact HO.out, Below.refl _ _⟩
    | false =>
      go_wp2_with (go_at_call 20; refine HSRT.out.mono ?_; rintro e w3 ⟨u3, rfl, q1, q2⟩; have HO3 := hidK q1; have HB3 := hidK q2; clear q1 q2)
      go_meet
      case rel => exact ⟨by rw [HOL.out]; exact HO3.out, HB3.out⟩
  case rest =>
    obtain ⟨hr5, hb5⟩ := hcut
    obtain ⟨a5, c5, q5, _, _⟩ := hr5.row.form
    obtain ⟨n, hnn⟩ : ∃ n, n = Q.length := ⟨_, rfl⟩
    have HN := hidK hnn
    rw [← hnn] at q5
    subst q5
    have HV := hidK hr5
    have HB5 := hidK (HB2.out.trans (hb5.mono HB2.out.size))
    clear x1 x2 x3 x4 x5 x6 x7 HSRT
    obtain ⟨x1, x2, x3, x4, x5, x6, x7⟩ := op_cells (hkeepK HB5.out HY.out)
    have hnl : n ≤ 1048576 := by have := HLN.out; omega
    clear hr5 hb5 hnn
    cases or with
    | false =>
      go_wp2
      go_ret
      exact ⟨_, rfl, by rw [HSL.out]; exact HV.out, HB1.out.trans (HB5.out.mono HB1.out.size)⟩
    | true =>
      have nw : IntKind.i64.wrap ((n : Int) - 1) = (n : Int) - 1 := by rw [IntKind.wrap_i64]; omega
      go_wp2
      clear x1 x2 x3 x4 x5 x6 x7
      go_loopw [6, 7] (fun s i wx => ∃ (k : Nat) (a : Option Addr) (l c : Nat), i = .int .i64 ((k : Int) - 1) ∧ k ≤ n ∧ s = .slice a l c ∧ OwR (fun b => wc.heap.size ≤ b) wx (.slice a l c) (Q.drop k).reverse ∧ Below wc.heap.size wc wx) (fun _ i _ => (intOf i + 1).toNat)
      case atStart => exact ⟨n, none, 0, 0, by go_num, Nat.le_refl _, rfl, by rw [HN.out, List.drop_length]; exact OwnF.nil, Below.refl _ _⟩
      case round =>
        obtain ⟨k, ao, lo, co, rfl, hkn, rfl, ho, hb⟩ := hrel
        have HO6 := hidK ho
        have HB6 := hidK hb
        by_cases hk : 0 < k
        · obtain ⟨j, rfl⟩ : ∃ j, k = j + 1 := ⟨k - 1, by omega⟩
          have e0 : ((j + 1 : Nat) : Int) - 1 = (j : Int) := by omega
          rw [e0]
          have jI : (j : Int) < (n : Int) := by omega
          have j0 : (0 : Int) ≤ (j : Int) := by omega
          have jw : IntKind.i64.wrap ((j : Int) - 1) = (j : Int) - 1 := by rw [IntKind.wrap_i64]; omega
          obtain ⟨x, hx⟩ : ∃ x, Q[j]? = some x := ⟨_, List.getElem?_eq_getElem (by have := HN.out; omega)⟩
          obtain ⟨b1, o1, p1, e1, d0, d1, d2, d3, d4, d5, d6, d7⟩ := (HV.out.row.on hb).rw hx
          have HX : Hid ((Q.drop j).reverse = (Q.drop (j + 1)).reverse ++ [x]) := by show _ = _; rw [drop_cons' hx, List.reverse_cons]
          injection e1 with e1 e1b e1c
          subst e1
          have HLN2 : Hid ((Q.drop (j + 1)).reverse.length ≤ 1048576) := by show _ ≤ _; rw [List.length_reverse, List.length_drop]; have := HN.out; omega
          clear hx e1b e1c ho hb e0
          go_wp2_with (refine wpG_one (F := fun b => wc.heap.size ≤ b) elR rfl (.tmp 29) (.tmp 34) rfl (.slice ao lo co) _ x #[.string x.nm, .int .i64 x.bd, .int .i64 x.ty, .int .i64 x.ot, .int .i64 x.sc, .int .u64 x.va, .int .u64 x.sz, .int .u8 x.lt] rfl rfl rfl HO6.out (rwL_one _) (by have := HLN2.out; omega) (fun b hb => Nat.le_trans HB6.out.size hb) ?_; intro v4 w4 o4 k4 l4; have HO4 := hidK o4; have HK4 := hidK k4; obtain ⟨a4, p4, e4, _⟩ := o4.form; obtain ⟨m4, hm4⟩ : ∃ m, m = ((Q.drop (j + 1)).reverse ++ [x]).length := ⟨_, rfl⟩; rw [← hm4] at e4; clear hm4 o4 k4 l4; subst e4)
          go_roundw
          case rel => exact ⟨j, _, _, _, by go_num, by omega, rfl, by rw [HX.out]; exact HO4.out, HB6.out.trans (HK4.out.below (fun b hb => HO6.out.2 b hb) HB6.out.size)⟩
          case measure => simp [intOf]
        · obtain rfl : k = 0 := by omega
          have hz : ((0 : Nat) : Int) - 1 = -1 := by omega
          rw [hz]
          clear hz ho hb
          go_wp2
          go_ret
          have h1 := HB1.out.trans (HB5.out.mono HB1.out.size)
          exact ⟨_, rfl, by rw [HSL.out]; exact OwnF.rowNR elR HO6.out (fun q h4 _ h3 => by have h4' : wc.heap.size ≤ q := h4; have h3' : q < w.heap.size := h3; have := h1.size; omega), h1.trans (HB6.out.mono h1.size)⟩
end Go.Proofs.Ytbmdclgndlddbaa
