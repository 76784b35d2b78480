
-- The document's Sections: contracts.
import Derived.Test.YtoikagccopglkaaDoorR4
import Derived.Test.YtoikagccopglkaaDoorA5
import Derived.OwnWalk
namespace Go.Proofs.YtoikagccopglkaaDoor
open Go.ChangeShapes Go.WideShapes Go.ChangeAt Go.RowKit
set_option linter.unusedVariables false
set_option maxRecDepth 100000
theorem own_below {w w' : World} {base : Nat} {e : TypeId} {s : Nat} {v : Value} {n : Nat} {xs : List Value} (h : w.ownsRow base e s v n xs) (hb : Below w.heap.size w w') : w'.ownsRow base e s v n xs := by
  refine ⟨h.1, ?_⟩
  rcases h.2 with h | ⟨g, cap, cur, h1, h2, h3, h4⟩
  · exact Or.inl h
  · exact Or.inr ⟨g, cap, cur, h1, h2, (hb.block g (Array.getElem?_eq_some_iff.1 h3).1).trans h3, h4⟩
theorem own_base {w : World} {base base' : Nat} {e : TypeId} {s : Nat} {v : Value} {n : Nat} {xs : List Value} (h : w.ownsRow base e s v n xs) (hb : base' ≤ base) : w.ownsRow base' e s v n xs := by
  refine ⟨h.1, ?_⟩
  rcases h.2 with h | ⟨g, cap, cur, h1, h2, h3⟩
  · exact Or.inl h
  · exact Or.inr ⟨g, cap, cur, h1, Nat.le_trans hb h2, h3⟩
set_option maxHeartbeats 1000000 in
theorem rSecs_ok (b : ByteArray) (cc o h2 h3 h7 : Int) (so L h6 : Nat) (w : World) (sv : Nat → Array Value) (dq : Nat) (hdq : (b.size - so) / L = dq) (hm : b.size ≤ maxLen) (hb20 : b.size ≤ 1048576) (hso : so ≠ 0) (h60 : h6 ≠ 0) (h6b : h6 < 65536) (hL : 0 < L ∧ L ≤ 64) (hin : so ≤ b.size ∧ h6 * L ≤ b.size - so)
    (hX : ∀ i, ∃ x0 x1 x2 x3 x4 x5 x6 x7 : Int, sv i = #[.int .i64 x0, .int .i64 x1, .int .u64 x2, .int .i64 x3, .int .i64 x4, .int .u64 x5, .int .u64 x6, .int .u64 x7])
    (hH : ∀ w : World, Calls Tryd.prog 14 #[.string b] w fun r w' => r = .returned (.tuple #[.agg #[.int .i64 cc, .int .i64 o, .int .i64 h2, .int .i64 h3, .int .u64 (so : Int), .int .i64 (L : Int), .int .i64 (h6 : Int), .int .i64 h7], .int .i64 0]) ∧ Below w.heap.size w w')
    (hP : ∀ w : World, Calls Tryd.prog 15 #[.int .i64 cc, .int .i64 40, .int .i64 64] w fun r w' => r = .returned (.int .i64 L) ∧ w' = w)
    (hE : ∀ (i : Nat) (w : World), i < h6 → Calls Tryd.prog 17 #[.string b, .int .i64 ((so : Int) + (i : Int) * (L : Int)), .agg #[.int .i64 cc, .int .i64 o, .int .i64 h2, .int .i64 h3, .int .u64 (so : Int), .int .i64 (L : Int), .int .i64 (h6 : Int), .int .i64 h7]] w fun r w' => r = .returned (.agg (sv i)) ∧ Below w.heap.size w w')
    (hW : ∀ w : World, Calls Tryd.prog 16 #[.int .i64 b.size, .int .u64 so, .int .u64 0] w fun r w' => r = .returned (.bool true) ∧ w' = w) :
    Calls Tryd.prog 5 #[.string b] w fun r w' => ∃ v, r = .returned (.tuple #[v, .int .i64 0]) ∧ w'.ownsRow w.heap.size 48 8 v h6 (flat sv h6) ∧ Below w.heap.size w w' := by
  have HH := Hid.mk' hH
  have HP := Hid.mk' hP
  have HW := Hid.mk' hW
  have HE := Hid.mk' hE
  have HX := Hid.mk' hX
  obtain ⟨i0, hi, hz0, hz1, hz2⟩ := info_parts' infoSec
  have hs0 : ((so : Int) == 0) = false := beq_eq_false_iff_ne.2 (by omega)
  have hn0 : ((h6 : Int) == 0) = false := beq_eq_false_iff_ne.2 (by omega)
  have hLL : ((L : Int) != (L : Int)) = false := bne_self_eq_false _
  have hLne : ¬ (L : Int) = 0 := by omega
  have hm2 : (b.size : Int) ≤ 9223372036854775807 := by unfold maxLen at hm; omega
  have hq : IntKind.u64.wrap ((b.size : Int) - (so : Int)) = (((b.size - so : Nat)) : Int) := by rw [IntKind.wrap_u64]; omega
  have hd : h6 ≤ dq := by rw [← hdq]; exact (Nat.le_div_iff_mul_le hL.1).2 hin.2
  have hdl : dq ≤ b.size := by rw [← hdq]; exact Nat.le_trans (Nat.div_le_self _ _) (Nat.sub_le _ _)
  have hq2 : IntKind.u64.wrap ((((b.size - so : Nat)) : Int) / (L : Int)) = (dq : Int) := by
    rw [← Int.natCast_ediv, hdq, IntKind.wrap_u64]
    clear hq hin
    omega
  have hnlt : ¬ (dq : Int) < (h6 : Int) := Int.not_lt.2 (Int.ofNat_le.2 hd)
  have hnlt2 : ¬ dq < h6 := Nat.not_lt.2 hd
  clear hdq
  have hwn : IntKind.i64.wrap (h6 : Int) = (h6 : Int) := by rw [IntKind.wrap_i64]; omega
  have hwn2 : wrap64 (h6 : Int) = (h6 : Int) := by have h := hwn; rw [IntKind.wrap_i64] at h; unfold wrap64; exact h
  have hws : IntKind.i64.wrap (so : Int) = (so : Int) := by rw [IntKind.wrap_i64]; omega
  have hws2 : wrap64 (so : Int) = (so : Int) := by have h := hws; rw [IntKind.wrap_i64] at h; unfold wrap64; exact h
  clear hH hP hW hE hX
  have HW4 : Hid (IntKind.i64.wrap (h6 : Int) = (h6 : Int) ∧ wrap64 (h6 : Int) = (h6 : Int) ∧ IntKind.i64.wrap (so : Int) = (so : Int) ∧ wrap64 (so : Int) = (so : Int)) := ⟨hwn, hwn2, hws, hws2⟩
  have HWM : Hid (∀ j : Nat, j < h6 → IntKind.i64.wrap ((j : Int) * (L : Int)) = (j : Int) * (L : Int) ∧ IntKind.i64.wrap ((so : Int) + (j : Int) * (L : Int)) = (so : Int) + (j : Int) * (L : Int)) := by
    intro j hj
    have hjl : ((j * L : Nat) : Int) = (j : Int) * (L : Int) := Int.natCast_mul j L
    have hle : j * L ≤ h6 * L := Nat.mul_le_mul_right _ (Nat.le_of_lt hj)
    have h1 : j * L ≤ 1048576 := Nat.le_trans hle (Nat.le_trans hin.2 (Nat.le_trans (Nat.sub_le _ _) hb20))
    have h2 : so ≤ 1048576 := Nat.le_trans hin.1 hb20
    rw [← hjl]
    generalize j * L = q at h1
    clear hle hjl hin hq hq2 hm2 hws hwn hws2 hwn2
    constructor
    · rw [IntKind.wrap_i64]; omega
    · rw [IntKind.wrap_i64]; omega
  have hwL : IntKind.u64.wrap (L : Int) = (L : Int) := by rw [IntKind.wrap_u64]; omega
  clear hwn hwn2 hws hws2 hd hdl hb20 hm hin hL hso h60
  go_enter Tryd.func5, Tryd.ntmps5
  go_wp2_with (first
    | (go_at_call 14; refine (HH.out _).mono ?_; rintro r w1 ⟨rfl, hb1⟩)
    | (go_at_call 15; refine (HP.out _).mono ?_; rintro r w2 ⟨rfl, hw2⟩; subst w2)
    | (go_at_call 16; refine (HW.out _).mono ?_; rintro r w2 ⟨rfl, hw2⟩; subst w2))
  have hB1 : Below w.heap.size w (w1.alloc (.cells #[.int .i64 cc, .int .i64 o, .int .i64 h2, .int .i64 h3, .int .u64 (so : Int), .int .i64 (L : Int), .int .i64 (h6 : Int), .int .i64 h7] 42)) := Below.alloc hb1 hb1.size _
  have hR1 : (w1.alloc (.cells #[.int .i64 cc, .int .i64 o, .int .i64 h2, .int .i64 h3, .int .u64 (so : Int), .int .i64 (L : Int), .int .i64 (h6 : Int), .int .i64 h7] 42)).heap[w1.heap.size]? = some (.cells #[.int .i64 cc, .int .i64 o, .int .i64 h2, .int .i64 h3, .int .u64 (so : Int), .int .i64 (L : Int), .int .i64 (h6 : Int), .int .i64 h7] 42 (0, 0)) := heap_alloc_new w1 _
  have hs1 := hb1.size
  have hZ1 : (w1.alloc (.cells #[.int .i64 cc, .int .i64 o, .int .i64 h2, .int .i64 h3, .int .u64 (so : Int), .int .i64 (L : Int), .int .i64 (h6 : Int), .int .i64 h7] 42)).heap.size = w1.heap.size + 1 := size_alloc _ _
  generalize (w1.alloc (.cells #[.int .i64 cc, .int .i64 o, .int .i64 h2, .int .i64 h3, .int .u64 (so : Int), .int .i64 (L : Int), .int .i64 (h6 : Int), .int .i64 h7] 42)) = W at hB1 hR1 hZ1 ⊢
  clear hb1 HH HP HW hq hq2 hnlt hnlt2 hs0 hn0 hwL
  go_loopw [9, 10] (fun l i wx => ∃ j : Nat, j ≤ h6 ∧ i = .int .i64 j ∧ wx.ownsRow (w1.heap.size + 1) 48 8 l j (flat sv j) ∧ wx.heap[w1.heap.size]? = some (.cells #[.int .i64 cc, .int .i64 o, .int .i64 h2, .int .i64 h3, .int .u64 (so : Int), .int .i64 (L : Int), .int .i64 (h6 : Int), .int .i64 h7] 42 (0, 0)) ∧ Below w.heap.size w wx ∧ w1.heap.size + 1 ≤ wx.heap.size) (fun _ i _ => h6 - (intOf i).toNat)
  case atStart => exact ⟨0, Nat.zero_le _, rfl, World.ownsRow_nil _ _ _ _, hR1, hB1, by omega⟩
  case round =>
    obtain ⟨j, hj, rfl, hown, hR, hB, hlt⟩ := hrel
    by_cases hjn : j < h6
    · have hc3 : j + 1 ≤ maxLen := by clear hR hown hB; unfold maxLen; omega
      have hc4 : (j + 1) * 64 ≤ 140737488355328 := by clear hR hown hB; omega
      obtain ⟨hwn, hwn2, hws, hws2⟩ := HW4.out
      obtain ⟨hwm, hwa⟩ := HWM.out j hjn
      have hjI : (j : Int) < (h6 : Int) := Int.ofNat_lt.2 hjn
      have hj0 : (0 : Int) ≤ (j : Int) := Int.natCast_nonneg _
      have c4 : wr.cell? ⟨w1.heap.size, 4, none⟩ = some (.int .u64 (so : Int)) := cell_of_row _ _ 4 _ _ _ hR
      obtain ⟨x0, x1, x2, x3, x4, x5, x6, x7, hx⟩ := HX.out j
      have HEj : Hid (∀ w : World, Calls Tryd.prog 17 #[.string b, .int .i64 ((so : Int) + (j : Int) * (L : Int)), .agg #[.int .i64 cc, .int .i64 o, .int .i64 h2, .int .i64 h3, .int .u64 (so : Int), .int .i64 (L : Int), .int .i64 (h6 : Int), .int .i64 h7]] w fun r w' => r = .returned (.agg #[.int .i64 x0, .int .i64 x1, .int .u64 x2, .int .i64 x3, .int .i64 x4, .int .u64 x5, .int .u64 x6, .int .u64 x7]) ∧ Below w.heap.size w w') := fun w => by have h := HE.out j w hjn; rw [hx] at h; exact h
      have HXJ := Hid.mk' hx
      clear hx
      go_wp2_with (first
        | (refine wpList_load_row rfl _ _ rfl w1.heap.size rfl _ _ _ _ hR Tryd.underlying42 rfl (by kernel_rfl) ?_)
        | (go_at_call 17; refine (HEj.out _).mono ?_; rintro r w3 ⟨rfl, hb3⟩; have hOW := ((own_below hown hb3).alloc (.cells #[.int .i64 x0, .int .i64 x1, .int .u64 x2, .int .i64 x3, .int .i64 x4, .int .u64 x5, .int .u64 x6, .int .u64 x7] 48)).alloc (.cells #[.int .i64 x0, .int .i64 x1, .int .u64 x2, .int .i64 x3, .int .i64 x4, .int .u64 x5, .int .u64 x6, .int .u64 x7] 48))
        | (at_builtin; refine wpList_append_own _ rfl _ _ 22 rfl (w1.heap.size + 1) 48 i0 (.agg #[.int .i64 0, .int .i64 0, .int .u64 0, .int .i64 0, .int .i64 0, .int .u64 0, .int .u64 0, .int .u64 0]) 8 64 Tryd.underlying22 hi hz0 hz1 hz2 rfl (by decide) _ _ _ rfl hOW ⟨w3.heap.size + 1, 0, none⟩ 1 1 [.int .i64 x0, .int .i64 x1, .int .u64 x2, .int .i64 x3, .int .i64 x4, .int .u64 x5, .int .u64 x6, .int .u64 x7] rfl rfl ?c1 (by intro u hu; simp at hu; rcases hu with rfl | rfl | rfl | rfl | rfl | rfl | rfl | rfl <;> rfl) ?c3 ?c4 ?c5 ?_))
      case c1 =>
        intro m u hu
        rw [Addr.add_mid, Nat.zero_add, cell_of_row _ _ _ _ _ _ (heap_alloc2_new w3 _ _)]
        simpa using hu
      case c3 => exact hc3
      case c4 => exact hc4
      case c5 => rw [size_alloc, size_alloc]; have := hb3.size; omega
      intro v' w5 hown' hgrow _
      have hs3 := hb3.size
      have hrow : ∀ q, u9.ownBlock = some q → w1.heap.size + 1 ≤ q := fun q hq => (hown.lt q hq).1
      have hbR : Below (w1.heap.size + 1) wr w5 := Below.grown (Below.alloc (Below.alloc (hb3.mono hlt) (by omega) _) (by rw [size_alloc]; omega) _) hgrow (by rw [size_alloc, size_alloc]; omega) hrow
      have hfl : flat sv (j + 1) = flat sv j ++ [.int .i64 x0, .int .i64 x1, .int .u64 x2, .int .i64 x3, .int .i64 x4, .int .u64 x5, .int .u64 x6, .int .u64 x7] := by rw [flat, HXJ.out]
      have HALL : Hid (w5.ownsRow (w1.heap.size + 1) 48 8 v' (j + 1) (flat sv (j + 1)) ∧ w5.heap[w1.heap.size]? = some (.cells #[.int .i64 cc, .int .i64 o, .int .i64 h2, .int .i64 h3, .int .u64 (so : Int), .int .i64 (L : Int), .int .i64 (h6 : Int), .int .i64 h7] 42 (0, 0)) ∧ Below w.heap.size w w5 ∧ w1.heap.size + 1 ≤ w5.heap.size) := ⟨by rw [hfl]; exact hown', (hbR.block _ (by omega)).trans hR, hB.trans (hbR.mono (by omega)), by have := hbR.size; omega⟩
      clear hown' hgrow hbR hfl hrow hown hR hB hOW hb3
      clear hwm hwa hwn hwn2 hws hws2
      go_wp2
      go_roundw
      case rel => exact ⟨j + 1, hjn, by go_num, HALL.out⟩
      case measure => clear HALL HE HX HWM HW4 HXJ HEj; simp [intOf]; omega
    · obtain rfl : j = h6 := Nat.le_antisymm hj (Nat.not_lt.1 hjn)
      obtain ⟨hwn, hwn2, hws, hws2⟩ := HW4.out
      go_wp2
      go_ret2
      exact ⟨_, rfl, own_base hown (by omega), hB⟩
set_option maxHeartbeats 1000000 in
theorem rSecs_ok0 (b : ByteArray) (cc o h2 h3 h7 : Int) (so L n : Nat) (w : World) (sv : Nat → Array Value) (dq : Nat) (hdq : (b.size - so) / L = dq) (hm : b.size ≤ maxLen) (hb20 : b.size ≤ 1048576) (hso : so ≠ 0) (h60 : n ≠ 0) (y0 y1 y2 y3 y4 y5 y7 : Int) (hL : 0 < L ∧ L ≤ 64) (hin : so ≤ b.size ∧ n * L ≤ b.size - so)
    (hX : ∀ i, ∃ x0 x1 x2 x3 x4 x5 x6 x7 : Int, sv i = #[.int .i64 x0, .int .i64 x1, .int .u64 x2, .int .i64 x3, .int .i64 x4, .int .u64 x5, .int .u64 x6, .int .u64 x7])
    (hH : ∀ w : World, Calls Tryd.prog 14 #[.string b] w fun r w' => r = .returned (.tuple #[.agg #[.int .i64 cc, .int .i64 o, .int .i64 h2, .int .i64 h3, .int .u64 (so : Int), .int .i64 (L : Int), .int .i64 0, .int .i64 h7], .int .i64 0]) ∧ Below w.heap.size w w')
    (hP : ∀ w : World, Calls Tryd.prog 15 #[.int .i64 cc, .int .i64 40, .int .i64 64] w fun r w' => r = .returned (.int .i64 L) ∧ w' = w)
    (hE : ∀ (i : Nat) (w : World), i < n → Calls Tryd.prog 17 #[.string b, .int .i64 ((so : Int) + (i : Int) * (L : Int)), .agg #[.int .i64 cc, .int .i64 o, .int .i64 h2, .int .i64 h3, .int .u64 (so : Int), .int .i64 (L : Int), .int .i64 0, .int .i64 h7]] w fun r w' => r = .returned (.agg (sv i)) ∧ Below w.heap.size w w')
    (hWL : ∀ w : World, Calls Tryd.prog 16 #[.int .i64 b.size, .int .u64 so, .int .u64 (L : Int)] w fun r w' => r = .returned (.bool true) ∧ w' = w)
    (hF : ∀ w : World, Calls Tryd.prog 17 #[.string b, .int .i64 (so : Int), .agg #[.int .i64 cc, .int .i64 o, .int .i64 h2, .int .i64 h3, .int .u64 (so : Int), .int .i64 (L : Int), .int .i64 0, .int .i64 h7]] w fun r w' => r = .returned (.agg #[.int .i64 y0, .int .i64 y1, .int .u64 y2, .int .i64 y3, .int .i64 y4, .int .u64 y5, .int .u64 (n : Int), .int .u64 y7]) ∧ Below w.heap.size w w')
    (hW : ∀ w : World, Calls Tryd.prog 16 #[.int .i64 b.size, .int .u64 so, .int .u64 0] w fun r w' => r = .returned (.bool true) ∧ w' = w) :
    Calls Tryd.prog 5 #[.string b] w fun r w' => ∃ v, r = .returned (.tuple #[v, .int .i64 0]) ∧ w'.ownsRow w.heap.size 48 8 v n (flat sv n) ∧ Below w.heap.size w w' := by
  have HH := Hid.mk' hH
  have HP := Hid.mk' hP
  have HW := Hid.mk' hW
  have HE := Hid.mk' hE
  have HWL := Hid.mk' hWL
  have HF := Hid.mk' hF
  have HX := Hid.mk' hX
  obtain ⟨i0, hi, hz0, hz1, hz2⟩ := info_parts' infoSec
  have hs0 : ((so : Int) == 0) = false := beq_eq_false_iff_ne.2 (by omega)
  have hn0 : ((n : Int) == 0) = false := beq_eq_false_iff_ne.2 (by omega)
  have hLL : ((L : Int) != (L : Int)) = false := bne_self_eq_false _
  have hLne : ¬ (L : Int) = 0 := by omega
  have hm2 : (b.size : Int) ≤ 9223372036854775807 := by unfold maxLen at hm; omega
  have hq : IntKind.u64.wrap ((b.size : Int) - (so : Int)) = (((b.size - so : Nat)) : Int) := by rw [IntKind.wrap_u64]; omega
  have hd : n ≤ dq := by rw [← hdq]; exact (Nat.le_div_iff_mul_le hL.1).2 hin.2
  have hdl : dq ≤ b.size := by rw [← hdq]; exact Nat.le_trans (Nat.div_le_self _ _) (Nat.sub_le _ _)
  have hq2 : IntKind.u64.wrap ((((b.size - so : Nat)) : Int) / (L : Int)) = (dq : Int) := by
    rw [← Int.natCast_ediv, hdq, IntKind.wrap_u64]
    clear hq hin
    omega
  have hnlt : ¬ (dq : Int) < (n : Int) := Int.not_lt.2 (Int.ofNat_le.2 hd)
  have hnlt2 : ¬ dq < n := Nat.not_lt.2 hd
  clear hdq
  have hwn : IntKind.i64.wrap (n : Int) = (n : Int) := by have := hdl; have := hd; clear hin hq hq2; rw [IntKind.wrap_i64]; omega
  have hwn2 : wrap64 (n : Int) = (n : Int) := by have h := hwn; rw [IntKind.wrap_i64] at h; unfold wrap64; exact h
  have hws : IntKind.i64.wrap (so : Int) = (so : Int) := by rw [IntKind.wrap_i64]; omega
  have hws2 : wrap64 (so : Int) = (so : Int) := by have h := hws; rw [IntKind.wrap_i64] at h; unfold wrap64; exact h
  clear hH hP hW hE hX hWL hF
  have HW4 : Hid (IntKind.i64.wrap (n : Int) = (n : Int) ∧ wrap64 (n : Int) = (n : Int) ∧ IntKind.i64.wrap (so : Int) = (so : Int) ∧ wrap64 (so : Int) = (so : Int)) := ⟨hwn, hwn2, hws, hws2⟩
  have HWM : Hid (∀ j : Nat, j < n → IntKind.i64.wrap ((j : Int) * (L : Int)) = (j : Int) * (L : Int) ∧ IntKind.i64.wrap ((so : Int) + (j : Int) * (L : Int)) = (so : Int) + (j : Int) * (L : Int)) := by
    intro j hj
    have hjl : ((j * L : Nat) : Int) = (j : Int) * (L : Int) := Int.natCast_mul j L
    have hle : j * L ≤ n * L := Nat.mul_le_mul_right _ (Nat.le_of_lt hj)
    have h1 : j * L ≤ 1048576 := Nat.le_trans hle (Nat.le_trans hin.2 (Nat.le_trans (Nat.sub_le _ _) hb20))
    have h2 : so ≤ 1048576 := Nat.le_trans hin.1 hb20
    rw [← hjl]
    generalize j * L = q at h1
    clear hle hjl hin hq hq2 hm2 hws hwn hws2 hwn2
    constructor
    · rw [IntKind.wrap_i64]; omega
    · rw [IntKind.wrap_i64]; omega
  have hwL : IntKind.u64.wrap (L : Int) = (L : Int) := by rw [IntKind.wrap_u64]; omega
  have hnb : n ≤ 1048576 := Nat.le_trans hd (Nat.le_trans hdl hb20)
  have hm20 : b.size ≤ 1048576 := hb20
  clear hwn hwn2 hd hdl hb20 hm hin hL hso h60
  go_enter Tryd.func5, Tryd.ntmps5
  go_wp2_with (first
    | (go_at_call 14; refine (HH.out _).mono ?_; rintro r w1 ⟨rfl, hb1⟩)
    | (go_at_call 15; refine (HP.out _).mono ?_; rintro r w2 ⟨rfl, hw2⟩; subst w2)
    | (go_at_call 16; refine (HWL.out _).mono ?_; rintro r w2 ⟨rfl, hw2⟩; subst w2)
    | (refine wpList_load_row rfl _ _ rfl w1.heap.size rfl _ _ _ _ (heap_alloc_new w1 _) Tryd.underlying42 rfl (by kernel_rfl) ?_))
  go_at_call 17
  refine (HF.out _).mono ?_
  rintro r w3 ⟨rfl, hb3⟩
  have hlt3 : w1.heap.size < w3.heap.size := Nat.lt_of_lt_of_le (by rw [size_alloc]; exact Nat.lt_succ_self _) hb3.size
  have hq4 : w3.heap[w1.heap.size]? = some (.cells #[.int .i64 cc, .int .i64 o, .int .i64 h2, .int .i64 h3, .int .u64 (so : Int), .int .i64 (L : Int), .int .i64 0, .int .i64 h7] 42 (0, 0)) := (hb3.block _ (by rw [size_alloc]; exact Nat.lt_succ_self _)).trans (heap_alloc_new w1 _)
  have hR1 : (w3.alloc (.cells #[.int .i64 y0, .int .i64 y1, .int .u64 y2, .int .i64 y3, .int .i64 y4, .int .u64 y5, .int .u64 (n : Int), .int .u64 y7] 48)).heap[w1.heap.size]? = some (.cells #[.int .i64 cc, .int .i64 o, .int .i64 h2, .int .i64 h3, .int .u64 (so : Int), .int .i64 (L : Int), .int .i64 0, .int .i64 h7] 42 (0, 0)) := (Below.heap_alloc w3 _ _ hlt3).trans hq4
  have hq5 : (w3.alloc (.cells #[.int .i64 y0, .int .i64 y1, .int .u64 y2, .int .i64 y3, .int .i64 y4, .int .u64 y5, .int .u64 (n : Int), .int .u64 y7] 48)).cell? ⟨w1.heap.size, 4, none⟩ = some (.int .u64 (so : Int)) := cell_of_row _ _ 4 _ _ _ hR1
  have hs1 := hb1.size
  have hB1 : Below w.heap.size w (w3.alloc (.cells #[.int .i64 y0, .int .i64 y1, .int .u64 y2, .int .i64 y3, .int .i64 y4, .int .u64 y5, .int .u64 (n : Int), .int .u64 y7] 48)) := (Below.alloc hb1 hb1.size _).trans ((Below.alloc hb3 hb3.size _).mono (by rw [size_alloc]; exact Nat.le_succ_of_le hs1))
  have hZ1 : (w3.alloc (.cells #[.int .i64 y0, .int .i64 y1, .int .u64 y2, .int .i64 y3, .int .i64 y4, .int .u64 y5, .int .u64 (n : Int), .int .u64 y7] 48)).heap.size = w3.heap.size + 1 := size_alloc _ _
  clear hq4 HWL HF HH HP hb1 hb3
  have HK := Hid.mk' (And.intro hR1 (And.intro hB1 hZ1))
  clear hR1 hB1 hZ1
  go_wp2_with (first | (go_at_call 16; refine (HW.out _).mono ?_; rintro r w2 ⟨rfl, hw2⟩; subst w2))
  obtain ⟨hR1, hB1, hZ1⟩ := HK.out
  clear HK
  generalize (w3.alloc (.cells #[.int .i64 y0, .int .i64 y1, .int .u64 y2, .int .i64 y3, .int .i64 y4, .int .u64 y5, .int .u64 (n : Int), .int .u64 y7] 48)) = W at hB1 hR1 hZ1 ⊢
  clear HW hq5 hq hq2 hnlt hnlt2 hs0 hn0 hwL
  go_loopw [9, 10] (fun l i wx => ∃ j : Nat, j ≤ n ∧ i = .int .i64 j ∧ wx.ownsRow (w1.heap.size + 1) 48 8 l j (flat sv j) ∧ wx.heap[w1.heap.size]? = some (.cells #[.int .i64 cc, .int .i64 o, .int .i64 h2, .int .i64 h3, .int .u64 (so : Int), .int .i64 (L : Int), .int .i64 0, .int .i64 h7] 42 (0, 0)) ∧ Below w.heap.size w wx ∧ w1.heap.size + 1 ≤ wx.heap.size) (fun _ i _ => n - (intOf i).toNat)
  case atStart => exact ⟨0, Nat.zero_le _, rfl, World.ownsRow_nil _ _ _ _, hR1, hB1, by omega⟩
  case round =>
    obtain ⟨j, hj, rfl, hown, hR, hB, hlt⟩ := hrel
    by_cases hjn : j < n
    · have hc3 : j + 1 ≤ maxLen := by clear hR hown hB; unfold maxLen; omega
      have hc4 : (j + 1) * 64 ≤ 140737488355328 := by clear hR hown hB; omega
      obtain ⟨hwn, hwn2, hws, hws2⟩ := HW4.out
      obtain ⟨hwm, hwa⟩ := HWM.out j hjn
      have hjI : (j : Int) < (n : Int) := Int.ofNat_lt.2 hjn
      have hj0 : (0 : Int) ≤ (j : Int) := Int.natCast_nonneg _
      have c4 : wr.cell? ⟨w1.heap.size, 4, none⟩ = some (.int .u64 (so : Int)) := cell_of_row _ _ 4 _ _ _ hR
      obtain ⟨x0, x1, x2, x3, x4, x5, x6, x7, hx⟩ := HX.out j
      have HEj : Hid (∀ w : World, Calls Tryd.prog 17 #[.string b, .int .i64 ((so : Int) + (j : Int) * (L : Int)), .agg #[.int .i64 cc, .int .i64 o, .int .i64 h2, .int .i64 h3, .int .u64 (so : Int), .int .i64 (L : Int), .int .i64 0, .int .i64 h7]] w fun r w' => r = .returned (.agg #[.int .i64 x0, .int .i64 x1, .int .u64 x2, .int .i64 x3, .int .i64 x4, .int .u64 x5, .int .u64 x6, .int .u64 x7]) ∧ Below w.heap.size w w') := fun w => by have h := HE.out j w hjn; rw [hx] at h; exact h
      have HXJ := Hid.mk' hx
      clear hx
      go_wp2_with (first
        | (refine wpList_load_row rfl _ _ rfl w1.heap.size rfl _ _ _ _ hR Tryd.underlying42 rfl (by kernel_rfl) ?_)
        | (go_at_call 17; refine (HEj.out _).mono ?_; rintro r w3 ⟨rfl, hb3⟩; have hOW := ((own_below hown hb3).alloc (.cells #[.int .i64 x0, .int .i64 x1, .int .u64 x2, .int .i64 x3, .int .i64 x4, .int .u64 x5, .int .u64 x6, .int .u64 x7] 48)).alloc (.cells #[.int .i64 x0, .int .i64 x1, .int .u64 x2, .int .i64 x3, .int .i64 x4, .int .u64 x5, .int .u64 x6, .int .u64 x7] 48))
        | (at_builtin; refine wpList_append_own _ rfl _ _ 22 rfl (w1.heap.size + 1) 48 i0 (.agg #[.int .i64 0, .int .i64 0, .int .u64 0, .int .i64 0, .int .i64 0, .int .u64 0, .int .u64 0, .int .u64 0]) 8 64 Tryd.underlying22 hi hz0 hz1 hz2 rfl (by decide) _ _ _ rfl hOW ⟨w3.heap.size + 1, 0, none⟩ 1 1 [.int .i64 x0, .int .i64 x1, .int .u64 x2, .int .i64 x3, .int .i64 x4, .int .u64 x5, .int .u64 x6, .int .u64 x7] rfl rfl ?c1 (by intro u hu; simp at hu; rcases hu with rfl | rfl | rfl | rfl | rfl | rfl | rfl | rfl <;> rfl) ?c3 ?c4 ?c5 ?_))
      case c1 =>
        intro m u hu
        rw [Addr.add_mid, Nat.zero_add, cell_of_row _ _ _ _ _ _ (heap_alloc2_new w3 _ _)]
        simpa using hu
      case c3 => exact hc3
      case c4 => exact hc4
      case c5 => rw [size_alloc, size_alloc]; have := hb3.size; omega
      intro v' w5 hown' hgrow _
      have hs3 := hb3.size
      have hrow : ∀ q, u9.ownBlock = some q → w1.heap.size + 1 ≤ q := fun q hq => (hown.lt q hq).1
      have hbR : Below (w1.heap.size + 1) wr w5 := Below.grown (Below.alloc (Below.alloc (hb3.mono hlt) (by omega) _) (by rw [size_alloc]; omega) _) hgrow (by rw [size_alloc, size_alloc]; omega) hrow
      have hfl : flat sv (j + 1) = flat sv j ++ [.int .i64 x0, .int .i64 x1, .int .u64 x2, .int .i64 x3, .int .i64 x4, .int .u64 x5, .int .u64 x6, .int .u64 x7] := by rw [flat, HXJ.out]
      have HALL : Hid (w5.ownsRow (w1.heap.size + 1) 48 8 v' (j + 1) (flat sv (j + 1)) ∧ w5.heap[w1.heap.size]? = some (.cells #[.int .i64 cc, .int .i64 o, .int .i64 h2, .int .i64 h3, .int .u64 (so : Int), .int .i64 (L : Int), .int .i64 0, .int .i64 h7] 42 (0, 0)) ∧ Below w.heap.size w w5 ∧ w1.heap.size + 1 ≤ w5.heap.size) := ⟨by rw [hfl]; exact hown', (hbR.block _ (by omega)).trans hR, hB.trans (hbR.mono (by omega)), by have := hbR.size; omega⟩
      clear hown' hgrow hbR hfl hrow hown hR hB hOW hb3
      clear hwm hwa hwn hwn2 hws hws2
      go_wp2
      go_roundw
      case rel => exact ⟨j + 1, hjn, by go_num, HALL.out⟩
      case measure => clear HALL HE HX HWM HW4 HXJ HEj; simp [intOf]; omega
    · obtain rfl : j = n := Nat.le_antisymm hj (Nat.not_lt.1 hjn)
      obtain ⟨hwn, hwn2, hws, hws2⟩ := HW4.out
      go_wp2
      go_ret2
      exact ⟨_, rfl, own_base hown (by omega), hB⟩
end Go.Proofs.YtoikagccopglkaaDoor
