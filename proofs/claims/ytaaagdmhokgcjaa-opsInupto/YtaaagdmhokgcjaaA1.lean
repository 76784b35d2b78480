
-- twin, same: members.
import Derived.Test.YtaaagdmhokgcjaaA0
namespace Go.Proofs.Ytaaagdmhokgcjaa
open Go.ChangeShapes Go.WideShapes Go.ChangeAt Go.RowKit
set_option linter.unusedVariables false
set_option maxRecDepth 100000
/-- one more behind a row -/
theorem own_push {B n : Nat} {w : World} {v : Value} {L : List Mx} {x : Mx} (hn : n = L.length) (h : w.ownsRow B 32 7 v (n + 1) (L.flatMap mxL ++ mxL x)) : OwnM B w v (L ++ [x]) := by
  unfold OwnM
  rw [List.length_append, List.flatMap_append, List.flatMap_cons, List.flatMap_nil, List.append_nil, ← hn]
  exact h
set_option maxHeartbeats 4000000 in
theorem twin_c (v : Value) (L : List Mx) (w : World) (h : RowM w v L) (hn : L.length ≤ 16777216) :
    Calls Try.prog 12 #[v] w fun e w' => ∃ u, e = .returned u ∧ OwnM w.heap.size w' u L ∧ Below w.heap.size w w' := by
  obtain ⟨a1, c1, q1, _, _⟩ := h.form
  obtain ⟨i0, hi, hz0, hz1, hz2⟩ := info_parts infoMx
  obtain ⟨n, hnn⟩ : ∃ n, n = L.length := ⟨_, rfl⟩
  have HN := hidK hnn
  have HV := hidK h
  subst q1
  rw [← hnn] at hn ⊢ HV
  clear h hnn
  go_enter Try.func12, Try.ntmps12
  go_wp2
  go_loopw [3, 4] (fun o i wx => ∃ k : Nat, i = .int .i64 k ∧ k ≤ n ∧ OwnM w.heap.size wx o (L.take k) ∧ Below w.heap.size w wx) (fun _ i _ => n - (intOf i).toNat)
  case atStart => exact ⟨0, rfl, Nat.zero_le _, ⟨rfl, .inl ⟨rfl, rfl⟩⟩, Below.refl _ _⟩
  case round =>
    obtain ⟨k, rfl, hkn, ho, hB⟩ := hrel
    have HO := hidK ho
    clear ho
    by_cases hk : k < n
    · have kI : (k : Int) < (n : Int) := by omega
      have k0 : (0 : Int) ≤ (k : Int) := by omega
      have hkl : k < L.length := by have := HN.out; omega
      obtain ⟨⟨dd, uu, gg, mm, nn, zz, dt⟩, hx⟩ : ∃ x, L[k]? = some x := ⟨_, List.getElem?_eq_getElem hkl⟩
      obtain ⟨b1, o1, p1, e1, d0, d1, d2, d3, d4, d5, d6⟩ := (HV.out.on hB).mx hx
      have HX := hidK hx
      injection e1 with e1 e1b e1c
      subst e1
      clear hx hkl e1b e1c HV
      have ho : wr.ownsRow w.heap.size 32 7 u3 k ((L.take k).flatMap mxL) := by have := HO.out; unfold OwnM at this; rw [lenTake (by have := HN.out; omega)] at this; exact this
      clear HO
      go_wp2_with (refine wpList_append_own _ rfl (.tmp 11) (.tmp 16) 22 rfl w.heap.size 32 i0 (.agg #[.int .i64 0, .int .i64 0, .int .i64 0, .int .i64 0, .string ⟨#[]⟩, .int .i64 0, .string ⟨#[]⟩]) 7 72 Try.underlying22 hi hz0 hz1 hz2 rfl (by decide) u3 k ((L.take k).flatMap mxL) rfl (own_upK ho _) ⟨wr.heap.size, 0, none⟩ 1 1 (mxL ⟨dd, uu, gg, mm, nn, zz, dt⟩) rfl rfl (new_rowK wr (mxL ⟨dd, uu, gg, mm, nn, zz, dt⟩).toArray 32 (mxL ⟨dd, uu, gg, mm, nn, zz, dt⟩) rfl) (mxL_one ⟨dd, uu, gg, mm, nn, zz, dt⟩) (by unfold maxLen; omega) (by omega) (by rw [World.size_alloc]; have := hB.size; omega) ?_; intro v2 w2 o2 g2 _; have HB2 := hidK (below_grow (bupK hB (.cells (mxL ⟨dd, uu, gg, mm, nn, zz, dt⟩).toArray 32)) g2 (own_upK ho _) (Nat.le_refl _)); have HO2 := hidK o2; clear o2 g2 ho)
      go_roundw
      case rel =>
        refine ⟨k + 1, by go_num, by omega, ?_, HB2.out⟩
        rw [takeSucc HX.out]
        exact own_push (lenTake (by have := HN.out; omega)).symm HO2.out
      case measure => simp [intOf]; omega
    · obtain rfl : k = n := by omega
      clear HV
      have HO2 := HO.out
      rw [List.take_of_length_le (by have := HN.out; omega)] at HO2
      have HO3 := hidK HO2
      clear HO HO2
      go_wp2
      go_ret
      exact ⟨_, rfl, HO3.out, hB⟩
end Go.Proofs.Ytaaagdmhokgcjaa
