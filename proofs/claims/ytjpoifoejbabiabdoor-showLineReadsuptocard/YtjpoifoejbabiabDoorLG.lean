
-- longer, unchanged.
import Derived.Test.YtjpoifoejbabiabDoorPS
import Derived.Test.YtjpoifoejbabiabDoorQX
import Derived.Deep.Cut
import Derived.Laws.AppendOwnNone
namespace Go.Proofs.YtjpoifoejbabiabDoor
open Go.ChangeShapes Go.WideShapes Go.ChangeAt Go.RowKit
set_option linter.unusedVariables false
set_option maxRecDepth 100000
set_option linter.unusedSimpArgs false
def behM : Mx := ⟨0, 0, 0, 0, ⟨#[98, 101, 104, 105, 110, 100]⟩, 0, ⟨#[]⟩⟩
set_option maxHeartbeats 4000000 in
theorem longer_c (v : Value) (L : List Mx) (w : World) (h : RowM w v L) (hl : L.length ≤ 2097152) :
    Calls Tryd.prog 15 #[v] w fun e w' => ∃ u, e = .returned u ∧ OwnM w.heap.size w' u (L ++ [behM]) ∧ Below w.heap.size w w' := by
  obtain ⟨i0, hi, hz0, hz1, hz2⟩ := info_parts infoMx
  obtain ⟨ao, cap, e, h1, h2, h3, h4⟩ := h
  obtain ⟨n, hnn⟩ : ∃ n, n = L.length := ⟨_, rfl⟩
  have HN := hidK hnn
  subst e
  rw [← hnn] at hl h1 h4 ⊢
  have hle : (L.flatMap mxL).length = n * 7 := by rw [flatG_len mxL 7 mxL_len, hnn]
  have hB := Below.refl w.heap.size w
  cases ao with
  | none =>
    have hc := h3 rfl
    subst hc
    have hn0 : n = 0 := by omega
    have hL : L = [] := List.eq_nil_of_length_eq_zero (by omega)
    have ho : w.ownsRow w.heap.size 25 7 (.slice none 0 0) n (L.flatMap mxL) := by rw [hn0, hL]; exact ⟨rfl, .inl ⟨rfl, rfl⟩⟩
    subst hn0
    clear h1 h2 h3 h4 hnn hle hL
    go_enter Tryd.func15, Tryd.ntmps15
    go_upto_region 1 with fail
    go_upto_region 2 with (refine wpList_append_own_none rfl (.const (.slice none 0 0)) (.tmp 4) 33 rfl w.heap.size 25 i0 7 Tryd.underlying33 hi _ _ _ rfl ho rfl ?_)
    go_wp2_with (refine wpList_append_own _ rfl (.tmp 6) (.tmp 8) 33 rfl w.heap.size 25 i0 (.agg #[.int .i64 0, .int .i64 0, .int .i64 0, .int .i64 0, .string ⟨#[]⟩, .int .i64 0, .string ⟨#[]⟩]) 7 72 Tryd.underlying33 hi hz0 hz1 hz2 rfl (by decide) _ 0 (L.flatMap mxL) rfl (own_upK ho _) ⟨w.heap.size, 0, none⟩ 1 1 (mxL behM) rfl rfl (new_rowK w (mxL behM).toArray 25 (mxL behM) rfl) (mxL_one behM) (by unfold maxLen; omega) (by omega) (by rw [World.size_alloc]; have := (hB).size; omega) ?_; intro v2 w2 o2 g2 _; have HB2 := hidK (below_grow (bupK hB (.cells (mxL behM).toArray 25)) g2 (own_upK ho _) (Nat.le_refl _)); have HO2 := hidK o2; clear o2 g2)
    go_ret
    exact ⟨_, rfl, own_push HN.out HO2.out, HB2.out⟩
  | some ad =>
    have hcl : ∀ j u, (L.flatMap mxL)[j]? = some u → w.cell? (ad.add j) = some u := by
      intro j u hu
      have hj : j < (L.flatMap mxL).length := (List.getElem?_eq_some_iff.1 hu).1
      obtain ⟨b, off, e, hc⟩ := h4 (by omega)
      injection e with e
      subst e
      rw [Addr.add_mid]
      exact hc j u hu
    clear h1 h2 h3 h4 hnn
    go_enter Tryd.func15, Tryd.ntmps15
    go_upto_region 1 with fail
    go_upto_region 2 with (refine wpList_append_own _ rfl (.const (.slice none 0 0)) (.tmp 4) 33 rfl w.heap.size 25 i0 (.agg #[.int .i64 0, .int .i64 0, .int .i64 0, .int .i64 0, .string ⟨#[]⟩, .int .i64 0, .string ⟨#[]⟩]) 7 72 Tryd.underlying33 hi hz0 hz1 hz2 rfl (by decide) (.slice none 0 0) 0 [] rfl ⟨rfl, .inl ⟨rfl, rfl⟩⟩ ad n cap (L.flatMap mxL) rfl hle hcl (flatG_one mxL_one L) (by unfold maxLen; omega) (by omega) (Nat.le_refl _) ?_; intro v1 w1 o1 g1 _; have hB1 := below_grow hB g1 (e := 25) (size := 7) (k := 0) (xs := []) ⟨rfl, .inl ⟨rfl, rfl⟩⟩ (Nat.le_refl _); rw [Nat.zero_add, List.nil_append] at o1; clear g1)
    go_wp2_with (refine wpList_append_own _ rfl (.tmp 6) (.tmp 8) 33 rfl w.heap.size 25 i0 (.agg #[.int .i64 0, .int .i64 0, .int .i64 0, .int .i64 0, .string ⟨#[]⟩, .int .i64 0, .string ⟨#[]⟩]) 7 72 Tryd.underlying33 hi hz0 hz1 hz2 rfl (by decide) _ n (L.flatMap mxL) rfl (own_upK o1 _) ⟨w1.heap.size, 0, none⟩ 1 1 (mxL behM) rfl rfl (new_rowK w1 (mxL behM).toArray 25 (mxL behM) rfl) (mxL_one behM) (by unfold maxLen; omega) (by omega) (by rw [World.size_alloc]; have := (hB1).size; omega) ?_; intro v2 w2 o2 g2 _; have HB2 := hidK (below_grow (bupK hB1 (.cells (mxL behM).toArray 25)) g2 (own_upK o1 _) (Nat.le_refl _)); have HO2 := hidK o2; clear o2 g2)
    go_ret
    exact ⟨_, rfl, own_push HN.out HO2.out, HB2.out⟩
set_option maxHeartbeats 4000000 in
theorem unchanged_c (va vb : Value) (L : List Mx) (w : World) (ha : RowM w va (L ++ [behM])) (hb : RowM w vb L) (hl : L.length ≤ 2097152) :
    Calls Tryd.prog 17 #[va, vb] w fun e w' => e = .returned (.bool true) ∧ Below w.heap.size w w' := by
  obtain ⟨a2, c2, q2, _, _⟩ := hb.form
  obtain ⟨n, hnn⟩ : ∃ n, n = L.length := ⟨_, rfl⟩
  have HN := hidK hnn
  have hA := ha.mx (k := n) (x := behM) (by rw [hnn, List.getElem?_append_right (Nat.le_refl _), Nat.sub_self]; rfl)
  obtain ⟨b1, o1, c1, e1, x0, x1, x2, x3, x4, x5, x6⟩ := hA
  rw [List.length_append, List.length_singleton] at e1
  have HA := hidK ha
  have HB := hidK hb
  subst q2
  subst e1
  rw [← hnn] at hl HA HB ⊢
  simp only [behM] at x4
  have nw : IntKind.i64.wrap ((n : Int) + 1) = (n : Int) + 1 := by rw [IntKind.wrap_i64]; omega
  clear ha hb hnn x0 x1 x2 x3 x5 x6
  go_enter Tryd.func17, Tryd.ntmps17
  go_wp2
  go_loopw [5] (fun i wx => ∃ k : Nat, i = .int .i64 k ∧ k ≤ n ∧ Below w.heap.size w wx) (fun i _ => n - (intOf i).toNat)
  case atStart => exact ⟨0, rfl, Nat.zero_le _, Below.refl _ _⟩
  case round =>
    obtain ⟨k, rfl, hkn, hB⟩ := hrel
    clear x4
    by_cases hk : k < n
    · have kI : (k : Int) < (n : Int) := by omega
      have kI2 : (k : Int) < (n : Int) + 1 := by omega
      have k0 : (0 : Int) ≤ (k : Int) := by omega
      have hkl : k < L.length := by have := HN.out; omega
      obtain ⟨⟨dd, uu, gg, mm, nn, zz, dt⟩, hx⟩ : ∃ x, L[k]? = some x := ⟨_, List.getElem?_eq_getElem hkl⟩
      obtain ⟨b3, o3, p3, e3, d0, d1, d2, d3, d4, d5, d6⟩ := (HB.out.on hB).mx hx
      obtain ⟨b4, o4, p4, e4, f0, f1, f2, f3, f4, f5, f6⟩ := (HA.out.on hB).mx (k := k) (x := ⟨dd, uu, gg, mm, nn, zz, dt⟩) (by rw [List.getElem?_append_left hkl]; exact hx)
      simp only [] at d0 d1 d2 d3 d4 d5 d6 f0 f1 f2 f3 f4 f5 f6
      injection e3 with e3 e3b e3c
      subst e3
      injection e4 with e4 e4b e4c
      injection e4 with e4
      injection e4 with e4 e4d
      subst e4 e4d
      have hEq := eqMx dd uu gg mm nn zz dt
      clear hx hkl e3b e3c e4b e4c
      go_wp2
      go_quiet (fail)
      have hB9 := belDrewN hB nq
      go_wp2
      go_roundw
      case rel => exact ⟨k + 1, by go_num, by omega, hB9⟩
      case measure => simp [intOf]; omega
    · obtain rfl : k = n := by omega
      go_wp2
      go_ret
      exact ⟨rfl, hB⟩
end Go.Proofs.YtjpoifoejbabiabDoor
