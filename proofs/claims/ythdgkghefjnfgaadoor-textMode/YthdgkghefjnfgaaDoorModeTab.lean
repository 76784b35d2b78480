import Derived.Test.YthdgkghefjnfgaaDoorModeL
import Derived.OpenShut
import Derived.Lib.LaidTab
namespace Go.Proofs.YthdgkghefjnfgaaDoor
open Go.ChangeShapes Go.WideShapes Go.ChangeAt Go.RowKit
set_option linter.unusedVariables false
theorem c3m : Tryd.prog.cellsOf 3 = 1 := by kernel_rfl
theorem c5m : Tryd.prog.cellsOf 5 = 1 := by kernel_rfl
theorem c29m : Tryd.prog.cellsOf 29 = 5 := by kernel_rfl
theorem c30m : Tryd.prog.cellsOf 30 = 15 := by kernel_rfl
theorem one_of {cs : List Value} {i : Nat} {x : Value} (h : (cs.drop i).take 1 = [x]) : cs[i]? = some x := by
  have := congrArg (fun l : List Value => l[0]?) h
  simpa [List.getElem?_take, List.getElem?_drop] using this
theorem row_of {H : Type} {enc : TypeId × Value → H} {w : World} {base : Nat} {sp : Nat → Bool} {held : Bool} {fuel : Nat} {cs : List Value} {a b c d e : Int} {p : List MemPlace}
    (h : DataW.trod enc Tryd.prog w base sp held fuel 29 cs = some (.agg [.lit (.int .i64 a), .lit (.int .i64 b), .lit (.int .i64 c), .lit (.int .i64 d), .lit (.int .u8 e)], p)) :
    cs[0]? = some (.int .i64 a) ∧ cs[1]? = some (.int .i64 b) ∧ cs[2]? = some (.int .i64 c) ∧ cs[3]? = some (.int .i64 d) ∧ cs[4]? = some (.int .u8 e) := by
  obtain ⟨xs, n, _, hx, hl, hlen, hf⟩ := DataW.trod_struct Tryd.underlying29 h
  have hm := (congrArg Prod.fst hx).symm
  simp only [DataW.agg.injEq] at hm
  match xs, hlen, hm, hf with
  | [x0, x1, x2, x3, x4], _, hm, hf =>
    simp only [List.map_cons, List.map_nil, List.cons.injEq, and_true] at hm
    obtain ⟨m0, m1, m2, m3, m4⟩ := hm
    have g0 := hf 0 _ rfl
    have g1 := hf 1 _ rfl
    have g2 := hf 2 _ rfl
    have g3 := hf 3 _ rfl
    have g4 := hf 4 _ rfl
    simp only [List.getElem?_cons_zero, List.getElem?_cons_succ] at g0 g1 g2 g3 g4
    obtain ⟨z0, k0, rfl, _⟩ := DataW.trod_int Tryd.underlying3 g0
    obtain ⟨z1, k1, rfl, _⟩ := DataW.trod_int Tryd.underlying3 g1
    obtain ⟨z2, k2, rfl, _⟩ := DataW.trod_int Tryd.underlying3 g2
    obtain ⟨z3, k3, rfl, _⟩ := DataW.trod_int Tryd.underlying3 g3
    obtain ⟨z4, k4, rfl, _⟩ := DataW.trod_int Tryd.underlying5 g4
    simp only [DataW.lit.injEq, Lit.int.injEq, true_and] at m0 m1 m2 m3 m4
    subst m0 m1 m2 m3 m4
    exact ⟨one_of k0, one_of k1, one_of k2, one_of k3, one_of k4⟩
theorem gG : Tryd.prog.globalNamed "shelf/text.modeGroups" = some 0 := by kernel_rfl
theorem gGt : (Tryd.prog.globals[0]?).map (·.type) = some 30 := by kernel_rfl
theorem mode_of {W : World} (h : laidMetH Tryd.prog Rows.textModeRow.laid W) : ModeTab W := by
  obtain ⟨ps, ⟨g', t', cs, fuel, p, q, hg', ht', hvar, hd, _, _⟩, _⟩ := (h : laidMet Tryd.prog [("shelf/text.modeGroups", Rows.laid_shelf_text_modeGroups)] W)
  obtain rfl := Option.some.inj (gG.symm.trans hg')
  obtain rfl := Option.some.inj (gGt.symm.trans ht')
  obtain ⟨xs, m, _, hx, hl, hlen, hf⟩ := DataW.trod_array Tryd.underlying30 hd
  have hm := (congrArg Prod.fst hx).symm
  simp only [Rows.laid_shelf_text_modeGroups, DataW.agg.injEq] at hm
  match xs, hlen, hm, hf with
  | [x0, x1, x2], _, hm, hf =>
    simp only [List.map_cons, List.map_nil, List.cons.injEq, and_true] at hm
    obtain ⟨m0, m1, m2⟩ := hm
    have g0 := hf 0 (by decide)
    have g1 := hf 1 (by decide)
    have g2 := hf 2 (by decide)
    rw [c29m] at g0 g1 g2
    simp only [List.getElem?_cons_zero, List.getElem?_cons_succ] at g0 g1 g2
    obtain ⟨d0, p0⟩ := x0
    obtain ⟨d1, p1⟩ := x1
    obtain ⟨d2, p2⟩ := x2
    simp only [] at m0 m1 m2
    subst m0 m1 m2
    have r0 := row_of g0
    have r1 := row_of g1
    have r2 := row_of g2
    rw [c30m] at hl
    have hcs : cs = cellsM := by
      apply Array.ext'
      apply List.ext_getElem?
      intro i
      have e : ∀ j k, k < 5 → ((cs.toList.drop (j * 5)).take 5)[k]? = cs.toList[j * 5 + k]? := by
        intro j k hk
        simp [List.getElem?_drop, hk]
      simp only [e 0 _ (by decide : 0 < 5), e 0 _ (by decide : 1 < 5), e 0 _ (by decide : 2 < 5), e 0 _ (by decide : 3 < 5), e 0 _ (by decide : 4 < 5)] at r0
      simp only [e 1 _ (by decide : 0 < 5), e 1 _ (by decide : 1 < 5), e 1 _ (by decide : 2 < 5), e 1 _ (by decide : 3 < 5), e 1 _ (by decide : 4 < 5)] at r1
      simp only [e 2 _ (by decide : 0 < 5), e 2 _ (by decide : 1 < 5), e 2 _ (by decide : 2 < 5), e 2 _ (by decide : 3 < 5), e 2 _ (by decide : 4 < 5)] at r2
      obtain ⟨a0, a1, a2, a3, a4⟩ := r0
      obtain ⟨a5, a6, a7, a8, a9⟩ := r1
      obtain ⟨a10, a11, a12, a13, a14⟩ := r2
      by_cases hi : i < 15
      · match i, hi with
        | 0, _ => exact a0
        | 1, _ => exact a1
        | 2, _ => exact a2
        | 3, _ => exact a3
        | 4, _ => exact a4
        | 5, _ => exact a5
        | 6, _ => exact a6
        | 7, _ => exact a7
        | 8, _ => exact a8
        | 9, _ => exact a9
        | 10, _ => exact a10
        | 11, _ => exact a11
        | 12, _ => exact a12
        | 13, _ => exact a13
        | 14, _ => exact a14
        | n + 15, hn => omega
      · rw [List.getElem?_eq_none (by rw [hl]; omega), List.getElem?_eq_none (by show 15 ≤ i; omega)]
    subst hcs
    unfold World.var? at hvar
    rw [gG] at hvar
    simp only [Option.bind_some] at hvar
    split at hvar
    · rename_i cs' t fr hh
      cases hvar
      exact ⟨t, fr, hh⟩
    · cases hvar
end Go.Proofs.YthdgkghefjnfgaaDoor
