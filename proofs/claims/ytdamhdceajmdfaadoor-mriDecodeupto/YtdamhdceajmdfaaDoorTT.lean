
-- What the tables hold, out of what is laid.
import Derived.Test.YtdamhdceajmdfaaDoorTV
import Derived.Test.YtdamhdceajmdfaaDoorRows
import Derived.OpenShut
import Derived.Lib.LaidTab
import Derived.Stop.LaidErr
namespace Go.Proofs.YtdamhdceajmdfaaDoor
open Go.ChangeShapes Go.WideShapes Go.ChangeAt Go.RowKit
set_option linter.unusedVariables false
set_option maxRecDepth 100000
set_option linter.unusedSimpArgs false
theorem tc9 : Tryd.prog.cellsOf 9 = 1 := by kernel_rfl
theorem tc3 : Tryd.prog.cellsOf 3 = 1 := by kernel_rfl
theorem tc4 : Tryd.prog.cellsOf 4 = 1 := by kernel_rfl
theorem tcV : Tryd.prog.cellsOf 70 = 3 := by kernel_rfl
theorem tcA : Tryd.prog.cellsOf 71 = 42 := by kernel_rfl
theorem oneT {cs : List Value} {i : Nat} {x : Value} (h : (cs.drop i).take 1 = [x]) : cs[i]? = some x := by
  have := congrArg (fun l : List Value => l[0]?) h
  simpa [List.getElem?_take, List.getElem?_drop] using this
theorem gW : Tryd.prog.globalNamed "shelf/shelfref19.words" = some 0 := by kernel_rfl
theorem gWt : (Tryd.prog.globals[0]?).map (·.type) = some 53 := by kernel_rfl
theorem laid_w {H : Type} : (Rows.laid_shelf_shelfref19_words : DataW H) = .agg (wordL.map fun l => .lit (.string l)) := rfl
theorem strTab {W : World} {name : String} {g : Nat} {rest : List (String × DataW Unit)} {d : DataW Unit} {nl : List (List UInt8)} (hg : Tryd.prog.globalNamed name = some g) (hgt : (Tryd.prog.globals[g]?).map (·.type) = some 53) (hd : d = .agg (nl.map fun l => .lit (.string l)))
    (h : laidMet Tryd.prog ((name, d) :: rest) W) : ∀ i : Nat, i < 14 → W.cell? ⟨g, i, none⟩ = some (.string (byB (nl.getD i []))) := by
  intro i hi
  obtain ⟨ps, ⟨g', t', cs, fuel, p, q, hg', ht', hvar, hdd, _, _⟩, _⟩ := h
  obtain rfl := Option.some.inj (hg.symm.trans hg')
  obtain rfl := Option.some.inj (hgt.symm.trans ht')
  rw [hd] at hdd
  obtain ⟨xs, m, _, hx, hl, hlen, hf⟩ := DataW.trod_array Tryd.underlying53 hdd
  have hm := (congrArg Prod.fst hx).symm
  simp only [DataW.agg.injEq] at hm
  have hfi := hf i hi
  rw [tc9] at hfi
  have hxi : xs[i]? = some (xs[i]'(by omega)) := List.getElem?_eq_getElem (by omega)
  rw [hxi] at hfi
  obtain ⟨s, hs, hxe, _⟩ := DataW.trod_string Tryd.underlying9 hfi
  have h1 : cs.toList[i]? = some (.string s) := by
    have := congrArg (fun l : List Value => l[0]?) hs
    simpa [List.getElem?_take, List.getElem?_drop] using this
  have h2 : (xs.map (·.1))[i]? = some (DataW.lit (.string s.data.toList)) := by
    rw [List.getElem?_map, hxi, hxe]; rfl
  rw [hm] at h2
  have h3 : nl[i]? = some s.data.toList := by
    rw [List.getElem?_map] at h2
    rcases e : nl[i]? with _ | l
    · rw [e] at h2; simp at h2
    · rw [e] at h2
      simp only [Option.map_some, Option.some.injEq, DataW.lit.injEq, Lit.string.injEq] at h2
      rw [h2]
  have h4 : byB (nl.getD i []) = s := by
    simp only [List.getD, h3, Option.getD_some]
    exact byB_byL s
  rw [h4]
  have := World.var?_cell hg hvar i
  rw [this]
  simpa using h1
theorem wt_of {W : World} {rest : List (String × DataW Unit)} (h : laidMet Tryd.prog (("shelf/shelfref19.words", Rows.laid_shelf_shelfref19_words) :: rest) W) : WT W := by
  have hc := strTab gW gWt laid_w h
  exact ⟨World.block_lt_of_cell? W _ (hc 0 (by decide)), hc⟩
theorem gV : Tryd.prog.globalNamed "shelf/mri.verbs" = some 2 := by kernel_rfl
theorem gVt : (Tryd.prog.globals[2]?).map (·.type) = some 71 := by kernel_rfl
theorem rowV {H : Type} {enc : TypeId × Value → H} {w : World} {base : Nat} {sp : Nat → Bool} {held : Bool} {fuel : Nat} {cs : List Value} {s : List UInt8} {b : Bool} {k : Int} {p : List MemPlace}
    (h : DataW.trod enc Tryd.prog w base sp held fuel 70 cs = some (.agg [.lit (.string s), .lit (.bool b), .lit (.int .i64 k)], p)) :
    cs[0]? = some (.string (byB s)) ∧ cs[1]? = some (.bool b) ∧ cs[2]? = some (.int .i64 k) := by
  obtain ⟨xs, n, _, hx, hl, hlen, hf⟩ := DataW.trod_struct Tryd.underlying70 h
  have hm := (congrArg Prod.fst hx).symm
  simp only [DataW.agg.injEq] at hm
  match xs, hlen, hm, hf with
  | [x0, x1, x2], _, hm, hf =>
    simp only [List.map_cons, List.map_nil, List.cons.injEq, and_true] at hm
    obtain ⟨m0, m1, m2⟩ := hm
    have g0 := hf 0 _ rfl
    have g1 := hf 1 _ rfl
    have g2 := hf 2 _ rfl
    simp only [List.getElem?_cons_zero, List.getElem?_cons_succ] at g0 g1 g2
    obtain ⟨z0, k0, rfl, _⟩ := DataW.trod_string Tryd.underlying9 g0
    obtain ⟨z1, k1, rfl, _⟩ := DataW.trod_bool Tryd.underlying4 g1
    obtain ⟨z2, k2, rfl, _⟩ := DataW.trod_int Tryd.underlying3 g2
    simp only [DataW.lit.injEq, Lit.int.injEq, Lit.string.injEq, Lit.bool.injEq, true_and] at m0 m1 m2
    subst m0 m1 m2
    exact ⟨by rw [show byB z0.data.toList = z0 from byB_byL z0]; exact oneT k0, oneT k1, oneT k2⟩
theorem vt_of {W : World} {rest : List (String × DataW Unit)} (h : laidMet Tryd.prog (("shelf/mri.verbs", Rows.laid_shelf_mri_verbs) :: rest) W) : VT W := by
  obtain ⟨ps, ⟨g', t', cs, fuel, p, q, hg', ht', hvar, hd, _, _⟩, _⟩ := h
  obtain rfl := Option.some.inj (gV.symm.trans hg')
  obtain rfl := Option.some.inj (gVt.symm.trans ht')
  obtain ⟨xs, m, _, hx, hl, hlen, hf⟩ := DataW.trod_array Tryd.underlying71 hd
  have hm := (congrArg Prod.fst hx).symm
  simp only [Rows.laid_shelf_mri_verbs, DataW.agg.injEq] at hm
  rw [tcA] at hl
  have hrow : ∀ i, i < 14 → ∃ s b k, (cs.toList)[i * 3]? = some (.string (byB s)) ∧ (cs.toList)[i * 3 + 1]? = some (.bool b) ∧ (cs.toList)[i * 3 + 2]? = some (.int .i64 k) ∧ cellsV[i * 3]? = some (.string (byB s)) ∧ cellsV[i * 3 + 1]? = some (.bool b) ∧ cellsV[i * 3 + 2]? = some (.int .i64 k) := by
    intro i hi
    have hfi := hf i hi
    rw [tcV] at hfi
    have hxi : xs[i]? = some (xs[i]'(by omega)) := List.getElem?_eq_getElem (by omega)
    rw [hxi] at hfi
    have hmi : (xs.map (·.1))[i]? = some (xs[i]'(by omega)).1 := by rw [List.getElem?_map, hxi]; rfl
    rw [hm] at hmi
    generalize xs[i]'(by omega) = x at hfi hmi
    obtain ⟨d, pl⟩ := x
    simp only [] at hmi
    have e : ∀ k, k < 3 → ((cs.toList.drop (i * 3)).take 3)[k]? = cs.toList[i * 3 + k]? := by
      intro k hk
      simp [List.getElem?_drop, hk]
    match i, hi, hmi, hfi, e with
    | 0, _, hmi, hfi, e =>
      simp only [List.getElem?_cons_zero, List.getElem?_cons_succ, Option.some.injEq] at hmi
      subst hmi
      obtain ⟨r0, r1, r2⟩ := rowV hfi
      rw [e 0 (by decide)] at r0
      rw [e 1 (by decide)] at r1
      rw [e 2 (by decide)] at r2
      exact ⟨_, _, _, r0, r1, r2, rfl, rfl, rfl⟩
    | 1, _, hmi, hfi, e =>
      simp only [List.getElem?_cons_zero, List.getElem?_cons_succ, Option.some.injEq] at hmi
      subst hmi
      obtain ⟨r0, r1, r2⟩ := rowV hfi
      rw [e 0 (by decide)] at r0
      rw [e 1 (by decide)] at r1
      rw [e 2 (by decide)] at r2
      exact ⟨_, _, _, r0, r1, r2, rfl, rfl, rfl⟩
    | 2, _, hmi, hfi, e =>
      simp only [List.getElem?_cons_zero, List.getElem?_cons_succ, Option.some.injEq] at hmi
      subst hmi
      obtain ⟨r0, r1, r2⟩ := rowV hfi
      rw [e 0 (by decide)] at r0
      rw [e 1 (by decide)] at r1
      rw [e 2 (by decide)] at r2
      exact ⟨_, _, _, r0, r1, r2, rfl, rfl, rfl⟩
    | 3, _, hmi, hfi, e =>
      simp only [List.getElem?_cons_zero, List.getElem?_cons_succ, Option.some.injEq] at hmi
      subst hmi
      obtain ⟨r0, r1, r2⟩ := rowV hfi
      rw [e 0 (by decide)] at r0
      rw [e 1 (by decide)] at r1
      rw [e 2 (by decide)] at r2
      exact ⟨_, _, _, r0, r1, r2, rfl, rfl, rfl⟩
    | 4, _, hmi, hfi, e =>
      simp only [List.getElem?_cons_zero, List.getElem?_cons_succ, Option.some.injEq] at hmi
      subst hmi
      obtain ⟨r0, r1, r2⟩ := rowV hfi
      rw [e 0 (by decide)] at r0
      rw [e 1 (by decide)] at r1
      rw [e 2 (by decide)] at r2
      exact ⟨_, _, _, r0, r1, r2, rfl, rfl, rfl⟩
    | 5, _, hmi, hfi, e =>
      simp only [List.getElem?_cons_zero, List.getElem?_cons_succ, Option.some.injEq] at hmi
      subst hmi
      obtain ⟨r0, r1, r2⟩ := rowV hfi
      rw [e 0 (by decide)] at r0
      rw [e 1 (by decide)] at r1
      rw [e 2 (by decide)] at r2
      exact ⟨_, _, _, r0, r1, r2, rfl, rfl, rfl⟩
    | 6, _, hmi, hfi, e =>
      simp only [List.getElem?_cons_zero, List.getElem?_cons_succ, Option.some.injEq] at hmi
      subst hmi
      obtain ⟨r0, r1, r2⟩ := rowV hfi
      rw [e 0 (by decide)] at r0
      rw [e 1 (by decide)] at r1
      rw [e 2 (by decide)] at r2
      exact ⟨_, _, _, r0, r1, r2, rfl, rfl, rfl⟩
    | 7, _, hmi, hfi, e =>
      simp only [List.getElem?_cons_zero, List.getElem?_cons_succ, Option.some.injEq] at hmi
      subst hmi
      obtain ⟨r0, r1, r2⟩ := rowV hfi
      rw [e 0 (by decide)] at r0
      rw [e 1 (by decide)] at r1
      rw [e 2 (by decide)] at r2
      exact ⟨_, _, _, r0, r1, r2, rfl, rfl, rfl⟩
    | 8, _, hmi, hfi, e =>
      simp only [List.getElem?_cons_zero, List.getElem?_cons_succ, Option.some.injEq] at hmi
      subst hmi
      obtain ⟨r0, r1, r2⟩ := rowV hfi
      rw [e 0 (by decide)] at r0
      rw [e 1 (by decide)] at r1
      rw [e 2 (by decide)] at r2
      exact ⟨_, _, _, r0, r1, r2, rfl, rfl, rfl⟩
    | 9, _, hmi, hfi, e =>
      simp only [List.getElem?_cons_zero, List.getElem?_cons_succ, Option.some.injEq] at hmi
      subst hmi
      obtain ⟨r0, r1, r2⟩ := rowV hfi
      rw [e 0 (by decide)] at r0
      rw [e 1 (by decide)] at r1
      rw [e 2 (by decide)] at r2
      exact ⟨_, _, _, r0, r1, r2, rfl, rfl, rfl⟩
    | 10, _, hmi, hfi, e =>
      simp only [List.getElem?_cons_zero, List.getElem?_cons_succ, Option.some.injEq] at hmi
      subst hmi
      obtain ⟨r0, r1, r2⟩ := rowV hfi
      rw [e 0 (by decide)] at r0
      rw [e 1 (by decide)] at r1
      rw [e 2 (by decide)] at r2
      exact ⟨_, _, _, r0, r1, r2, rfl, rfl, rfl⟩
    | 11, _, hmi, hfi, e =>
      simp only [List.getElem?_cons_zero, List.getElem?_cons_succ, Option.some.injEq] at hmi
      subst hmi
      obtain ⟨r0, r1, r2⟩ := rowV hfi
      rw [e 0 (by decide)] at r0
      rw [e 1 (by decide)] at r1
      rw [e 2 (by decide)] at r2
      exact ⟨_, _, _, r0, r1, r2, rfl, rfl, rfl⟩
    | 12, _, hmi, hfi, e =>
      simp only [List.getElem?_cons_zero, List.getElem?_cons_succ, Option.some.injEq] at hmi
      subst hmi
      obtain ⟨r0, r1, r2⟩ := rowV hfi
      rw [e 0 (by decide)] at r0
      rw [e 1 (by decide)] at r1
      rw [e 2 (by decide)] at r2
      exact ⟨_, _, _, r0, r1, r2, rfl, rfl, rfl⟩
    | 13, _, hmi, hfi, e =>
      simp only [List.getElem?_cons_zero, List.getElem?_cons_succ, Option.some.injEq] at hmi
      subst hmi
      obtain ⟨r0, r1, r2⟩ := rowV hfi
      rw [e 0 (by decide)] at r0
      rw [e 1 (by decide)] at r1
      rw [e 2 (by decide)] at r2
      exact ⟨_, _, _, r0, r1, r2, rfl, rfl, rfl⟩
    | n + 14, h, _, _, _ => omega
  have hcs : cs = cellsV := by
    apply Array.ext'
    apply List.ext_getElem?
    intro j
    by_cases hj : j < 42
    · obtain ⟨s, b, k, a0, a1, a2, b0, b1, b2⟩ := hrow (j / 3) (by omega)
      have ej : j = j / 3 * 3 ∨ j = j / 3 * 3 + 1 ∨ j = j / 3 * 3 + 2 := by omega
      rw [Array.getElem?_toList] at a0 a1 a2 ⊢
      rw [Array.getElem?_toList]
      rcases ej with e | e | e
      · rw [e, a0, b0]
      · rw [e, a1, b1]
      · rw [e, a2, b2]
    · rw [List.getElem?_eq_none (by rw [hl]; omega), List.getElem?_eq_none (by show 42 ≤ j; omega)]
  subst hcs
  unfold World.var? at hvar
  rw [gV] at hvar
  simp only [Option.bind_some] at hvar
  split at hvar
  · rename_i cs' t fr hh
    cases hvar
    exact ⟨t, fr, hh⟩
  · cases hvar
end Go.Proofs.YtdamhdceajmdfaaDoor
