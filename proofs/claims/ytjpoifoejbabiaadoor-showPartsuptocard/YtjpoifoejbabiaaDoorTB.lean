
-- What the tables hold.
import Derived.Test.YtjpoifoejbabiaaDoorTL
import Derived.OpenShut
import Derived.Lib.LaidTab
import Derived.Stop.LaidErr
namespace Go.Proofs.YtjpoifoejbabiaaDoor
open Go.ChangeShapes Go.WideShapes Go.ChangeAt Go.RowKit
set_option linter.unusedVariables false
set_option maxRecDepth 100000
theorem c3m : Tryd.prog.cellsOf 3 = 1 := by kernel_rfl
theorem c5m : Tryd.prog.cellsOf 5 = 1 := by kernel_rfl
theorem c29m : Tryd.prog.cellsOf 51 = 5 := by kernel_rfl
theorem c30m : Tryd.prog.cellsOf 52 = 15 := by kernel_rfl
theorem one_of {cs : List Value} {i : Nat} {x : Value} (h : (cs.drop i).take 1 = [x]) : cs[i]? = some x := by
  have := congrArg (fun l : List Value => l[0]?) h
  simpa [List.getElem?_take, List.getElem?_drop] using this
theorem row_of {H : Type} {enc : TypeId × Value → H} {w : World} {base : Nat} {sp : Nat → Bool} {held : Bool} {fuel : Nat} {cs : List Value} {a b c d e : Int} {p : List MemPlace}
    (h : DataW.trod enc Tryd.prog w base sp held fuel 51 cs = some (.agg [.lit (.int .i64 a), .lit (.int .i64 b), .lit (.int .i64 c), .lit (.int .i64 d), .lit (.int .u8 e)], p)) :
    cs[0]? = some (.int .i64 a) ∧ cs[1]? = some (.int .i64 b) ∧ cs[2]? = some (.int .i64 c) ∧ cs[3]? = some (.int .i64 d) ∧ cs[4]? = some (.int .u8 e) := by
  obtain ⟨xs, n, _, hx, hl, hlen, hf⟩ := DataW.trod_struct Tryd.underlying51 h
  have hm := (congrArg Prod.fst hx).symm
  simp only [DataW.agg.injEq] at hm
  match xs, hlen, hm, hf with
  | [x0, x1, x2, x3, x4], _, hm, hf =>
    simp only [List.map_cons, List.map_nil, List.cons.injEq, and_true] at hm
    obtain ⟨m0, m1, m2, m3, m4⟩ := hm
    have g0 := hf 0 _ rfl
    have g1 := hf 1 _ rfl
    have g2 := hf 2 _ rfl
    have g3 := hf 3 _ rfl
    have g4 := hf 4 _ rfl
    simp only [List.getElem?_cons_zero, List.getElem?_cons_succ] at g0 g1 g2 g3 g4
    obtain ⟨z0, k0, rfl, _⟩ := DataW.trod_int Tryd.underlying3 g0
    obtain ⟨z1, k1, rfl, _⟩ := DataW.trod_int Tryd.underlying3 g1
    obtain ⟨z2, k2, rfl, _⟩ := DataW.trod_int Tryd.underlying3 g2
    obtain ⟨z3, k3, rfl, _⟩ := DataW.trod_int Tryd.underlying3 g3
    obtain ⟨z4, k4, rfl, _⟩ := DataW.trod_int Tryd.underlying5 g4
    simp only [DataW.lit.injEq, Lit.int.injEq, true_and] at m0 m1 m2 m3 m4
    subst m0 m1 m2 m3 m4
    exact ⟨one_of k0, one_of k1, one_of k2, one_of k3, one_of k4⟩
theorem gG : Tryd.prog.globalNamed "shelf/text.modeGroups" = some 0 := by kernel_rfl
theorem gGt : (Tryd.prog.globals[0]?).map (·.type) = some 52 := by kernel_rfl
theorem mode_of {W : World} {rest : List (String × DataW Unit)} (h : laidMet Tryd.prog (("shelf/text.modeGroups", Rows.laid_shelf_text_modeGroups) :: rest) W) : ModeTab W := by
  obtain ⟨ps, ⟨g', t', cs, fuel, p, q, hg', ht', hvar, hd, _, _⟩, _⟩ := h
  obtain rfl := Option.some.inj (gG.symm.trans hg')
  obtain rfl := Option.some.inj (gGt.symm.trans ht')
  obtain ⟨xs, m, _, hx, hl, hlen, hf⟩ := DataW.trod_array Tryd.underlying52 hd
  have hm := (congrArg Prod.fst hx).symm
  simp only [Rows.laid_shelf_text_modeGroups, DataW.agg.injEq] at hm
  match xs, hlen, hm, hf with
  | [x0, x1, x2], _, hm, hf =>
    simp only [List.map_cons, List.map_nil, List.cons.injEq, and_true] at hm
    obtain ⟨m0, m1, m2⟩ := hm
    have g0 := hf 0 (by decide)
    have g1 := hf 1 (by decide)
    have g2 := hf 2 (by decide)
    rw [c29m] at g0 g1 g2
    simp only [List.getElem?_cons_zero, List.getElem?_cons_succ] at g0 g1 g2
    obtain ⟨d0, p0⟩ := x0
    obtain ⟨d1, p1⟩ := x1
    obtain ⟨d2, p2⟩ := x2
    simp only [] at m0 m1 m2
    subst m0 m1 m2
    have r0 := row_of g0
    have r1 := row_of g1
    have r2 := row_of g2
    rw [c30m] at hl
    have hcs : cs = cellsM := by
      apply Array.ext'
      apply List.ext_getElem?
      intro i
      have e : ∀ j k, k < 5 → ((cs.toList.drop (j * 5)).take 5)[k]? = cs.toList[j * 5 + k]? := by
        intro j k hk
        simp [List.getElem?_drop, hk]
      simp only [e 0 _ (by decide : 0 < 5), e 0 _ (by decide : 1 < 5), e 0 _ (by decide : 2 < 5), e 0 _ (by decide : 3 < 5), e 0 _ (by decide : 4 < 5)] at r0
      simp only [e 1 _ (by decide : 0 < 5), e 1 _ (by decide : 1 < 5), e 1 _ (by decide : 2 < 5), e 1 _ (by decide : 3 < 5), e 1 _ (by decide : 4 < 5)] at r1
      simp only [e 2 _ (by decide : 0 < 5), e 2 _ (by decide : 1 < 5), e 2 _ (by decide : 2 < 5), e 2 _ (by decide : 3 < 5), e 2 _ (by decide : 4 < 5)] at r2
      obtain ⟨a0, a1, a2, a3, a4⟩ := r0
      obtain ⟨a5, a6, a7, a8, a9⟩ := r1
      obtain ⟨a10, a11, a12, a13, a14⟩ := r2
      by_cases hi : i < 15
      · match i, hi with
        | 0, _ => exact a0
        | 1, _ => exact a1
        | 2, _ => exact a2
        | 3, _ => exact a3
        | 4, _ => exact a4
        | 5, _ => exact a5
        | 6, _ => exact a6
        | 7, _ => exact a7
        | 8, _ => exact a8
        | 9, _ => exact a9
        | 10, _ => exact a10
        | 11, _ => exact a11
        | 12, _ => exact a12
        | 13, _ => exact a13
        | 14, _ => exact a14
        | n + 15, hn => omega
      · rw [List.getElem?_eq_none (by rw [hl]; omega), List.getElem?_eq_none (by show 15 ≤ i; omega)]
    subst hcs
    unfold World.var? at hvar
    rw [gG] at hvar
    simp only [Option.bind_some] at hvar
    split at hvar
    · rename_i cs' t fr hh
      cases hvar
      exact ⟨t, fr, hh⟩
    · cases hvar
theorem gMb : Tryd.prog.globalNamed "shelf/text.monthDays" = some 2 := by kernel_rfl
theorem gMtb : (Tryd.prog.globals[2]?).map (·.type) = some 92 := by kernel_rfl
theorem c39b : Tryd.prog.cellsOf 92 = 12 := by kernel_rfl
theorem c3b : Tryd.prog.cellsOf 3 = 1 := by kernel_rfl
theorem gPtb : (Tryd.prog.globals[4]?).map (·.type) = some 94 := by kernel_rfl
theorem c67b : Tryd.prog.cellsOf 94 = 20 := by kernel_rfl
theorem c55b : Tryd.prog.cellsOf 83 = 1 := by kernel_rfl
theorem gN : Tryd.prog.globalNamed "shelf/text.months" = some 1 := by kernel_rfl
theorem gNt : (Tryd.prog.globals[1]?).map (·.type) = some 58 := by kernel_rfl
theorem c9b : Tryd.prog.cellsOf 9 = 1 := by kernel_rfl
theorem list10 : Lib.pow10Tab = [1, 10, 100, 1000, 10000, 100000, 1000000, 10000000, 100000000, 1000000000, 10000000000, 100000000000, 1000000000000, 10000000000000, 100000000000000, 1000000000000000, 10000000000000000, 100000000000000000, 1000000000000000000, 10000000000000000000] := by decide
theorem tab10 {W : World} {rest : List (String × DataW Unit)} (h : laidMet Tryd.prog (("internal/strconv.uint64pow10", Rows.laid_internal_strconv_uint64pow10) :: rest) W) : Lib.TabIs Tryd.prog W "internal/strconv.uint64pow10" .u64 Lib.pow10Tab := by
  rw [list10]
  exact Lib.tabIs_of_head (rest := rest) gPow gPtb Tryd.underlying94 Tryd.underlying83 c55b c67b h
theorem tabM {W : World} {rest : List (String × DataW Unit)} (h : laidMet Tryd.prog (("shelf/text.monthDays", Rows.laid_shelf_text_monthDays) :: rest) W) : Lib.TabIs Tryd.prog W "shelf/text.monthDays" .i64 [31, 28, 31, 30, 31, 30, 31, 31, 30, 31, 30, 31] :=
  Lib.tabIs_of_head (rest := rest) gMb gMtb Tryd.underlying92 Tryd.underlying3 c3b c39b h
theorem mon_of {W : World} {rest : List (String × DataW Unit)} (h : laidMet Tryd.prog (("shelf/text.monthDays", Rows.laid_shelf_text_monthDays) :: rest) W) : MonTab W := by
  intro i hi
  have hc := (tabM h).cell gMb i (by simpa using hi)
  have he : ∀ k : Fin 12, ([31, 28, 31, 30, 31, 30, 31, 31, 30, 31, 30, 31] : List Int).getD k.val 0 = ml 1 ((k.val : Int) + 1) := by decide
  rw [hc]
  exact congrArg (fun x => some (Value.int .i64 x)) (he ⟨i, hi⟩)
def nl : List (List UInt8) := [[74, 97, 110], [70, 101, 98], [77, 97, 114], [65, 112, 114], [77, 97, 121], [74, 117, 110], [74, 117, 108], [65, 117, 103], [83, 101, 112], [79, 99, 116], [78, 111, 118], [68, 101, 99]]
theorem laid_nl {H : Type} : (Rows.laid_shelf_text_months : DataW H) = .agg (nl.map fun l => .lit (.string l)) := rfl
theorem names_of {W : World} {rest : List (String × DataW Unit)} (h : laidMet Tryd.prog (("shelf/text.months", Rows.laid_shelf_text_months) :: rest) W) : ∀ i : Nat, i < 12 → W.cell? ⟨1, i, none⟩ = some (.string (mName i)) := by
  intro i hi
  obtain ⟨ps, ⟨g', t', cs, fuel, p, q, hg', ht', hvar, hd, _, _⟩, _⟩ := h
  obtain rfl := Option.some.inj (gN.symm.trans hg')
  obtain rfl := Option.some.inj (gNt.symm.trans ht')
  rw [laid_nl] at hd
  obtain ⟨xs, m, _, hx, hl, hlen, hf⟩ := DataW.trod_array Tryd.underlying58 hd
  have hm := (congrArg Prod.fst hx).symm
  simp only [DataW.agg.injEq] at hm
  have hfi := hf i hi
  rw [c9b] at hfi
  have hxi : xs[i]? = some (xs[i]'(by omega)) := List.getElem?_eq_getElem (by omega)
  rw [hxi] at hfi
  obtain ⟨s, hs, hxe, _⟩ := DataW.trod_string Tryd.underlying9 hfi
  have h1 : cs.toList[i]? = some (.string s) := by
    have := congrArg (fun l : List Value => l[0]?) hs
    simpa [List.getElem?_take, List.getElem?_drop] using this
  have h2 : (xs.map (·.1))[i]? = some (DataW.lit (.string s.data.toList)) := by
    rw [List.getElem?_map, hxi, hxe]; rfl
  rw [hm] at h2
  have h3 : nl[i]? = some s.data.toList := by
    rw [List.getElem?_map] at h2
    rcases e : nl[i]? with _ | l
    · rw [e] at h2; simp at h2
    · rw [e] at h2
      simp only [Option.map_some, Option.some.injEq, DataW.lit.injEq, Lit.string.injEq] at h2
      rw [h2]
  have h4 : mName i = s := by
    show strB (nl.getD i []) = s
    simp only [List.getD, h3, Option.getD_some]
    cases s; simp [strB]
  rw [h4]
  have := World.var?_cell gN hvar i
  rw [this]
  simpa using h1
theorem gD6 : Tryd.prog.globalNamed "internal/strconv.uint64pow10" = some 4 := by kernel_rfl
theorem ltabs_of {W : World} (h : laidMet Tryd.prog [("math/bits.deBruijn32tab", Rows.laid_math_bits_deBruijn32tab), ("math/bits.deBruijn64tab", Rows.laid_math_bits_deBruijn64tab), ("internal/strconv.uint64pow10", Rows.laid_internal_strconv_uint64pow10), ("shelf/text.months", Rows.laid_shelf_text_months), ("shelf/text.monthDays", Rows.laid_shelf_text_monthDays), ("shelf/text.modeGroups", Rows.laid_shelf_text_modeGroups)] W) : LTabs W := by
  have c1 := World.block_lt_of_cell? W _ (names_of h.tail.tail.tail 0 (by decide))
  have c2 := World.block_lt_of_cell? W _ (mon_of h.tail.tail.tail.tail 0 (by decide))
  have c3 := World.block_lt_of_cell? W _ ((tab10 h.tail.tail).cell gPow 0 (by decide))
  have hs : 5 ≤ W.heap.size := by simp only [] at c1 c2 c3; omega
  exact ⟨mode_of h.tail.tail.tail.tail.tail, ⟨names_of h.tail.tail.tail, mon_of h.tail.tail.tail.tail, tab10 h.tail.tail, hs⟩⟩
end Go.Proofs.YtjpoifoejbabiaaDoor
