
-- shelflaw5.marked: a contract.
import Derived.Test.YtoikagccopglkaaDoorSK2
namespace Go.Proofs.YtoikagccopglkaaDoor
open Go.ChangeShapes Go.WideShapes Go.ChangeAt Go.RowKit
set_option linter.unusedVariables false
set_option maxRecDepth 100000
theorem eqSs (a b c d e f g h : Int) (w : World) : (Op.equalIn 10000 48 (.agg #[.int .i64 a, .int .i64 b, .int .u64 c, .int .i64 d, .int .i64 e, .int .u64 f, .int .u64 g, .int .u64 h]) (.agg #[.int .i64 a, .int .i64 b, .int .u64 c, .int .i64 d, .int .i64 e, .int .u64 f, .int .u64 g, .int .u64 h])).run Tryd.prog w = .ok true w := by
  have u3 := Tryd.underlying3
  have a3 := Tryd.isAgg3
  have z3 := Tryd.sizeOf3
  have u4 := Tryd.underlying40
  have a4 := Tryd.isAgg40
  have z4 := Tryd.sizeOf40
  have hS : Tryd.prog.underlying 48 = some (.struct (Tryd.prog.fieldsOf 48)) := by kernel_rfl
  rw [show (10000 : Nat) = 9999 + 1 from rfl, run_equalIn_agg w 9999 48 _ _ hS (by kernel_rfl)]
  simp only [Program.fieldsOf, Tryd.underlying48]
  go_simp
theorem eqSn (z : Int) (w : World) : (Op.equalIn 10000 48 (.agg #[.int .i64 z, .int .i64 (z + 1), .int .u64 0, .int .i64 0, .int .i64 0, .int .u64 0, .int .u64 0, .int .u64 0]) (.agg #[.int .i64 z, .int .i64 z, .int .u64 0, .int .i64 0, .int .i64 0, .int .u64 0, .int .u64 0, .int .u64 0])).run Tryd.prog w = .ok false w := by
  have hne : (z + 1 == z) = false := beq_eq_false_iff_ne.2 (by omega)
  have u3 := Tryd.underlying3
  have a3 := Tryd.isAgg3
  have z3 := Tryd.sizeOf3
  have u4 := Tryd.underlying40
  have a4 := Tryd.isAgg40
  have z4 := Tryd.sizeOf40
  have hS : Tryd.prog.underlying 48 = some (.struct (Tryd.prog.fieldsOf 48)) := by kernel_rfl
  rw [show (10000 : Nat) = 9999 + 1 from rfl, run_equalIn_agg w 9999 48 _ _ hS (by kernel_rfl)]
  simp only [Program.fieldsOf, Tryd.underlying48]
  go_simp
theorem row8_at {w : World} {B : Nat} {v : Value} {l : List S8} {k : Nat} {x : S8} (h : w.ownsRow B 48 8 v l.length (l.flatMap S8.v)) (hx : l[k]? = some x) : ∃ g cap, v = .slice (some ⟨g, 0, none⟩) l.length cap ∧ ∀ m u, m < 8 → x.v[m]? = some u → w.cell? ⟨g, k * 8 + m, none⟩ = some u := by
  have hk := (List.getElem?_eq_some_iff.1 hx).1
  rcases h.2 with ⟨_, h0⟩ | ⟨g, cap, cur, hv, hb, hg, h1, h2, h3, h4⟩
  · omega
  · refine ⟨g, cap, hv, fun m u hm hu => cell_rowG hg _ _ ?_⟩
    have e : (l.flatMap S8.v)[k * 8 + m]? = some u := by
      rw [← List.getElem?_drop, flatG_drop S8.v 8 S8.len, List.drop_eq_getElem_cons hk, List.flatMap_cons, List.getElem?_append_left (by rw [S8.len]; exact hm)]
      rw [List.getElem?_eq_getElem hk] at hx; injection hx with hx; rw [hx]; exact hu
    rw [← h4, List.getElem?_take_of_lt (by omega), Array.getElem?_toList] at e
    exact e
set_option maxHeartbeats 4000000 in
theorem marked5_c (v : Value) (l : List S8) (z : Int) (w : World) (B : Nat) (h : w.ownsRow B 48 8 v l.length (l.flatMap S8.v)) (hm : Mk8 z l) (hl : l.length ≤ 4194500) (hz0 : 0 ≤ z) (hz9 : z ≤ 1000) :
    Calls Tryd.prog 9 #[v, .int .i64 z] w fun e w' => e = .returned (.bool true) ∧ w' = w := by
  obtain ⟨ao, cap, rfl, _⟩ := ownG_form 8 h
  have HE := hidK h
  obtain ⟨n, hn⟩ : ∃ n, n = l.length := ⟨_, rfl⟩
  rw [← hn] at hl ⊢
  have HL : Hid (l.length = n) := hn.symm
  have HM := hidK hm
  clear hn hm h
  go_enter Tryd.func9, Tryd.ntmps9
  go_wp2
  go_loopw [5] (fun i wx => ∃ k : Nat, i = .int .i64 k ∧ k ≤ n ∧ wx = w) (fun i _ => n - (intOf i).toNat)
  case atStart => exact ⟨0, rfl, Nat.zero_le _, rfl⟩
  case round =>
    obtain ⟨k, rfl, hkn, hwr⟩ := hrel
    subst hwr
    by_cases hk : k < n
    · have kI : (k : Int) < (n : Int) := by omega
      have k0 : (0 : Int) ≤ (k : Int) := by omega
      obtain ⟨x, hx⟩ : ∃ x, l[k]? = some x := ⟨_, List.getElem?_eq_getElem (by rw [HL.out]; exact hk)⟩
      obtain ⟨b, cp, e1, d⟩ := row8_at HE.out hx
      injection e1 with e1 e2 e3
      subst e1
      have hm := HM.out k _ hx
      clear hx e2 e3
      rcases hm with rfl | rfl
      · have d0 := d 0 _ (by decide) rfl
        have d1 := d 1 _ (by decide) rfl
        have d2 := d 2 _ (by decide) rfl
        have d3 := d 3 _ (by decide) rfl
        have d4 := d 4 _ (by decide) rfl
        have d5 := d 5 _ (by decide) rfl
        have d6 := d 6 _ (by decide) rfl
        have d7 := d 7 _ (by decide) rfl
        simp only [mkX, Nat.add_zero] at d0 d1 d2 d3 d4 d5 d6 d7
        have hE := eqSs z z 0 0 0 0 0 0
        clear d
        go_wp2
        go_roundw
        case rel => exact ⟨k + 1, by go_num, by omega, by first | rfl | trivial⟩
        case measure => simp [intOf]; omega
      · have d0 := d 0 _ (by decide) rfl
        have d1 := d 1 _ (by decide) rfl
        have d2 := d 2 _ (by decide) rfl
        have d3 := d 3 _ (by decide) rfl
        have d4 := d 4 _ (by decide) rfl
        have d5 := d 5 _ (by decide) rfl
        have d6 := d 6 _ (by decide) rfl
        have d7 := d 7 _ (by decide) rfl
        simp only [agX, Nat.add_zero] at d0 d1 d2 d3 d4 d5 d6 d7
        have hE := eqSn z
        have hF := eqSs z (z + 1) 0 0 0 0 0 0
        clear d
        go_wp2
        go_roundw
        case rel => exact ⟨k + 1, by go_num, by omega, by first | rfl | trivial⟩
        case measure => simp [intOf]; omega
    · obtain rfl : k = n := by omega
      go_wp2
      go_ret
      exact ⟨rfl, rfl⟩
end Go.Proofs.YtoikagccopglkaaDoor
