
-- The statements' same, has, without: lists of files.
import Derived.Test.YtbbblncoicjacaaGreatDoorFB
import Derived.Laws.MakeOwn
namespace Go.Proofs.YtbbblncoicjacaaGreatDoor
open Go.ChangeShapes Go.WideShapes Go.ChangeAt Go.RowKit
set_option linter.unusedVariables false
set_option linter.unusedSimpArgs false
def metV (m : Int × Int × Int × Int) : Value := .agg #[.int .i64 m.1, .int .i64 m.2.1, .int .i64 m.2.2.1, .int .i64 m.2.2.2]
theorem eqMeta16 (a b c d a' b' c' d' : Int) (w : World) : (Op.equalIn 9999 24 (.agg #[.int .i64 a, .int .i64 b, .int .i64 c, .int .i64 d]) (.agg #[.int .i64 a', .int .i64 b', .int .i64 c', .int .i64 d'])).run Tryz.prog w = .ok (decide ((a, b, c, d) = (a', b', c', d'))) w := by
  have u3 := Tryz.underlying3
  have a3 := Tryz.isAgg3
  have z3 := Tryz.sizeOf3
  have hS : Tryz.prog.underlying 24 = some (.struct (Tryz.prog.fieldsOf 24)) := by kernel_rfl
  rw [show (9999 : Nat) = 9998 + 1 from rfl, run_equalIn_agg w 9998 24 _ _ hS (by kernel_rfl)]
  simp only [Program.fieldsOf, Tryz.underlying24]
  by_cases h0 : a = a' <;> by_cases h1 : b = b' <;> by_cases h2 : c = c' <;> by_cases h3 : d = d' <;> (go_simp; try simp [h0, h1, h2, h3])
theorem tl_iff (a b : ByteArray) : a.toList = b.toList ↔ a = b := by
  constructor
  · intro h
    have := beq_toList a b
    rw [h] at this
    simpa using this.symm
  · intro h; rw [h]
theorem eqFil (n n' : ByteArray) (a b c d a' b' c' d' : Int) (dt dt' : ByteArray) (w : World) : (Op.equalIn 10000 26 (.agg #[.string n, .int .i64 a, .int .i64 b, .int .i64 c, .int .i64 d, .string dt]) (.agg #[.string n', .int .i64 a', .int .i64 b', .int .i64 c', .int .i64 d', .string dt'])).run Tryz.prog w = .ok (decide ((n, (a, b, c, d), dt) = (n', (a', b', c', d'), dt'))) w := by
  have u3 := Tryz.underlying3
  have a3 := Tryz.isAgg3
  have z3 := Tryz.sizeOf3
  have u9 := Tryz.underlying9
  have a9 := Tryz.isAgg9
  have z9 := Tryz.sizeOf9
  have uM := Tryz.underlying24
  have aM := Tryz.isAgg24
  have zM := Tryz.sizeOf24
  have hM := eqMeta16 a b c d a' b' c' d'
  have hS : Tryz.prog.underlying 26 = some (.struct (Tryz.prog.fieldsOf 26)) := by kernel_rfl
  rw [show (10000 : Nat) = 9999 + 1 from rfl, run_equalIn_agg w 9999 26 _ _ hS (by kernel_rfl)]
  simp only [Program.fieldsOf, Tryz.underlying26]
  go_simp
  simp only [tl_iff]
  by_cases h0 : n = n'
  · by_cases h1 : a = a' <;> by_cases h2 : b = b' <;> by_cases h3 : c = c' <;> by_cases h4 : d = d' <;> by_cases h5 : dt = dt' <;> simp [h0, h1, h2, h3, h4, h5]
  · simp [h0]
theorem belDrewN {B : Nat} {w w' : World} (h : Below B w w') (m : Nat) : Below B w (w'.drewN m) := by
  induction m with
  | zero => exact h
  | succ m ih => exact ih.drew
set_option maxHeartbeats 4000000 in
theorem sameF_c (v1 v2 : Value) (la lb : List Fil) (w : World) (h1 : RowF w v1 la) (h2 : RowF w v2 lb) (hn : la.length ≤ 67108864) (hn2 : lb.length ≤ 67108864) :
    Calls Tryz.prog 14 #[v1, v2] w fun e w' => e = .returned (.bool (decide (la = lb))) ∧ Below w.heap.size w w' := by
  obtain ⟨a1, c1, q1, _, _⟩ := h1.form
  obtain ⟨a2, c2, q2, _, _⟩ := h2.form
  by_cases hlen : la.length = lb.length
  case neg =>
    have HR : Hid (decide (la = lb) = false) := decide_eq_false fun e => hlen (by rw [e])
    obtain ⟨x, hx⟩ : ∃ x, x = la.length := ⟨_, rfl⟩
    obtain ⟨y, hy⟩ : ∃ y, y = lb.length := ⟨_, rfl⟩
    subst q1; subst q2
    rw [← hx, ← hy] at hlen
    rw [← hx, ← hy]
    have b1 : ((x : Int) == (y : Int)) = false := by simp; omega
    clear h1 h2 hx hy
    go_enter Tryz.func14, Tryz.ntmps14
    go_wp2
    go_ret
    exact ⟨by rw [HR.out]; rfl, Below.refl _ _⟩
  case pos =>
    obtain ⟨n, hnn⟩ : ∃ n, n = la.length := ⟨_, rfl⟩
    have HN := hidK hnn
    have HN2 : Hid (n = lb.length) := hnn.trans hlen
    have HQ1 := hidK h1
    have HQ2 := hidK h2
    subst q1
    subst q2
    rw [← hlen, ← hnn] at hn2 HQ2 ⊢
    rw [← hnn] at hn HQ1
    clear h1 h2 hnn hlen
    go_enter Tryz.func14, Tryz.ntmps14
    go_wp2
    go_loopw [5] (fun i wx => ∃ k : Nat, i = .int .i64 k ∧ k ≤ n ∧ la.take k = lb.take k ∧ Below w.heap.size w wx) (fun i _ => n - (intOf i).toNat)
    case atStart => exact ⟨0, rfl, Nat.zero_le _, rfl, Below.refl _ _⟩
    case round =>
      obtain ⟨k, rfl, hkn, htk, hB⟩ := hrel
      by_cases hk : k < n
      · have kI : (k : Int) < (n : Int) := by omega
        have k0 : (0 : Int) ≤ (k : Int) := by omega
        have hkl : k < la.length := by have := HN.out; omega
        have hkl2 : k < lb.length := by have := HN2.out; omega
        obtain ⟨x, hx⟩ : ∃ x, la[k]? = some x := ⟨_, List.getElem?_eq_getElem hkl⟩
        obtain ⟨y, hy⟩ : ∃ y, lb[k]? = some y := ⟨_, List.getElem?_eq_getElem hkl2⟩
        have HT : Hid (x = y → la.take (k + 1) = lb.take (k + 1)) := fun e => by rw [List.take_add_one, List.take_add_one, hx, hy, htk, e]
        have HF : Hid (x ≠ y → decide (la = lb) = false) := fun e => decide_eq_false fun e2 => e (by rw [e2, hy] at hx; exact (Option.some.inj hx).symm)
        obtain ⟨nn, ⟨m0, m1, m2, m3⟩, dt⟩ := x
        obtain ⟨nn', ⟨m0', m1', m2', m3'⟩, dt'⟩ := y
        obtain ⟨b1, o1, p1, e1, d0, d1, d2, d3, d4, d5⟩ := (HQ1.out.on hB).fil hx
        obtain ⟨b2, o2, p2, e2, f0, f1, f2, f3, f4, f5⟩ := (HQ2.out.on hB).fil hy
        injection e1 with e1 e1b e1c
        injection e2 with e2 e2b e2c
        subst e1
        subst e2
        have hE := eqFil nn nn' m0 m1 m2 m3 m0' m1' m2' m3' dt dt'
        obtain ⟨t, ht⟩ : ∃ t, t = decide ((nn, (m0, m1, m2, m3), dt) = (nn', (m0', m1', m2', m3'), dt')) := ⟨_, rfl⟩
        rw [← ht] at hE
        have HTT := hidK ht
        clear hx hy HQ1 HQ2 hkl hkl2 e1b e1c e2b e2c htk ht
        cases t
        · go_wp2_with fail
          go_quiet (fail)
          have hB2 := belDrewN hB nq
          go_wp2
          go_ret
          exact ⟨by rw [HF.out (of_decide_eq_false HTT.out.symm)]; rfl, hB2⟩
        · go_wp2_with fail
          go_quiet (fail)
          have hB2 := belDrewN hB nq
          go_wp2
          go_roundw
          case rel => exact ⟨k + 1, by go_num, by omega, HT.out (of_decide_eq_true HTT.out.symm), hB2⟩
          case measure => simp [intOf]; omega
      · obtain rfl : k = n := by omega
        have HR : Hid (decide (la = lb) = true) := decide_eq_true (by
          have h1 := HN.out
          have h2 := HN2.out
          rw [List.take_of_length_le (by omega), List.take_of_length_le (by omega)] at htk; exact htk)
        clear HQ1 HQ2 htk
        go_wp2
        go_ret
        exact ⟨by rw [HR.out]; rfl, hB⟩
end Go.Proofs.YtbbblncoicjacaaGreatDoor
