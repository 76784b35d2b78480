
-- roomy, fill, full; an append that leaves its list as it was.
import Derived.Test.YtebgannhecmnmaaLY
import Derived.Laws.OwnMore
namespace Go.Proofs.Ytebgannhecmnmaa
open Go.ChangeShapes Go.WideShapes Go.ChangeAt Go.RowKit Go.MapKept
set_option linter.unusedVariables false
set_option maxRecDepth 100000
set_option maxHeartbeats 8000000 in
theorem roomy_c (v0 v1 v2 v3 v4 : Value) (L : Lb) (B : Nat) (w : World) (h : LbTw B w v0 v1 v2 v3 v4 L) :
    Calls Try.prog 27 #[.agg #[v0, v1, v2, v3, v4]] w fun e w' => e = .returned (.bool true) ∧ Below w.heap.size w w' := by
  obtain ⟨g0, c0, e0, p0, q0, r0⟩ := h.e.last elE
  obtain ⟨g1, c1, e1, p1, q1, r1⟩ := h.r.a.last elI
  obtain ⟨g2, c2, e2, p2, q2, r2⟩ := h.r.n.last elT
  have d0 := r0 0 _ rfl
  have d3 := r0 1 _ rfl
  have d1 := r1 0 _ rfl
  have d2 := r2 0 _ rfl
  rw [Nat.mul_one, Nat.add_zero] at d1 d2
  rw [Nat.add_zero] at d0
  obtain ⟨l0, hl0⟩ : ∃ l, l = L.e.length := ⟨_, rfl⟩
  obtain ⟨l1, hl1⟩ : ∃ l, l = L.a.length := ⟨_, rfl⟩
  obtain ⟨l2, hl2⟩ : ∃ l, l = L.n.length := ⟨_, rfl⟩
  rw [← hl0] at e0 p0 d0 d3
  rw [← hl1] at e1 p1 d1
  rw [← hl2] at e2 p2 d2
  subst e0 e1 e2
  unfold maxLen at q0 q1 q2
  obtain ⟨S, hS⟩ : ∃ S, S = Obj.cells #[.slice (some ⟨g0, 0, none⟩) l0 c0, .slice (some ⟨g1, 0, none⟩) l1 c1, .slice (some ⟨g2, 0, none⟩) l2 c2, v3, v4] 37 := ⟨_, rfl⟩
  obtain ⟨w1, hw1⟩ : ∃ w1, w1 = w.alloc S := ⟨_, rfl⟩
  have hb1 : Below w.heap.size w w1 := by rw [hw1]; exact (Below.refl _ w).alloc (Nat.le_refl _) S
  have hx0 : w1.heap[w.heap.size]? = some (.cells #[.slice (some ⟨g0, 0, none⟩) l0 c0, .slice (some ⟨g1, 0, none⟩) l1 c1, .slice (some ⟨g2, 0, none⟩) l2 c2, v3, v4] 37 (0, 0)) := by rw [hw1, heap_alloc_new, hS]
  obtain ⟨y0, y1, y2, y3, y4⟩ := lib_cells hx0
  have d0' := cell_onG d0 hb1
  have d1' := cell_onG d1 hb1
  have d2' := cell_onG d2 hb1
  have d3' := cell_onG d3 hb1
  have HB1 := hidK hb1
  have k0 : IntKind.i64.wrap ((l0 : Int) + 1) = (l0 : Int) + 1 := by rw [IntKind.wrap_i64]; omega
  have k1 : IntKind.i64.wrap ((l1 : Int) + 1) = (l1 : Int) + 1 := by rw [IntKind.wrap_i64]; omega
  have k2 : IntKind.i64.wrap ((l2 : Int) + 1) = (l2 : Int) + 1 := by rw [IntKind.wrap_i64]; omega
  have n0 : (l0 : Int) + 1 ≤ (c0 : Int) := by omega
  have n1 : (l1 : Int) + 1 ≤ (c1 : Int) := by omega
  have n2 : (l2 : Int) + 1 ≤ (c2 : Int) := by omega
  have hE := fun W => run_equalIn_en W ⟨#[]⟩ (-7)
  have hs : slT = ⟨#[47]⟩ := rfl
  rw [hs] at d2'
  simp only at d0' d3'
  clear h r0 r1 r2 d0 d1 d2 d3 hl0 hl1 hl2 hb1 hx0 hs
  subst hS
  go_enter Try.func27, Try.ntmps27
  go_upto_region 1 with fail
  rw [← hw1]
  clear hw1
  go_wp2
  go_ret
  exact ⟨rfl, HB1.out⟩
set_option maxHeartbeats 4000000 in
theorem full_c (v : Value) (L : List ByteArray) (x : ByteArray) (w : World) (h : RowT w v L) (hx : ∀ y ∈ L, y = x) (hn : L.length < 4611686018427387904) :
    Calls Try.prog 29 #[v, .string x] w fun e w' => e = .returned (.bool true) ∧ w' = w := by
  obtain ⟨a1, c1, q1, _, _⟩ := h.form
  obtain ⟨n, hnn⟩ : ∃ n, n = L.length := ⟨_, rfl⟩
  have HN := hidK hnn
  have HV := hidK h
  have HX := hidK hx
  subst q1
  rw [← hnn] at hn ⊢ HV
  clear h hnn hx
  go_enter Try.func29, Try.ntmps29
  go_wp2
  go_loopw [5] (fun i wx => ∃ k : Nat, i = .int .i64 k ∧ k ≤ n ∧ wx = w) (fun i _ => n - (intOf i).toNat)
  case atStart => exact ⟨0, rfl, Nat.zero_le _, rfl⟩
  case round =>
    obtain ⟨k, rfl, hkn, hB⟩ := hrel
    subst wr
    by_cases hk : k < n
    · have kI : (k : Int) < (n : Int) := by omega
      have k0 : (0 : Int) ≤ (k : Int) := by omega
      have kw : IntKind.i64.wrap ((k : Int) + 1) = (k : Int) + 1 := by rw [IntKind.wrap_i64]; omega
      have hkl : k < L.length := by have := HN.out; omega
      obtain ⟨y, hy⟩ : ∃ x, L[k]? = some x := ⟨_, List.getElem?_eq_getElem hkl⟩
      obtain rfl := HX.out y (List.mem_of_getElem? hy)
      obtain ⟨b1, o1, p1, e1, d0⟩ := HV.out.tx hy
      injection e1 with e1 e1b e1c
      subst e1
      clear hy hkl e1b e1c HV
      go_wp2
      go_roundw
      case rel => exact ⟨k + 1, by go_num, by omega, by first | rfl | trivial⟩
      case measure => simp [intOf]; omega
    · obtain rfl : k = n := by omega
      clear HV
      go_wp2
      go_ret
      exact ⟨rfl, rfl⟩
theorem sizeStr : (Try.prog.info? 9).map (·.size) = some 1 := by kernel_rfl
set_option maxHeartbeats 4000000 in
theorem fill_c (F : Nat → Prop) (v : Value) (L : List ByteArray) (x : ByteArray) (w : World) (h : OwnF F txL 1 9 w v L) (hn : L.length < 4611686018427387904) :
    Calls Try.prog 25 #[v, .string x] w fun e w' => e = .returned (.tuple #[]) ∧ (∃ M : List ByteArray, M.length = L.length ∧ (∀ y ∈ M, y = x) ∧ OwnF F txL 1 9 w' v M) ∧ Kp (fun k => v.ownBlock = some k) w w' := by
  obtain ⟨a1, c1, q1, hc⟩ := h.form
  obtain ⟨n, hnn⟩ : ∃ n, n = L.length := ⟨_, rfl⟩
  have HN := hidK hnn
  have HV := hidK h
  subst q1
  rw [← hnn] at hn ⊢ HV hc
  clear h hnn
  go_enter Try.func25, Try.ntmps25
  go_wp2
  go_loopw [4] (fun i wx => ∃ k : Nat, i = .int .i64 k ∧ k ≤ n ∧ (∃ M : List ByteArray, M.length = n ∧ (∀ i y, i < k → M[i]? = some y → y = x) ∧ OwnF F txL 1 9 wx (.slice a1 n c1) M) ∧ Kp (fun k => (Value.slice a1 n c1).ownBlock = some k) w wx) (fun i _ => n - (intOf i).toNat)
  case atStart => exact ⟨0, rfl, Nat.zero_le _, ⟨L, HN.out.symm, fun i y hi => by omega, HV.out⟩, Kp.refl _ _⟩
  case round =>
    obtain ⟨k, rfl, hkn, ⟨M, hM, hx, ho⟩, hB⟩ := hrel
    clear HV
    have HM := hidK hM
    have HX := hidK hx
    have HB := hidK hB
    by_cases hk : k < n
    · have kI : (k : Int) < (n : Int) := by omega
      have k0 : (0 : Int) ≤ (k : Int) := by omega
      have kw : IntKind.i64.wrap ((k : Int) + 1) = (k : Int) + 1 := by rw [IntKind.wrap_i64]; omega
      have ho1 := ho.1
      rw [hM] at ho1
      cases a1 with
      | none =>
        exfalso
        rcases ho1.2 with ⟨_, h0⟩ | ⟨g, cap, cur, h0, _⟩
        · omega
        · cases h0
      | some ad =>
        obtain ⟨g, rfl⟩ : ∃ g, ad = ⟨g, 0, none⟩ := by
          rcases ho1.2 with ⟨h0, _⟩ | ⟨g, cap, cur, h0, _⟩
          · cases h0
          · injection h0 with h0 _ _; injection h0 with h0; exact ⟨g, h0⟩
        obtain ⟨cur, g1, g2, g3, g4, g5, g6, g7⟩ := ownG_cur txL 1 (by decide) txL_len ho1
        have HG1 := hidK g1
        have HC := hidK (And.intro g3 (And.intro g4 (And.intro g5 (And.intro g6 g7))))
        have HFG := hidK (ho.2 g rfl)
        have hfit : Nat.ble (k + 1) cur.size = true := Nat.ble_eq_true_of_le (by omega)
        clear hM hx hB ho ho1 g1 g2 g3 g4 g5 g6 g7
        go_wp2_with (refine wpList_store_row_G rfl rfl 9 _ _ rfl g k (.string x) (by first | rfl | simp [Act.eval]) (by rfl) 9 cur (putG cur (k * 1) (txL x).toArray) HG1.out sizeStr hfit rfl (by rw [Nat.mul_one]; rfl) ?_; intro W4 h4 k4; have HW4 := hidK h4; have HK4 := hidK k4; clear h4 k4)
        go_roundw
        case rel =>
          obtain ⟨g3, g4, g5, g6, g7⟩ := HC.out
          have hown := ownG_put (B := 0) txL 1 txL_len x hk (Nat.zero_le _) g3 g4 g5 g6 g7 HW4.out
          refine ⟨k + 1, by go_num, by omega, ⟨M.set k x, by rw [List.length_set]; exact HM.out, fun i y hi hy => ?_, ⟨by rw [List.length_set, HM.out]; exact hown, fun q hq => by simp [Value.ownBlock] at hq; subst hq; exact HFG.out⟩⟩, HB.out.trans (Kp.grown HK4.out (fun q hq => by rw [← hq]; rfl))⟩
          by_cases hik : i = k
          · subst hik
            rw [List.getElem?_set_self (by have := HM.out; omega)] at hy
            injection hy with hy
            exact hy.symm
          · rw [List.getElem?_set_ne (fun e => hik e.symm)] at hy
            exact HX.out i y (by omega) hy
        case measure => simp [intOf]; omega
    · obtain rfl : k = n := by omega
      have HO := hidK ho
      clear hM hx hB ho
      go_wp2
      go_end0
      refine ⟨rfl, ⟨M, HM.out, fun y hy => ?_, HO.out⟩, HB.out⟩
      obtain ⟨i, hi⟩ := List.getElem?_of_mem hy
      exact HX.out i y (by have := (List.getElem?_eq_some_iff.1 hi).1; have := HM.out; omega) hi
end Go.Proofs.Ytebgannhecmnmaa
