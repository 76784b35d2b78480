
-- has, stands, with: the document's.
import Derived.Test.YtiedimmbcmpfbaaEE
import Derived.Deep.QuietTactic
namespace Go.Proofs.Ytiedimmbcmpfbaa
open Go.ChangeShapes Go.WideShapes Go.ChangeAt Go.RowKit Go.MapKept
set_option linter.unusedVariables false
set_option maxRecDepth 100000
theorem strNe18 {x y : ByteArray} (h : x ≠ y) : (x.toList == y.toList) = false := strNe h
set_option maxHeartbeats 2000000 in
theorem rhas_c (v : Value) (L : List ByteArray) (x : ByteArray) (w : World) (h : RowT w v L) (hn : L.length < 4611686018427387904) :
    Calls Try.prog 15 #[v, .string x] w fun e w' => e = .returned (.bool (isIn L x)) ∧ w' = w := by
  obtain ⟨a1, c1, q1, _, _⟩ := h.form
  obtain ⟨n, hnn⟩ : ∃ n, n = L.length := ⟨_, rfl⟩
  have HN := hidK hnn
  have HV := hidK h
  subst q1
  rw [← hnn] at hn ⊢ HV
  clear h hnn
  go_enter Try.func15, Try.ntmps15
  go_wp2
  go_loopw [5] (fun i wx => ∃ k : Nat, i = .int .i64 k ∧ k ≤ n ∧ x ∉ L.take k ∧ wx = w) (fun i _ => n - (intOf i).toNat)
  case atStart => exact ⟨0, rfl, Nat.zero_le _, by simp, rfl⟩
  case round =>
    obtain ⟨k, rfl, hkn, ho, hB⟩ := hrel
    subst wr
    have HO := hidK ho
    clear ho
    by_cases hk : k < n
    · have kI : (k : Int) < (n : Int) := by omega
      have k0 : (0 : Int) ≤ (k : Int) := by omega
      have kw : IntKind.i64.wrap ((k : Int) + 1) = (k : Int) + 1 := by rw [IntKind.wrap_i64]; omega
      have hkl : k < L.length := by have := HN.out; omega
      obtain ⟨y, hy⟩ : ∃ x, L[k]? = some x := ⟨_, List.getElem?_eq_getElem hkl⟩
      obtain ⟨b1, o1, p1, e1, d0⟩ := HV.out.tx hy
      have HY := hidK hy
      injection e1 with e1 e1b e1c
      subst e1
      clear hy hkl e1b e1c HV
      by_cases hxy : y = x
      · subst hxy
        go_wp2
        go_ret
        refine ⟨?_, rfl⟩
        rw [isIn_iff.2 (List.mem_of_getElem? HY.out)]
        rfl
      · have hne := strNe18 hxy
        have HNE := hidK hxy
        clear hxy
        go_wp2
        go_roundw
        case rel =>
          refine ⟨k + 1, by go_num, by omega, ?_, by first | rfl | trivial⟩
          rw [takeSucc HY.out]
          intro hm
          rcases List.mem_append.1 hm with q | q
          · exact HO.out q
          · exact HNE.out (List.mem_singleton.1 q).symm
        case measure => simp [intOf]; omega
    · obtain rfl : k = n := by omega
      clear HV
      go_wp2
      go_ret
      refine ⟨?_, rfl⟩
      have := HO.out
      rw [HN.out, List.take_length] at this
      rw [isIn_no.2 this]
      rfl
theorem belDrewN {n : Nat} {a b : World} (h : Below n a b) (k : Nat) : Below n a (b.drewN k) := by
  induction k with
  | zero => exact h
  | succ k ih => exact ih.drew
theorem rowE_box {w : World} {b : Nat} {x y : ByteArray} (h : w.heap[b]? = some (.cells #[.string x, .string y] 38 (0, 0))) : w.cell? ⟨b, 0, none⟩ = some (.string x) ∧ w.cell? ⟨b, 1, none⟩ = some (.string y) := ⟨cell_rowK h 0 _ rfl, cell_rowK h 1 _ rfl⟩
set_option maxHeartbeats 4000000 in
theorem stands_c (v : Value) (L : List Ed) (x y : ByteArray) (w : World) (h : RowEd w v L) (hn : L.length < 4611686018427387904) :
    Calls Try.prog 19 #[v, .agg #[.string x, .string y]] w fun e w' => e = .returned (.bool (isIn L (x, y))) ∧ Below w.heap.size w w' := by
  obtain ⟨a1, c1, q1, _, _⟩ := h.form
  obtain ⟨n, hnn⟩ : ∃ n, n = L.length := ⟨_, rfl⟩
  have HN := hidK hnn
  subst q1
  rw [← hnn] at hn ⊢
  obtain ⟨X, hX⟩ : ∃ X, X = Obj.cells #[.string x, .string y] 38 := ⟨_, rfl⟩
  obtain ⟨w1, hw1⟩ : ∃ w1, w1 = w.alloc X := ⟨_, rfl⟩
  have hb1 : Below w.heap.size w w1 := by rw [hw1]; exact (Below.refl _ w).alloc (Nat.le_refl _) X
  have x0 : w1.heap[w.heap.size]? = some (.cells #[.string x, .string y] 38 (0, 0)) := by rw [hw1, heap_alloc_new, hX]
  have HX0 := hidK x0
  have HV := hidK (h.on hb1)
  rw [← hnn] at HV
  have HB1 := hidK hb1
  clear h hnn hb1 x0
  subst hX
  go_enter Try.func19, Try.ntmps19
  go_upto_region 1 with fail
  rw [← hw1]
  clear hw1
  go_wp2
  go_loopw [5] (fun i wx => ∃ k : Nat, i = .int .i64 k ∧ k ≤ n ∧ (x, y) ∉ L.take k ∧ Below w1.heap.size w1 wx) (fun i _ => n - (intOf i).toNat)
  case atStart => exact ⟨0, rfl, Nat.zero_le _, by simp, Below.refl _ _⟩
  case round =>
    obtain ⟨k, rfl, hkn, ho, hB⟩ := hrel
    have HO := hidK ho
    clear ho
    have hB2 : Below w.heap.size w wr := HB1.out.trans (hB.mono HB1.out.size)
    by_cases hk : k < n
    · have kI : (k : Int) < (n : Int) := by omega
      have k0 : (0 : Int) ≤ (k : Int) := by omega
      have kw : IntKind.i64.wrap ((k : Int) + 1) = (k : Int) + 1 := by rw [IntKind.wrap_i64]; omega
      have hkl : k < L.length := by have := HN.out; omega
      obtain ⟨⟨p, q⟩, hy⟩ : ∃ x, L[k]? = some x := ⟨_, List.getElem?_eq_getElem hkl⟩
      obtain ⟨b1, o1, p1, e1, d0, d1⟩ := (HV.out.on hB).ed hy
      obtain ⟨g0, g1⟩ := rowE_box (hkeepK hB HX0.out)
      have HY := hidK hy
      injection e1 with e1 e1b e1c
      subst e1
      simp only at d0 d1
      have hE := fun W => run_equalIn_ed W p q x y
      clear hy hkl e1b e1c HV
      by_cases hxy : p = x ∧ q = y
      · have hd : decide (p = x ∧ q = y) = true := decide_eq_true hxy
        simp only [hd] at hE
        obtain ⟨rfl, rfl⟩ := hxy
        clear hd
        go_wp2_with fail
        go_quiet (fail)
        have hB3 := belDrewN hB2 nq
        go_wp2
        go_ret
        refine ⟨?_, hB3⟩
        rw [isIn_iff.2 (List.mem_of_getElem? HY.out)]
        rfl
      · have hd : decide (p = x ∧ q = y) = false := decide_eq_false hxy
        simp only [hd] at hE
        have HNE := hidK hxy
        clear hxy hd
        go_wp2_with fail
        go_quiet (fail)
        have hB3 := belDrewN hB nq
        go_wp2
        go_roundw
        case rel =>
          refine ⟨k + 1, by go_num, by omega, ?_, hB3⟩
          rw [takeSucc HY.out]
          intro hm
          rcases List.mem_append.1 hm with z | z
          · exact HO.out z
          · have := List.mem_singleton.1 z
            injection this with z1 z2
            exact HNE.out ⟨z1.symm, z2.symm⟩
        case measure => simp [intOf]; omega
    · obtain rfl : k = n := by omega
      have HI : Hid (isIn L (x, y) = false) := isIn_no.2 (by have := HO.out; rw [HN.out, List.take_length] at this; exact this)
      clear HV
      go_wp2
      go_ret
      rw [HI.out]
      exact ⟨rfl, hB2⟩
set_option maxHeartbeats 4000000 in
theorem with_c (F : Nat → Prop) (v : Value) (L : List Ed) (x y : ByteArray) (w : World) (h : OwnF F edL 2 38 w v L) (hF : ∀ b, w.heap.size ≤ b → F b) (hn : L.length ≤ 2199023255552) :
    Calls Try.prog 14 #[v, .agg #[.string x, .string y]] w fun e w' => ∃ a l c, e = .returned (.slice a l c) ∧ OwnF F edL 2 38 w' (.slice a l c) (addD L (x, y)) ∧ Kp F w w' := by
  obtain ⟨a0, p0, q0, _⟩ := h.form
  obtain ⟨n, hnn⟩ : ∃ n, n = L.length := ⟨_, rfl⟩
  have HN := hidK hnn
  rw [← hnn] at q0 hn
  subst q0
  obtain ⟨X, hX⟩ : ∃ X, X = Obj.cells #[.string x, .string y] 38 := ⟨_, rfl⟩
  obtain ⟨w1, hw1⟩ : ∃ w1, w1 = w.alloc X := ⟨_, rfl⟩
  have hb1 : Below w.heap.size w w1 := by rw [hw1]; exact (Below.refl _ w).alloc (Nat.le_refl _) X
  have x0 : w1.heap[w.heap.size]? = some (.cells #[.string x, .string y] 38 (0, 0)) := by rw [hw1, heap_alloc_new, hX]
  obtain ⟨g0, g1⟩ := rowE_box x0
  have h1 := h.on hb1
  have HO := hidK h1
  have HF := hidK hF
  have HX0 := hidK x0
  have HB1 := hidK hb1
  have HA := hidK (stands_c _ L x y w1 (OwnF.row elE h1) (by omega))
  clear h h1 hF x0 hb1 hnn
  subst hX
  cases hi : isIn L (x, y) with
  | true =>
    rw [hi] at HA
    have HE : Hid (addD L (x, y) = L) := by show _ = _; unfold addD; rw [hi]; rfl
    clear hi
    go_enter Try.func14, Try.ntmps14
    go_upto_region 1 with fail
    rw [← hw1]
    clear hw1
    go_wp2_with (go_at_call 19; refine HA.out.mono ?_; rintro e w2 ⟨rfl, hb2⟩; have HB2 := hidK hb2; clear hb2)
    go_ret
    refine ⟨_, _, _, rfl, by rw [HE.out]; exact HO.out.on HB2.out, (Kp.of_below HB1.out).trans (Kp.of_below HB2.out)⟩
  | false =>
    rw [hi] at HA
    have HE : Hid (addD L (x, y) = L ++ [(x, y)]) := by show _ = _; unfold addD; rw [hi]; rfl
    clear hi
    go_enter Try.func14, Try.ntmps14
    go_upto_region 1 with fail
    rw [← hw1]
    clear hw1
    go_upto_region 2 with (go_at_call 19; refine HA.out.mono ?_; rintro e w2 ⟨rfl, hb2⟩; have HB2 := hidK hb2; clear hb2)
    obtain ⟨k0, k1⟩ := rowE_box (hkeepK HB2.out HX0.out)
    have HO2 := hidK (HO.out.on HB2.out)
    have HF2 : Hid (∀ b, w2.heap.size ≤ b → F b) := fun b hb => HF.out b (by have := HB1.out.size; have := HB2.out.size; omega)
    clear g0 g1
    go_wp2_with (refine wpG_one (F := F) elE rfl (.tmp 11) (.tmp 13) rfl (.slice a0 n p0) L (x, y) #[.string x, .string y] rfl rfl rfl HO2.out (edL_one _) (by have := HN.out; omega) HF2.out ?_; intro v4 w4 o4 k4 l4; have HO4 := hidK o4; have HK4 := hidK k4; obtain ⟨a4, p4, e4, _⟩ := o4.form; obtain ⟨m4, hm4⟩ : ∃ m, m = (L ++ [(x, y)]).length := ⟨_, rfl⟩; rw [← hm4] at e4; clear hm4 o4 k4 l4; subst e4)
    go_ret
    refine ⟨_, _, _, rfl, by rw [HE.out]; exact HO4.out, ((Kp.of_below HB1.out).trans (Kp.of_below HB2.out)).trans (HK4.out.weak (fun k hk => HO2.out.2 k hk))⟩
end Go.Proofs.Ytiedimmbcmpfbaa
